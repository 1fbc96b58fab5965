/- Proved here: quotients of the model, to the nearest. -/
import Derived.Test.YtiipepddlbgodaaQuM
namespace Go.Proofs.Ytiipepddlbgodaa
open Go.RowKit
set_option linter.unusedVariables false
set_option linter.unusedSimpArgs false

set_option maxHeartbeats 1600000 in
theorem spec_near0 (a b : Int) (hb : 1 ≤ b ∧ b ≤ 1000) (ha : 0 ≤ a ∧ a ≤ 1000000000000000) (w : World) :
    Calls Try.prog 46 #[.int .i64 a, .int .i64 b] w fun e w' => e = .returned (.int .i64 ((2 * a + b) / (2 * b))) ∧ w' = w := by
  have hb0 : 0 ≤ a ∧ a ≤ 1000000000000000 := by omega
  obtain ⟨Q, hQ⟩ : ∃ Q, Q = (2 * a + b) / (2 * b) := ⟨_, rfl⟩
  have hT : Int.tdiv (2 * a + b) (2 * b) = Q := by rw [Int.tdiv_eq_ediv_of_nonneg (by omega)]; exact hQ.symm
  have hQ0 : 0 ≤ Q := by rw [hQ]; exact Int.ediv_nonneg (by omega) (by omega)
  have hQ1 : Q ≤ 4000000000000000 := by
    have h1 := Int.ediv_le_self (b := 2 * b) (show 0 ≤ 2 * a + b by omega)
    rw [← hQ] at h1
    omega
  have hq : (2 * b == 0) = false := by simp; omega
  rw [← hQ]
  have hw1 : IntKind.i64.wrap (2 * a) = 2 * a := by rw [IntKind.wrap_i64]; omega
  have hw2 : IntKind.i64.wrap (2 * a + b) = 2 * a + b := by rw [IntKind.wrap_i64]; omega
  have hw3 : IntKind.i64.wrap (2 * b) = 2 * b := by rw [IntKind.wrap_i64]; omega
  have hw4 : IntKind.i64.wrap Q = Q := by rw [IntKind.wrap_i64]; omega
  have h : ¬ a < 0 := by omega
  clear hQ
  go_enter Try.func46, Try.ntmps46
  go_wp2
  go_returns
  exact ⟨rfl, rfl⟩

set_option maxHeartbeats 1600000 in
theorem spec_near (a b : Int) (hb : 1 ≤ b ∧ b ≤ 1000) (ha : -1000000000000000 ≤ a ∧ a ≤ 1000000000000000) (w : World) :
    Calls Try.prog 46 #[.int .i64 a, .int .i64 b] w fun e w' => e = .returned (.int .i64 (nqV a b)) ∧ w' = w := by
  by_cases h : a < 0
  · rw [nqV, if_pos h]
    have hw0 : IntKind.i64.wrap (-a) = -a := by rw [IntKind.wrap_i64]; omega
    obtain ⟨A, hA⟩ : ∃ A, A = -a := ⟨_, rfl⟩
    obtain ⟨Q, hQ⟩ : ∃ Q, Q = (2 * A + b) / (2 * b) := ⟨_, rfl⟩
    have HQ : Hid (∀ W, Calls Try.prog 46 #[.int .i64 A, .int .i64 b] W fun e w' => e = .returned (.int .i64 Q) ∧ w' = W) := fun W => by rw [hQ]; exact spec_near0 A b hb (by omega) W
    have hQ0 : 0 ≤ Q := by rw [hQ]; exact Int.ediv_nonneg (by omega) (by omega)
    have hQ1 : Q ≤ 4000000000000000 := by
      have h1 := Int.ediv_le_self (b := 2 * b) (show 0 ≤ 2 * A + b by omega)
      rw [← hQ] at h1
      omega
    have hw5 : IntKind.i64.wrap (-Q) = -Q := by rw [IntKind.wrap_i64]; omega
    rw [← hA] at hw0 ⊢
    rw [← hQ]
    clear hQ
    have HA : Hid (A = -a) := hA
    clear hA
    go_enter Try.func46, Try.ntmps46
    go_wp2_with (fail)
    rw [← HA.out]
    try rw [hw0]
    refine (HQ.out _).mono ?_
    rintro e w1 ⟨rfl, hw⟩
    subst w1
    go_wp2
    go_returns
    exact ⟨rfl, rfl⟩
  · rw [nqV, if_neg h]
    exact spec_near0 a b hb (by omega) w

end Go.Proofs.Ytiipepddlbgodaa
