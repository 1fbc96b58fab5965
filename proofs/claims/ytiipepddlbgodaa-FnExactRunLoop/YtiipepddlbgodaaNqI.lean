/- Proved here: quotients of the program, to the nearest. -/
import Derived.Test.YtiipepddlbgodaaQuM
namespace Go.Proofs.Ytiipepddlbgodaa
open Go.RowKit
set_option linter.unusedVariables false
set_option linter.unusedSimpArgs false

set_option maxHeartbeats 800000 in
theorem impl_size16 (a : Int) (hb : -1000000000000000 ≤ a ∧ a ≤ 1000000000000000) (w : World) :
    Calls Try.prog 49 #[.int .i64 a] w fun e w' => e = .returned (.int .i64 (if a < 0 then -a else a)) ∧ w' = w := by
  have hw1 : IntKind.i64.wrap (-a) = -a := by rw [IntKind.wrap_i64]; omega
  by_cases h : a < 0
  · rw [if_pos h]
    go_enter Try.func49, Try.ntmps49
    go_wp2
    go_returns
    exact ⟨rfl, rfl⟩
  · rw [if_neg h]
    go_enter Try.func49, Try.ntmps49
    go_wp2
    go_returns
    exact ⟨rfl, rfl⟩

set_option maxHeartbeats 1600000 in
theorem impl_near (a b : Int) (hb : 1 ≤ b ∧ b ≤ 1000) (ha : -1000000000000000 ≤ a ∧ a ≤ 1000000000000000) (w : World) :
    Calls Try.prog 47 #[.int .i64 a, .int .i64 b] w fun e w' => e = .returned (.int .i64 (nqV a b)) ∧ w' = w := by
  obtain ⟨A, hA⟩ : ∃ A, A = if a < 0 then -a else a := ⟨_, rfl⟩
  have hAA : 0 ≤ A ∧ A ≤ 1000000000000000 := by rw [hA]; split <;> omega
  have hb0 : 0 ≤ A ∧ A ≤ 1000000000000000 := by omega
  obtain ⟨Q, hQ⟩ : ∃ Q, Q = (2 * A + b) / (2 * b) := ⟨_, rfl⟩
  have hT : Int.tdiv (2 * A + b) (2 * b) = Q := by rw [Int.tdiv_eq_ediv_of_nonneg (by omega)]; exact hQ.symm
  have hQ0 : 0 ≤ Q := by rw [hQ]; exact Int.ediv_nonneg (by omega) (by omega)
  have hQ1 : Q ≤ 4000000000000000 := by
    have h1 := Int.ediv_le_self (b := 2 * b) (show 0 ≤ 2 * A + b by omega)
    rw [← hQ] at h1
    omega
  have hq : (2 * b == 0) = false := by simp; omega
  have HS : Hid (∀ W, Calls Try.prog 49 #[.int .i64 a] W fun e w' => e = .returned (.int .i64 A) ∧ w' = W) := fun W => by rw [hA]; exact impl_size16 a ha W
  obtain ⟨R, hR⟩ : ∃ R, R = nqV a b := ⟨_, rfl⟩
  rw [← hR]
  have HR : Hid ((a < 0 → R = -Q) ∧ (¬ a < 0 → R = Q)) := by
    unfold Hid
    refine ⟨fun h => ?_, fun h => ?_⟩
    · rw [hR, nqV, if_pos h, hQ, hA, if_pos h]
    · rw [hR, nqV, if_neg h, hQ, hA, if_neg h]
  have hw1 : IntKind.i64.wrap (2 * A) = 2 * A := by rw [IntKind.wrap_i64]; omega
  have hw2 : IntKind.i64.wrap (2 * A + b) = 2 * A + b := by rw [IntKind.wrap_i64]; omega
  have hw3 : IntKind.i64.wrap (2 * b) = 2 * b := by rw [IntKind.wrap_i64]; omega
  have hw4 : IntKind.i64.wrap Q = Q := by rw [IntKind.wrap_i64]; omega
  have hw5 : IntKind.i64.wrap (-Q) = -Q := by rw [IntKind.wrap_i64]; omega
  clear hR hQ hA
  go_enter Try.func47, Try.ntmps47
  go_wp2_with (fail)
  refine (HS.out _).mono ?_
  rintro e w1 ⟨rfl, hw⟩
  subst w1
  by_cases h : a < 0
  · obtain rfl := HR.out.1 h
    clear HR
    go_wp2
    go_returns
    exact ⟨rfl, rfl⟩
  · obtain rfl := HR.out.2 (by omega)
    clear HR
    go_wp2
    go_returns
    exact ⟨rfl, rfl⟩

end Go.Proofs.Ytiipepddlbgodaa
