/- Proved here: a pupil's number at an order (puV), of both. -/
import Derived.Test.YtgaabcgdfbgchaaTzB
import Derived.Test.YtgaabcgdfbgchaaPuF
namespace Go.Proofs.Ytgaabcgdfbgchaa
open Go.RowKit
set_option linter.unusedVariables false
set_option linter.unusedSimpArgs false

/-- The parts of the turn at an order. -/
def puP (F : Int) (s : List Int) (o : Int) : Int := F * o * o + s.getD o.natAbs 0
def puV (C F : Int) (s : List Int) (o : Int) : Zv := if puF C F s = 0 ∧ (-C ≤ o ∧ o ≤ C) then trV (puP F s o) else ⟨fv 0, fv 0⟩

set_option maxHeartbeats 400000 in
theorem impl_absI (n : Int) (h1 : -1000000 ≤ n) (w : World) : Calls Try.prog 57 #[.int .i64 n] w fun e w' => e = .returned (.int .i64 n.natAbs) ∧ w' = w := by
  by_cases h : n < 0
  · have e1 : IntKind.i64.wrap (-n) = -n := by rw [IntKind.wrap_i64]; omega
    have e2 : ((n.natAbs : Nat) : Int) = -n := by omega
    rw [e2]
    clear e2
    go_enter Try.func57, Try.ntmps57
    go_wp2
    go_returns
    exact ⟨rfl, rfl⟩
  · have e2 : ((n.natAbs : Nat) : Int) = n := by omega
    rw [e2]
    clear e2
    go_enter Try.func57, Try.ntmps57
    go_wp2
    go_returns
    exact ⟨rfl, rfl⟩
set_option maxHeartbeats 400000 in
theorem spec_absI (n : Int) (h1 : -1000000 ≤ n) (w : World) : Calls Try.prog 81 #[.int .i64 n] w fun e w' => e = .returned (.int .i64 n.natAbs) ∧ w' = w := by
  by_cases h : n < 0
  · have e1 : IntKind.i64.wrap (-n) = -n := by rw [IntKind.wrap_i64]; omega
    have e2 : ((n.natAbs : Nat) : Int) = -n := by omega
    rw [e2]
    clear e2
    go_enter Try.func81, Try.ntmps81
    go_wp2
    go_returns
    exact ⟨rfl, rfl⟩
  · have e2 : ((n.natAbs : Nat) : Int) = n := by omega
    rw [e2]
    clear e2
    go_enter Try.func81, Try.ntmps81
    go_wp2
    go_returns
    exact ⟨rfl, rfl⟩
theorem fo_bd {F o : Int} (hF : -1048576 ≤ F ∧ F ≤ 1048576) (ho : -12 ≤ o ∧ o ≤ 12) : (-12582912 ≤ F * o ∧ F * o ≤ 12582912) ∧ (-150994944 ≤ F * o * o ∧ F * o * o ≤ 150994944) := by
  have key : ∀ x y a b : Int, 0 ≤ a → 0 ≤ b → -a ≤ x ∧ x ≤ a → -b ≤ y ∧ y ≤ b → -(a * b) ≤ x * y ∧ x * y ≤ a * b := fun x y a b ha hb hx hy => by
    rcases Int.le_total 0 x with h | h <;> rcases Int.le_total 0 y with h' | h'
    · have p := Int.mul_nonneg h h'
      have q := Int.mul_le_mul hx.2 hy.2 h' ha
      omega
    · have p := Int.mul_nonneg h (show 0 ≤ -y by omega)
      have q := Int.mul_le_mul hx.2 (show -y ≤ b by omega) (by omega) ha
      rw [Int.mul_neg] at p q
      omega
    · have p := Int.mul_nonneg (show 0 ≤ -x by omega) h'
      have q := Int.mul_le_mul (show -x ≤ a by omega) hy.2 h' ha
      rw [Int.neg_mul] at p q
      omega
    · have p := Int.mul_nonneg (show 0 ≤ -x by omega) (show 0 ≤ -y by omega)
      have q := Int.mul_le_mul (show -x ≤ a by omega) (show -y ≤ b by omega) (by omega) ha
      rw [Int.neg_mul_neg] at p q
      omega
  have h1 := key F o 1048576 12 (by omega) (by omega) hF ho
  have h2 := key (F * o) o 12582912 12 (by omega) (by omega) (by omega) ho
  omega

set_option maxHeartbeats 1600000 in
theorem impl_part (C F : Int) {w : World} {a : Option Addr} {n c : Nat} {s : List Int} (h : RdI w (.slice a n c) s) (hn : n ≤ 13) (k : Nat) (hk : k ≤ 12) :
    Calls Try.prog 56 #[.agg #[.int .i64 C, .int .i64 F, .slice a n c], .int .i64 k] w fun e w' => e = .returned (.int .i64 (s.getD k 0)) ∧ Below w.heap.size w w' := by
  have hl := h.len
  by_cases hlt : k < n
  · obtain ⟨g, o, ha, hg, hx⟩ := rd_at h hlt
    subst ha
    obtain ⟨X, hX⟩ : ∃ X, X = s.getD k 0 := ⟨_, rfl⟩
    rw [← hX] at hx ⊢
    have b0 : (0 : Int) ≤ (k : Int) := by omega
    have b1 : (k : Int) < (n : Int) := by omega
    have b2 : ¬ (n : Int) ≤ (k : Int) := by omega
    clear hX h
    go_enter Try.func56, Try.ntmps56
    go_wp2
    go_returns
    exact ⟨rfl, by (repeat' (first | (with_reducible exact Below.refl _ _) | (with_reducible assumption) | (with_reducible refine Below.setCell ?_ ?_ _) | (with_reducible refine Below.alloc ?_ ?_ _) | (with_reducible refine below_drewN ?_ _) | (with_reducible refine Below.drew ?_) | (with_reducible exact Nat.le_refl _) | omega | (simp; done) | (simp; omega)))⟩
  · have e : s.getD k 0 = 0 := by simp [List.getD_eq_getElem?_getD, List.getElem?_eq_none (show s.length ≤ k by omega)]
    rw [e]
    have b2 : (n : Int) ≤ (k : Int) := by omega
    clear e h
    go_enter Try.func56, Try.ntmps56
    go_wp2
    go_returns
    exact ⟨rfl, by (repeat' (first | (with_reducible exact Below.refl _ _) | (with_reducible assumption) | (with_reducible refine Below.setCell ?_ ?_ _) | (with_reducible refine Below.alloc ?_ ?_ _) | (with_reducible refine below_drewN ?_ _) | (with_reducible refine Below.drew ?_) | (with_reducible exact Nat.le_refl _) | omega | (simp; done) | (simp; omega)))⟩

end Go.Proofs.Ytgaabcgdfbgchaa
