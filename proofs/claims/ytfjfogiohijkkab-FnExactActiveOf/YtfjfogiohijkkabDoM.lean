/- Proved here: the arithmetic of doses. No condition. -/
import Derived.Test.YtfjfogiohijkkabPfM
namespace Go.Proofs.Ytfjfogiohijkkab
open Go.RowKit
set_option linter.unusedVariables false

def suL : List Int → Int
  | [] => 0
  | x :: r => x + suL r
theorem suL_app (a b : List Int) : suL (a ++ b) = suL a + suL b := by
  induction a with
  | nil => simp [suL]
  | cons x r ih => simp [suL, ih]; omega
theorem suL_take {s : List Int} {k : Nat} (h : k < s.length) : suL (s.take (k + 1)) = suL (s.take k) + s.getD k 0 := by
  rw [List.take_succ_eq_append_getElem h, suL_app, show s.getD k 0 = s[k] from by simp [List.getD, h]]
  simp [suL]
theorem suL_bd {s : List Int} (h : ∀ i, 0 ≤ s.getD i 0 ∧ s.getD i 0 ≤ 1000000000) : ∀ k : Nat, k ≤ s.length → 0 ≤ suL (s.take k) ∧ suL (s.take k) ≤ 1000000000 * k := by
  intro k
  induction k with
  | zero => intro _; simp [suL]
  | succ k ih =>
    intro hk
    rw [suL_take (by omega)]
    have := ih (by omega)
    have := h k
    omega
def suD {s : List Int} : List (Dp s) → Int
  | [] => 0
  | x :: r => x.1.2 + suD r
theorem suD_app {s : List Int} (a b : List (Dp s)) : suD (a ++ b) = suD a + suD b := by
  induction a with
  | nil => simp [suD]
  | cons x r ih => simp [suD, ih]; omega
theorem suD_snoc {s : List Int} (a : List (Dp s)) (x : Dp s) : suD (a ++ [x]) = suD a + x.1.2 := by rw [suD_app]; simp [suD]
theorem suD_take {s : List Int} : ∀ k, k ≤ s.length → suD (dpL s k) = suL (s.take k) := by
  intro k
  induction k with
  | zero => intro _; simp [suD, suL, dpL]
  | succ k ih => 
    intro hk
    refine (congrArg suD (dpL_succ (show k < s.length by omega))).trans ((suD_snoc _ _).trans ?_)
    rw [ih (by omega), suL_take (by omega)]
theorem suD_all (s : List Int) : suD (dpL s s.length) = suL s := by rw [suD_take _ (Nat.le_refl _), List.take_length]
theorem suD_bd {s : List Int} (h : ∀ i, 0 ≤ s.getD i 0 ∧ s.getD i 0 ≤ 1000000000) : ∀ a : List (Dp s), 0 ≤ suD a ∧ suD a ≤ 1000000000 * a.length := by
  intro a
  induction a with
  | nil => simp [suD]
  | cons x r ih =>
    have h1 := h x.1.1
    rw [← x.2.2] at h1
    simp only [suD, List.length_cons]
    omega
/-- What DoseOf tells. -/
def doV (s : List Int) (o : Int) : Int := if pfC s o = 0 then o + suL s else 0

end Go.Proofs.Ytfjfogiohijkkab
