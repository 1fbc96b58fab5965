/- Proved here: answers of HitDice are small. -/
import Derived.Test.YtngpjglcjbdblaaVhM
import Derived.Test.YtngpjglcjbdblaaGrC
namespace Go.Proofs.Ytngpjglcjbdblaa
open Go.RowKit
set_option linter.unusedVariables false
set_option linter.unusedSimpArgs false

theorem totR_small (ls : List (List Int)) (M : Nat) (h : ∀ i, (ls.getD i []).length ≤ M) : ∀ n, totR ls n ≤ n * M := by
  intro n
  induction n with
  | zero => simp [totR]
  | succ n ih =>
    have h1 := h n
    rw [totR, Nat.add_mul]
    omega
theorem vhL_sm (s : List Dft) (w h p : Int) : SmR (vhL s w h p) := by
  have hl := vhL_len s w h p
  refine ⟨by omega, ?_⟩
  have h9 := totR_small (vhL s w h p) 20 (fun i => ?_) (vhL s w h p).length
  · have : (vhL s w h p).length * 20 ≤ 20 * 20 := Nat.mul_le_mul_right _ hl
    omega
  · unfold vhL
    by_cases hc : vhC s w h p = 0
    · rw [if_pos hc]
      by_cases hi : i < h.toNat
      · rw [gR_row hi]
        have := (vhC_ok hc).2.1
        simp; omega
      · rw [List.getD_eq_getElem?_getD, List.getElem?_eq_none (by rw [gR_len]; omega)]; simp
    · rw [if_neg hc]; simp

end Go.Proofs.Ytngpjglcjbdblaa
