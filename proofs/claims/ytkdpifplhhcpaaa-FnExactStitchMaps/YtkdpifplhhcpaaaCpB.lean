/- Proved here: small rules for copies of rows. No condition on the program. -/
import Derived.Test.YtkdpifplhhcpaaaGrB
import Derived.Test.YtkdpifplhhcpaaaGfM
import Derived.Test.YtkdpifplhhcpaaaCpA
import Derived.Deep.AppendLies
namespace Go.Proofs.Ytkdpifplhhcpaaa
open Go.RowKit
set_option linter.unusedVariables false
set_option linter.unusedSimpArgs false

theorem GG.sm {M : Int} {ls : List (List Int)} (h : GG M ls) : SmR ls := by
  refine ⟨by have := h.h1; omega, ?_⟩
  have : ∀ i, i ≤ ls.length → totR ls i ≤ i * 16 := by
    intro i
    induction i with
    | zero => intro _; simp [totR]
    | succ i ih =>
      intro hi
      have h1 := ih (by omega)
      have h2 := h.row (show i < ls.length by omega)
      have h3 := h.w1
      rw [totR, h2]; omega
  have h1 := this _ (Nat.le_refl _)
  have h2 := h.h1
  omega
theorem GG.rowp {M : Int} {ls : List (List Int)} (h : GG M ls) {j : Nat} (hj : j < ls.length) : 0 < (ls.getD j []).length ∧ (ls.getD j []).length ≤ 16 := by
  rw [h.row hj]; exact ⟨h.w0, h.w1⟩

end Go.Proofs.Ytkdpifplhhcpaaa
