/- Proved here: maps without a fault. Arithmetic alone. -/
import Derived.Test.YtkdpifplhhcpaaaCpB
import Derived.Test.YtkdpifplhhcpaaaGvM
namespace Go.Proofs.Ytkdpifplhhcpaaa
open Go.RowKit
set_option linter.unusedVariables false
set_option linter.unusedSimpArgs false

structure GM (ls : List (List Int)) : Prop where
  h0 : 0 < ls.length
  h1 : ls.length ≤ 20
  w0 : 0 < (ls.getD 0 []).length
  w1 : (ls.getD 0 []).length ≤ 20
  wd : ∀ r ∈ ls, r.length = (ls.getD 0 []).length
  nu : ∀ r ∈ ls, ∀ x ∈ r, 0 ≤ x ∧ x ≤ 99
theorem GM.row {ls : List (List Int)} (h : GM ls) {j : Nat} (hj : j < ls.length) : (ls.getD j []).length = (ls.getD 0 []).length := by
  rw [getD_lt hj]; exact h.wd _ (List.getElem_mem hj)
theorem GM.rowp {ls : List (List Int)} (h : GM ls) {j : Nat} (hj : j < ls.length) : 0 < (ls.getD j []).length ∧ (ls.getD j []).length ≤ 20 := by
  rw [h.row hj]; exact ⟨h.w0, h.w1⟩
theorem GM.sh {ls : List (List Int)} (h : GM ls) : Sh ls.length (ls.getD 0 []).length ls := ⟨rfl, fun j hj => h.row hj⟩
theorem GM.at {ls : List (List Int)} (h : GM ls) {j m : Nat} (hj : j < ls.length) (hm : m < (ls.getD 0 []).length) : 0 ≤ at2 ls j m ∧ at2 ls j m ≤ 99 := by
  unfold at2
  have hl : m < (ls.getD j []).length := by rw [h.row hj]; exact hm
  rw [getD_lt hl]
  exact h.nu _ (by rw [getD_lt hj]; exact List.getElem_mem hj) _ (List.getElem_mem hl)

end Go.Proofs.Ytkdpifplhhcpaaa
