/- Proved here: what lies outside two bounds; the first of a list that is meant. Arithmetic alone. -/
import Derived.Test.YtbjdalcbdbphkaaNlJ
namespace Go.Proofs.Ytbjdalcbdbphkaa
open Go.RowKit
set_option linter.unusedVariables false
set_option linter.unusedSimpArgs false

/-- Does a number lie outside? -/
def oo (lo hi x : Int) : Bool := !decide (lo ≤ x ∧ x ≤ hi)
theorem any_at {α : Type} {P : α → Bool} {s : List α} {k : Nat} (h : k < s.length) : (s.drop k).any P = (P s[k] || (s.drop (k + 1)).any P) := by
  rw [List.drop_eq_getElem_cons h, List.any_cons]
theorem any_end {α : Type} {P : α → Bool} {s : List α} {k : Nat} (h : s.length ≤ k) : (s.drop k).any P = false := by
  rw [List.drop_eq_nil_of_le h]; rfl
theorem getD_at {s : List Int} {k : Nat} (h : k < s.length) : s.getD k 0 = s[k] := by simp [List.getD, h]
theorem oo_in {lo hi : Int} {s : List Int} (h : s.any (oo lo hi) = false) {x : Int} (hx : x ∈ s) : lo ≤ x ∧ x ≤ hi := by
  have := (List.any_eq_false.1 h) x hx
  simpa [oo] using this
theorem oo_at {lo hi : Int} {s : List Int} (h : s.any (oo lo hi) = false) {k : Nat} (hk : k < s.length) : lo ≤ s.getD k 0 ∧ s.getD k 0 ≤ hi := by
  rw [getD_at hk]; exact oo_in h (List.getElem_mem hk)

end Go.Proofs.Ytbjdalcbdbphkaa
