/- Proved here: whether a list of approvals has one: small facts. -/
import Derived.Test.YtkacfjbhkgdpdaaTlZ
import Derived.Test.YtkacfjbhkgdpdaaStrL
import Derived.BigQuiet
namespace Go.Proofs.Ytkacfjbhkgdpdaa
open Go.ChangeShapes Go.WideShapes Go.ChangeAt Go.RowKit Go.Joins
set_option linter.unusedVariables false
set_option linter.unusedSimpArgs false

/-- Does the list have that name with that sum? -/
def apB (s : List Ap) (nm : ByteArray) (su : Int) : Bool := s.any (fun x => decide (x.nm = nm) && decide (x.su = su))
theorem apB_true {s : List Ap} {nm : ByteArray} {su : Int} {j : Nat} (h : j < s.length) (h1 : s[j].nm = nm) (h2 : s[j].su = su) : apB s nm su = true := by
  unfold apB
  rw [List.any_eq_true]
  exact ⟨s[j], List.getElem_mem h, by simp [h1, h2]⟩
theorem apB_false {s : List Ap} {nm : ByteArray} {su : Int} (h : ∀ j (h : j < s.length), ¬ (s[j].nm = nm ∧ s[j].su = su)) : apB s nm su = false := by
  unfold apB
  rw [List.any_eq_false]
  intro x hx
  obtain ⟨j, hj, e⟩ := List.getElem_of_mem hx
  have := h j hj
  rw [e] at this
  simpa using this
theorem apAgg {w : World} {k : Nat} {a b : Value} {T : TypeId} (h : w.heap[k]? = some (.cells #[a, b] T)) : w.cell? ⟨k, 0, none⟩ = some a ∧ w.cell? ⟨k, 1, none⟩ = some b ∧ k < w.heap.size := by
  refine ⟨by simp [World.cell?, h], by simp [World.cell?, h], ?_⟩
  rcases Nat.lt_or_ge k w.heap.size with h' | h'
  · exact h'
  · rw [Array.getElem?_eq_none h'] at h; cases h

end Go.Proofs.Ytkacfjbhkgdpdaa
