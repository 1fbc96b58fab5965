/- Lists of numbers that a call is handed; the text that they make. -/
import Derived.Test.YtafghanpfnhkpaaDoorTxM
import Derived.Test.YtafghanpfnhkpaaDoorUnd
namespace Go.Proofs.YtafghanpfnhkpaaDoor
open Go.ChangeShapes Go.WideShapes Go.ChangeAt Go.RowKit Go.Joins
set_option linter.unusedVariables false
set_option linter.unusedSimpArgs false

/-- A list of numbers as a call is handed it. -/
def NSl (w : World) (v : Value) (ns : List Int) : Prop := ∃ ao, v = .slice ao ns.length ns.length ∧ (ns ≠ [] → ∃ g fz, ao = some ⟨g, 0, none⟩ ∧ w.heap[g]? = some (.cells (ns.map (Value.int .i64)).toArray 2 fz))
theorem NSl.nil (w : World) : NSl w (.slice none 0 0) [] := ⟨none, rfl, fun h => absurd rfl h⟩
theorem NSl.below {w w' : World} {v : Value} {ns : List Int} (h : NSl w v ns) (hb : Below w.heap.size w w') : NSl w' v ns := by
  obtain ⟨ao, rfl, h⟩ := h
  refine ⟨ao, rfl, fun hn => ?_⟩
  obtain ⟨g, fz, rfl, hg⟩ := h hn
  refine ⟨g, fz, rfl, (hb.block g ?_).trans hg⟩
  rcases Nat.lt_or_ge g w.heap.size with h' | h'
  · exact h'
  · rw [Array.getElem?_eq_none h'] at hg; cases hg
theorem NSl.at {w : World} {ao : Option Addr} {n m : Nat} {ns : List Int} (h : NSl w (.slice ao n m) ns) {t : Nat} (ht : t < ns.length) : ∃ g, ao = some ⟨g, 0, none⟩ ∧ g < w.heap.size ∧ w.cell? ⟨g, t, none⟩ = some (.int .i64 ns[t]) := by
  obtain ⟨ao', e, h⟩ := h
  simp only [Value.slice.injEq] at e
  obtain ⟨rfl, rfl, rfl⟩ := e
  obtain ⟨g, fz, rfl, hg⟩ := h (by intro e; subst e; simp at ht)
  refine ⟨g, rfl, ?_, by simp [World.cell?, hg, ht]⟩
  rcases Nat.lt_or_ge g w.heap.size with h' | h'
  · exact h'
  · rw [Array.getElem?_eq_none h'] at hg; cases hg
end Go.Proofs.YtafghanpfnhkpaaDoor
