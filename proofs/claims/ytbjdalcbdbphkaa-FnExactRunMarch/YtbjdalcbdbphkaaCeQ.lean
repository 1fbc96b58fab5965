/- Proved here: cells of a block. No condition. -/
import Derived.Test.YtbjdalcbdbphkaaGen
namespace Go.Proofs.Ytbjdalcbdbphkaa
open Go.RowKit
set_option linter.unusedVariables false
set_option linter.unusedSimpArgs false

theorem cellOfQ {V : World} {k : Nat} {cs : Array Value} {T : TypeId} (h : V.heap[k]? = some (.cells cs T)) (i : Nat) {v : Value} (hi : cs[i]? = some v) : V.cell? ⟨k, i, none⟩ = some v := by
  simp [World.cell?, h, hi]
theorem frozOfQ {V : World} {k : Nat} {cs : Array Value} {T : TypeId} (h : V.heap[k]? = some (.cells cs T)) (i : Nat) : V.frozen? ⟨k, i, none⟩ = false := by
  simp [World.frozen?, h]
theorem ltOfQ {V : World} {k : Nat} {o : Obj} (h : V.heap[k]? = some o) : k < V.heap.size := by
  rcases Nat.lt_or_ge k V.heap.size with h' | h'
  · exact h'
  · rw [Array.getElem?_eq_none h'] at h; cases h

end Go.Proofs.Ytbjdalcbdbphkaa
