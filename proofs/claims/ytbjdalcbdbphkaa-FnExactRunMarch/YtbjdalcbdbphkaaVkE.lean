/- Proved here: made lists of noughts. -/
import Derived.Test.YtbjdalcbdbphkaaNlJ
namespace Go.Proofs.Ytbjdalcbdbphkaa
open Go.RowKit
set_option linter.unusedVariables false
set_option linter.unusedSimpArgs false

theorem made_zeros (m : Nat) : (madeCells (Value.cells (.int .i64 0)) (m * 1)).toList = (List.replicate m (0 : Int)).map (Value.int .i64) := by
  unfold madeCells
  simp [Value.cells]
  apply List.ext_getElem?
  intro i
  by_cases h : i < m
  · simp [h, Nat.mod_one]
  · simp [h]
theorem IS.made {w : World} {B g m : Nat} (h : w.ownsRow B 2 1 (.slice (some ⟨g, 0, none⟩) m m) m (madeCells (Value.cells (.int .i64 0)) (m * 1)).toList) : IS w B (.slice (some ⟨g, 0, none⟩) m m) (List.replicate m 0) := by
  unfold IS
  rw [← made_zeros, List.length_replicate]
  exact h
theorem IS.put {w : World} {B g n c : Nat} {xs : List Int} (h : IS w B (.slice (some ⟨g, 0, none⟩) n c) xs) (j : Nat) (y : Int) : IS (w.setCell ⟨g, j, none⟩ (.int .i64 y)) B (.slice (some ⟨g, 0, none⟩) n c) (xs.set j y) := by
  have hn : n = xs.length := by obtain ⟨_, _, e⟩ := h.form; injection e
  subst hn
  have h9 := (World.ownsRow.stored (show w.ownsRow B 2 1 (.slice (some ⟨g, 0, none⟩) xs.length c) xs.length (xs.map (Value.int .i64)) from h) j (.int .i64 y)).1
  unfold IS
  rw [List.length_set, List.map_set]
  exact h9
theorem IS.cellAt {w : World} {B g n c : Nat} {xs : List Int} (h : IS w B (.slice (some ⟨g, 0, none⟩) n c) xs) {j : Nat} {y : Int} (hj : xs[j]? = some y) : w.cell? ⟨g, j, none⟩ = some (.int .i64 y) ∧ w.frozen? ⟨g, j, none⟩ = false := by
  have hn : n = xs.length := by obtain ⟨_, _, e⟩ := h.form; injection e
  subst hn
  have hl : j < xs.length := by
    rcases Nat.lt_or_ge j xs.length with h1 | h1
    · exact h1
    · rw [List.getElem?_eq_none h1] at hj; cases hj
  refine ⟨?_, World.ownsRow.frozenAt h j⟩
  rw [World.ownsRow.cellAt h j (by omega), List.getElem?_map, hj]
  rfl

end Go.Proofs.Ytbjdalcbdbphkaa
