/- Small rules on boxes of cells and places in memory. -/
import Derived.Test.YtafghanpfnhkpaaDoorXcM
import Derived.Test.YtafghanpfnhkpaaDoorTyCl
namespace Go.Proofs.YtafghanpfnhkpaaDoor
open Go.ChangeShapes Go.WideShapes Go.ChangeAt Go.RowKit Go.Joins
set_option linter.unusedVariables false
set_option linter.unusedSimpArgs false

theorem nine_at {w : World} {q : Nat} {y : Pl} (h : w.heap[q]? = some (.cells #[.string y.c, .int .i64 y.x, .int .i64 y.y, .int .i64 y.t, .bool y.f, .int .i64 y.nx, .int .i64 y.ny, .int .i64 y.dx, .int .i64 y.dy] 45)) :
    w.cell? ⟨q, 0, none⟩ = some (.string y.c) ∧ w.cell? ⟨q, 1, none⟩ = some (.int .i64 y.x) ∧ w.cell? ⟨q, 2, none⟩ = some (.int .i64 y.y) ∧ w.cell? ⟨q, 3, none⟩ = some (.int .i64 y.t) ∧ w.cell? ⟨q, 4, none⟩ = some (.bool y.f) ∧ w.cell? ⟨q, 5, none⟩ = some (.int .i64 y.nx) ∧ w.cell? ⟨q, 6, none⟩ = some (.int .i64 y.ny) ∧ w.cell? ⟨q, 7, none⟩ = some (.int .i64 y.dx) ∧ w.cell? ⟨q, 8, none⟩ = some (.int .i64 y.dy) ∧ q < w.heap.size := by
  refine ⟨by simp [World.cell?, h], by simp [World.cell?, h], by simp [World.cell?, h], by simp [World.cell?, h], by simp [World.cell?, h], by simp [World.cell?, h], by simp [World.cell?, h], by simp [World.cell?, h], by simp [World.cell?, h], ?_⟩
  rcases Nat.lt_or_ge q w.heap.size with h' | h'
  · exact h'
  · rw [Array.getElem?_eq_none h'] at h; cases h
theorem ltC {w : World} {k : Nat} {o : Obj} (h : w.heap[k]? = some o) : k < w.heap.size := by
  rcases Nat.lt_or_ge k w.heap.size with h' | h'
  · exact h'
  · rw [Array.getElem?_eq_none h'] at h; cases h
end Go.Proofs.YtafghanpfnhkpaaDoor
