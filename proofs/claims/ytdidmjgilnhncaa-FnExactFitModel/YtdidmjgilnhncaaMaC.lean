/- Proved here: marks: their cells. -/
import Derived.Test.YtdidmjgilnhncaaGen
namespace Go.Proofs.Ytdidmjgilnhncaa
open Go.RowKit
set_option linter.unusedVariables false
set_option linter.unusedSimpArgs false

/-- A mark. -/
structure Mrk where
  x : Int
  y : Int
  dx : Int
  dy : Int

def maC (x : Mrk) : List Value := [.int .i64 x.x, .int .i64 x.y, .int .i64 x.dx, .int .i64 x.dy]
theorem maC_len (x : Mrk) : (maC x).length = 4 := rfl
theorem maC_one (x : Mrk) : ∀ u ∈ maC x, u.oneCell' = true := by
  intro u hu
  simp only [maC, List.mem_cons, List.not_mem_nil, or_false] at hu
  rcases hu with rfl | rfl | rfl | rfl <;> rfl
theorem info_Mark : (Try.prog.info? 76).map (fun i => (i.zero, i.size, i.bytes)) = some (some (.agg #[.int .i64 0, .int .i64 0, .int .i64 0, .int .i64 0]), 4, 32) := by kernel_rfl
/-- The cells of an element, one by one. -/
theorem maC_at {w : World} {g o : Nat} {x : Mrk} (h : ∀ i, i < 4 → w.cell? ⟨g, o + i, none⟩ = (maC x)[i]?) : w.cell? ⟨g, o, none⟩ = some (.int .i64 x.x) ∧ w.cell? ⟨g, o + 1, none⟩ = some (.int .i64 x.y) ∧ w.cell? ⟨g, o + 2, none⟩ = some (.int .i64 x.dx) ∧ w.cell? ⟨g, o + 3, none⟩ = some (.int .i64 x.dy) :=
  ⟨h 0 (by omega), h 1 (by omega), h 2 (by omega), h 3 (by omega)⟩

end Go.Proofs.Ytdidmjgilnhncaa
