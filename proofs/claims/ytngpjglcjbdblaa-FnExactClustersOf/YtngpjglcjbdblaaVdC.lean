/- Proved here: defects: their cells. -/
import Derived.Test.YtngpjglcjbdblaaGen
namespace Go.Proofs.Ytngpjglcjbdblaa
open Go.RowKit
set_option linter.unusedVariables false
set_option linter.unusedSimpArgs false

/-- A defect: its place, size and kind. -/
structure Dft where
  x : Int
  y : Int
  z : Int
  k : Int

def vdC (x : Dft) : List Value := [.int .i64 x.x, .int .i64 x.y, .int .i64 x.z, .int .i64 x.k]
theorem vdC_len (x : Dft) : (vdC x).length = 4 := rfl
theorem vdC_one (x : Dft) : ∀ u ∈ vdC x, u.oneCell' = true := by
  intro u hu
  simp only [vdC, List.mem_cons, List.not_mem_nil, or_false] at hu
  rcases hu with rfl | rfl | rfl | rfl <;> rfl
theorem info_Defect : (Try.prog.info? 47).map (fun i => (i.zero, i.size, i.bytes)) = some (some (.agg #[.int .i64 0, .int .i64 0, .int .i64 0, .int .i64 0]), 4, 32) := by kernel_rfl
/-- The cells of an element, one by one. -/
theorem vdC_at {w : World} {g o : Nat} {x : Dft} (h : ∀ i, i < 4 → w.cell? ⟨g, o + i, none⟩ = (vdC x)[i]?) : w.cell? ⟨g, o, none⟩ = some (.int .i64 x.x) ∧ w.cell? ⟨g, o + 1, none⟩ = some (.int .i64 x.y) ∧ w.cell? ⟨g, o + 2, none⟩ = some (.int .i64 x.z) ∧ w.cell? ⟨g, o + 3, none⟩ = some (.int .i64 x.k) :=
  ⟨h 0 (by omega), h 1 (by omega), h 2 (by omega), h 3 (by omega)⟩

end Go.Proofs.Ytngpjglcjbdblaa
