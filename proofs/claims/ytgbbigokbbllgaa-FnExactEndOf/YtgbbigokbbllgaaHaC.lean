/- Proved here: hauls: their cells. -/
import Derived.Test.YtgbbigokbbllgaaGen
namespace Go.Proofs.Ytgbbigokbbllgaa
open Go.RowKit
set_option linter.unusedVariables false
set_option linter.unusedSimpArgs false

/-- A haul: when, which wafer, from where, to where. -/
structure Hau where
  t : Int
  w : Int
  f : Int
  o : Int

def haC (x : Hau) : List Value := [.int .i64 x.t, .int .i64 x.w, .int .i64 x.f, .int .i64 x.o]
theorem haC_len (x : Hau) : (haC x).length = 4 := rfl
theorem haC_one (x : Hau) : ∀ u ∈ haC x, u.oneCell' = true := by
  intro u hu
  simp only [haC, List.mem_cons, List.not_mem_nil, or_false] at hu
  rcases hu with rfl | rfl | rfl | rfl <;> rfl
theorem info_Haul : (Try.prog.info? 68).map (fun i => (i.zero, i.size, i.bytes)) = some (some (.agg #[.int .i64 0, .int .i64 0, .int .i64 0, .int .i64 0]), 4, 32) := by kernel_rfl
/-- The cells of an element, one by one. -/
theorem haC_at {w : World} {g o : Nat} {x : Hau} (h : ∀ i, i < 4 → w.cell? ⟨g, o + i, none⟩ = (haC x)[i]?) : w.cell? ⟨g, o, none⟩ = some (.int .i64 x.t) ∧ w.cell? ⟨g, o + 1, none⟩ = some (.int .i64 x.w) ∧ w.cell? ⟨g, o + 2, none⟩ = some (.int .i64 x.f) ∧ w.cell? ⟨g, o + 3, none⟩ = some (.int .i64 x.o) :=
  ⟨h 0 (by omega), h 1 (by omega), h 2 (by omega), h 3 (by omega)⟩

end Go.Proofs.Ytgbbigokbbllgaa
