/- Proved here: windows of a book of lots: their cells. -/
import Derived.Test.YtbkklnbcoegamaaGen
namespace Go.Proofs.Ytbkklnbcoegamaa
open Go.RowKit
set_option linter.unusedVariables false
set_option linter.unusedSimpArgs false

/-- A window: from a step, to a step, at most. -/
structure Wdw where
  f : Int
  t : Int
  m : Int
deriving DecidableEq

def wdC (x : Wdw) : List Value := [.int .i64 x.f, .int .i64 x.t, .int .i64 x.m]
theorem wdC_len (x : Wdw) : (wdC x).length = 3 := rfl
theorem wdC_one (x : Wdw) : ∀ u ∈ wdC x, u.oneCell' = true := by
  intro u hu
  simp only [wdC, List.mem_cons, List.not_mem_nil, or_false] at hu
  rcases hu with rfl | rfl | rfl <;> rfl
theorem info_Window : (Try.prog.info? 62).map (fun i => (i.zero, i.size, i.bytes)) = some (some (.agg #[.int .i64 0, .int .i64 0, .int .i64 0]), 3, 24) := by kernel_rfl
/-- The cells of an element, one by one. -/
theorem wdC_at {w : World} {g o : Nat} {x : Wdw} (h : ∀ i, i < 3 → w.cell? ⟨g, o + i, none⟩ = (wdC x)[i]?) : w.cell? ⟨g, o, none⟩ = some (.int .i64 x.f) ∧ w.cell? ⟨g, o + 1, none⟩ = some (.int .i64 x.t) ∧ w.cell? ⟨g, o + 2, none⟩ = some (.int .i64 x.m) :=
  ⟨h 0 (by omega), h 1 (by omega), h 2 (by omega)⟩

end Go.Proofs.Ytbkklnbcoegamaa
