/- Proved here: limits: their cells. -/
import Derived.Test.YtkdpifplhhcpaaaGen
namespace Go.Proofs.Ytkdpifplhhcpaaa
open Go.RowKit
set_option linter.unusedVariables false
set_option linter.unusedSimpArgs false

/-- A limit. -/
structure Li where
  lo : Int
  hi : Int
  bi : Int
deriving DecidableEq
instance : Inhabited Li := ⟨⟨0, 0, 0⟩⟩

def liC (x : Li) : List Value := [.int .i64 x.lo, .int .i64 x.hi, .int .i64 x.bi]
theorem liC_len (x : Li) : (liC x).length = 3 := rfl
theorem liC_one (x : Li) : ∀ u ∈ liC x, u.oneCell' = true := by
  intro u hu
  simp only [liC, List.mem_cons, List.not_mem_nil, or_false] at hu
  rcases hu with rfl | rfl | rfl <;> rfl
theorem info_Limit : (Try.prog.info? 62).map (fun i => (i.zero, i.size, i.bytes)) = some (some (.agg #[.int .i64 0, .int .i64 0, .int .i64 0]), 3, 24) := by kernel_rfl
/-- The cells of an element, one by one. -/
theorem liC_at {w : World} {g o : Nat} {x : Li} (h : ∀ i, i < 3 → w.cell? ⟨g, o + i, none⟩ = (liC x)[i]?) : w.cell? ⟨g, o, none⟩ = some (.int .i64 x.lo) ∧ w.cell? ⟨g, o + 1, none⟩ = some (.int .i64 x.hi) ∧ w.cell? ⟨g, o + 2, none⟩ = some (.int .i64 x.bi) :=
  ⟨h 0 (by omega), h 1 (by omega), h 2 (by omega)⟩

end Go.Proofs.Ytkdpifplhhcpaaa
