/- Proved here: classes of defects: their cells. -/
import Derived.Test.YtjacmneopijiaaaGen
import Derived.Test.YtjacmneopijiaaaFqM
namespace Go.Proofs.Ytjacmneopijiaaa
open Go.RowKit
set_option linter.unusedVariables false
set_option linter.unusedSimpArgs false

/-- A class: the kind it asks for, its sizes, its name, what it kills. -/
structure Cls where
  k : Int
  lo : Int
  hi : Int
  nm : Int
  q : Fr

def vcC (x : Cls) : List Value := [.int .i64 x.k, .int .i64 x.lo, .int .i64 x.hi, .int .i64 x.nm, .int .i64 x.q.n, .int .i64 x.q.d]
theorem vcC_len (x : Cls) : (vcC x).length = 6 := rfl
theorem vcC_one (x : Cls) : ∀ u ∈ vcC x, u.oneCell' = true := by
  intro u hu
  simp only [vcC, List.mem_cons, List.not_mem_nil, or_false] at hu
  rcases hu with rfl | rfl | rfl | rfl | rfl | rfl <;> rfl
theorem info_Class : (Try.prog.info? 66).map (fun i => (i.zero, i.size, i.bytes)) = some (some (.agg #[.int .i64 0, .int .i64 0, .int .i64 0, .int .i64 0, .int .i64 0, .int .i64 0]), 6, 48) := by kernel_rfl
/-- The cells of an element, one by one. -/
theorem vcC_at {w : World} {g o : Nat} {x : Cls} (h : ∀ i, i < 6 → w.cell? ⟨g, o + i, none⟩ = (vcC x)[i]?) : w.cell? ⟨g, o, none⟩ = some (.int .i64 x.k) ∧ w.cell? ⟨g, o + 1, none⟩ = some (.int .i64 x.lo) ∧ w.cell? ⟨g, o + 2, none⟩ = some (.int .i64 x.hi) ∧ w.cell? ⟨g, o + 3, none⟩ = some (.int .i64 x.nm) ∧ w.cell? ⟨g, o + 4, none⟩ = some (.int .i64 x.q.n) ∧ w.cell? ⟨g, o + 5, none⟩ = some (.int .i64 x.q.d) :=
  ⟨h 0 (by omega), h 1 (by omega), h 2 (by omega), h 3 (by omega), h 4 (by omega), h 5 (by omega)⟩

end Go.Proofs.Ytjacmneopijiaaa
