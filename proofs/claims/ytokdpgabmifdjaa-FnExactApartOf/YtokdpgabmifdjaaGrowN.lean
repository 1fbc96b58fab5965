/- Proved here: boxes that are not far off; a list of one box that is written out. -/
import Derived.Test.YtokdpgabmifdjaaGrowM
namespace Go.Proofs.Ytokdpgabmifdjaa
open Go.RowKit
set_option linter.unusedVariables false
set_option linter.unusedSimpArgs false

/-- A box that is not far off. -/
def Near (b : Bx) : Prop := -20000 ≤ b.x0 ∧ b.x0 ≤ 20000 ∧ -20000 ≤ b.y0 ∧ b.y0 ≤ 20000 ∧ -20000 ≤ b.x1 ∧ b.x1 ≤ 20000 ∧ -20000 ≤ b.y1 ∧ b.y1 ≤ 20000

theorem lit1 (m : Bx) (w : World) (B : Nat) (hB : B ≤ w.heap.size) : BS (w.alloc (.cells #[.int .i64 m.x0, .int .i64 m.y0, .int .i64 m.x1, .int .i64 m.y1] 56)) B (.slice (some ⟨w.heap.size, 0, none⟩) 1 1) [m] :=
  World.ownsRow_lit w #[.int .i64 m.x0, .int .i64 m.y0, .int .i64 m.x1, .int .i64 m.y1] 1 hB (by decide) (by simp)
theorem near_mis {s : List Bx} (h : shapeK s = 0) (hp : 0 < s.length) : ∀ b ∈ misL s, Near b := fun b hb => by
  have := (mis_small h hp).2 b hb
  unfold Near; omega
theorem near_bnd {s : List Bx} (h : shapeK s = 0) (hp : 0 < s.length) : Near (bnd s s.length) ∧ (growB 1 (bnd s s.length)).x0 < (growB 1 (bnd s s.length)).x1 := by
  have hz := boxesK_zero (shapeK_zero h)
  obtain ⟨hall, hlim⟩ := bnd_all hp
  have hB := hlim (-10000) 10000 fun b hb => by have := hz.2 b hb; omega
  have h0 := hall _ (bat_mem hp)
  have h1 := hz.2 _ (bat_mem hp)
  unfold Near growB
  simp only
  omega

end Go.Proofs.Ytokdpgabmifdjaa
