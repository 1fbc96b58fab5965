/- Proved here: within of the program: what two boxes have in common. -/
import Derived.Test.YtedlokjbpfgbgaaDmM
namespace Go.Proofs.Ytedlokjbpfgbgaa
open Go.RowKit
set_option linter.unusedVariables false
set_option linter.unusedSimpArgs false

def mxD (a b : Int) : Int := if a < b then b else a
def mnD (a b : Int) : Int := if b < a then b else a
def wiB (b f : Bx) : Bx := ⟨mxD b.x0 f.x0, mxD b.y0 f.y0, mnD b.x1 f.x1, mnD b.y1 f.y1⟩
set_option maxRecDepth 10000 in
set_option maxHeartbeats 4000000 in
theorem impl_within (b f : Bx) (w : World) :
    Calls Try.prog 66 #[.agg #[.int .i64 b.x0, .int .i64 b.y0, .int .i64 b.x1, .int .i64 b.y1], .agg #[.int .i64 f.x0, .int .i64 f.y0, .int .i64 f.x1, .int .i64 f.y1]] w fun e w' => e = .returned (.agg #[.int .i64 (wiB b f).x0, .int .i64 (wiB b f).y0, .int .i64 (wiB b f).x1, .int .i64 (wiB b f).y1]) ∧ Below w.heap.size w w' := by
  unfold wiB mxD mnD
  simp only
  by_cases h1 : b.x0 < f.x0 <;> by_cases h2 : b.y0 < f.y0 <;> by_cases h3 : f.x1 < b.x1 <;> by_cases h4 : f.y1 < b.y1
  all_goals
    simp only [h1, h2, h3, h4, if_true, if_false]
    go_enter Try.func66, Try.ntmps66
    go_wp2
    go_returns
    exact ⟨rfl, by (repeat' (first | (with_reducible exact Below.refl _ _) | (with_reducible assumption) | (with_reducible refine Below.setCell ?_ ?_ _) | (with_reducible refine Below.alloc ?_ ?_ _) | (with_reducible refine below_drewN ?_ _) | (with_reducible refine Below.drew ?_) | (with_reducible exact Nat.le_refl _) | omega | (simp; done) | (simp; omega)))⟩

end Go.Proofs.Ytedlokjbpfgbgaa
