/- Proved here: the program's and the model's MakeFrac, AddFrac, SubFrac and MulFrac answer the same, at every argument. -/
import Derived.Test.YtblalcigbiobkamLow
namespace Go.Proofs.Ytblalcigbiobkam
open Go.ChangeShapes Go.WideShapes Go.ChangeAt Go.RowKit
set_option linter.unusedVariables false

/-- Two functions answer one and the same three numbers, and turn no old memory. -/
def Both3 (f g : Nat) (args : Array Value) : Prop :=
  ∃ c x y : Int, (∀ w, Calls Try.prog f args w fun e w' => e = .returned (.agg #[.int .i64 c, .int .i64 x, .int .i64 y]) ∧ Below w.heap.size w w') ∧
    (∀ w, Calls Try.prog g args w fun e w' => e = .returned (.agg #[.int .i64 c, .int .i64 x, .int .i64 y]) ∧ Below w.heap.size w w')

set_option maxHeartbeats 400000 in
theorem eqFR_same (c x y : Int) (w : World) :
    Calls Try.prog 11 #[.agg #[.int .i64 c, .int .i64 x, .int .i64 y], .agg #[.int .i64 c, .int .i64 x, .int .i64 y]] w fun e w' => e = .returned (.bool true) ∧ Below w.heap.size w w' := by
  go_enter Try.func11, Try.ntmps11
  go_wp2
  go_returns
  exact ⟨rfl, by (repeat' (first | (with_reducible exact Below.refl _ _) | (with_reducible assumption) | (with_reducible refine Below.setCell ?_ ?_ _) | (with_reducible refine Below.alloc ?_ ?_ _) | (with_reducible refine below_drewN ?_ _) | (with_reducible refine Below.drew ?_) | (with_reducible exact Nat.le_refl _) | omega | (simp; done) | (simp; omega)))⟩

theorem rq_pos (n d : Int) (hd : 1 ≤ d) (hd' : d ≤ 4000000000000000000) (h1 : -4000000000000000000 ≤ n) (h2 : n ≤ 4000000000000000000) :
    Both3 25 27 #[.int .i64 n, .int .i64 d] :=
  ⟨_, _, _, fun w => spec_low_pos n d w hd hd' h1 h2, fun w => impl_rq_pos n d w hd hd' h1 h2⟩
theorem rq_neg (n d : Int) (hd : d ≤ -1) (hd' : -4000000000000000000 ≤ d) (h1 : -4000000000000000000 ≤ n) (h2 : n ≤ 4000000000000000000) :
    Both3 25 27 #[.int .i64 n, .int .i64 d] :=
  ⟨_, _, _, fun w => spec_low_neg n d w hd hd' h1 h2, fun w => impl_rq_neg n d w hd hd' h1 h2⟩

end Go.Proofs.Ytblalcigbiobkam
