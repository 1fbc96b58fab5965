/- Proved here: the program's and the model's quotients in lowest terms are the same. -/
import Derived.Test.YtjacmneopijiaaaLow
namespace Go.Proofs.Ytjacmneopijiaaa
open Go.ChangeShapes Go.WideShapes Go.ChangeAt Go.RowKit
set_option linter.unusedVariables false

/-- Two functions answer one and the same three numbers, and turn no old memory. -/
def Both3 (f g : Nat) (args : Array Value) : Prop :=
  ∃ c x y : Int, (∀ w, Calls Try.prog f args w fun e w' => e = .returned (.agg #[.int .i64 c, .int .i64 x, .int .i64 y]) ∧ Below w.heap.size w w') ∧
    (∀ w, Calls Try.prog g args w fun e w' => e = .returned (.agg #[.int .i64 c, .int .i64 x, .int .i64 y]) ∧ Below w.heap.size w w')

theorem rq_pos (n d : Int) (hd : 1 ≤ d) (hd' : d ≤ 4000000000000000000) (h1 : -4000000000000000000 ≤ n) (h2 : n ≤ 4000000000000000000) :
    Both3 75 78 #[.int .i64 n, .int .i64 d] :=
  ⟨_, _, _, fun w => spec_low_pos n d w hd hd' h1 h2, fun w => impl_rq_pos n d w hd hd' h1 h2⟩
theorem rq_neg (n d : Int) (hd : d ≤ -1) (hd' : -4000000000000000000 ≤ d) (h1 : -4000000000000000000 ≤ n) (h2 : n ≤ 4000000000000000000) :
    Both3 75 78 #[.int .i64 n, .int .i64 d] :=
  ⟨_, _, _, fun w => spec_low_neg n d w hd hd' h1 h2, fun w => impl_rq_neg n d w hd hd' h1 h2⟩

end Go.Proofs.Ytjacmneopijiaaa
