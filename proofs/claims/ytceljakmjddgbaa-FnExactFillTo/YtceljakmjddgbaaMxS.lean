/- Proved here: the greater of two numbers, of the model. -/
import Derived.Test.YtceljakmjddgbaaIntsBase
namespace Go.Proofs.Ytceljakmjddgbaa
open Go.RowKit
set_option linter.unusedVariables false
set_option linter.unusedSimpArgs false

set_option maxHeartbeats 400000 in
theorem spec_mx (a b : Int) (w : World) : Calls Try.prog 77 #[.int .i64 a, .int .i64 b] w fun e w' => e = .returned (.int .i64 (if b > a then b else a)) ∧ w' = w := by
  by_cases h : b < a
  · rw [if_neg (by omega)]
    go_enter Try.func77, Try.ntmps77
    go_wp2
    go_returns
    exact ⟨rfl, rfl⟩
  · rw [show (if b > a then b else a) = b by split <;> omega]
    go_enter Try.func77, Try.ntmps77
    go_wp2
    go_returns
    exact ⟨rfl, rfl⟩

end Go.Proofs.Ytceljakmjddgbaa
