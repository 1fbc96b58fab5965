/- Proved here: a truth as a number, of the model; an empty list of the call's own. -/
import Derived.Test.YtcfcknfaeliodaaIntsBase
namespace Go.Proofs.Ytcfcknfaeliodaa
open Go.RowKit
set_option linter.unusedVariables false
set_option linter.unusedSimpArgs false

set_option maxHeartbeats 400000 in
theorem spec_flag20 (b : Bool) (w : World) : Calls Try.prog 49 #[.bool b] w fun e w' => e = .returned (.int .i64 (if b = true then 1 else 0)) ∧ w' = w := by
  cases b with
  | true =>
    go_enter Try.func49, Try.ntmps49
    go_wp2
    go_returns
    exact ⟨rfl, rfl⟩
  | false =>
    go_enter Try.func49, Try.ntmps49
    go_wp2
    go_returns
    exact ⟨rfl, rfl⟩
theorem gz_lit (w : World) (B : Nat) (hB : B ≤ w.heap.size) : IS (w.alloc (.cells #[] 2)) B (.slice (some ⟨w.heap.size, 0, none⟩) 0 0) [] :=
  World.ownsRow_lit w #[] 0 hB (by decide) (by simp)

end Go.Proofs.Ytcfcknfaeliodaa
