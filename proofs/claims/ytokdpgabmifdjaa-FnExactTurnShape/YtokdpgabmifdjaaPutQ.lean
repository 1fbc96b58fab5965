/- Proved here: how many quarters, l2Quarters of the model. -/
import Derived.Test.YtokdpgabmifdjaaPutT
namespace Go.Proofs.Ytokdpgabmifdjaa
open Go.RowKit
set_option linter.unusedVariables false
set_option linter.unusedSimpArgs false

set_option maxHeartbeats 400000 in
theorem spec_quarters (q : Int) (w : World) (h1 : -9223372036854775808 ≤ q) (h2 : q ≤ 9223372036854775807) :
    Calls Try.prog 44 #[.int .i64 q] w fun e w' => e = .returned (.int .i64 (q % 4)) ∧ w' = w := by
  obtain ⟨t1, t2⟩ := tmod_four q
  have hr : IntKind.i64.wrap (q.tmod 4) = q.tmod 4 := by rw [IntKind.wrap_i64]; omega
  by_cases h : q.tmod 4 < 0
  · have hs : Hid (q.tmod 4 + 4 = q % 4) := by unfold Hid; omega
    have hw : IntKind.i64.wrap (q.tmod 4 + 4) = q.tmod 4 + 4 := by rw [IntKind.wrap_i64]; omega
    go_enter Try.func44, Try.ntmps44
    go_wp2
    go_returns
    exact ⟨by rw [← hs.out]; rfl, rfl⟩
  · have hs : Hid (q.tmod 4 = q % 4) := by unfold Hid; omega
    go_enter Try.func44, Try.ntmps44
    go_wp2
    go_returns
    exact ⟨by rw [← hs.out]; rfl, rfl⟩


end Go.Proofs.Ytokdpgabmifdjaa
