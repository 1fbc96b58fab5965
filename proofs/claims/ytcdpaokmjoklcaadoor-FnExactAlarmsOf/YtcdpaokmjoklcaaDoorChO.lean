/- Proved here: a number beyond the bounds of a chart, of the model (l16Out). -/
import Derived.Test.YtcdpaokmjoklcaaDoorIntsBase
namespace Go.Proofs.YtcdpaokmjoklcaaDoor
open Go.RowKit
set_option linter.unusedVariables false
set_option linter.unusedSimpArgs false

set_option maxHeartbeats 800000 in
theorem spec_out (x : Int) (q : Bool) (hq : q = decide (-1000000 ≤ x ∧ x ≤ 1000000)) (w : World) : Calls Tryd.prog 13 #[.int .i64 x] w fun e w' => e = .returned (.bool (!q)) ∧ w' = w := by
  have H : Hid ((x < -1000000 → (!q) = true) ∧ (1000000 < x → (!q) = true) ∧ (¬ x < -1000000 → ¬ 1000000 < x → (!q) = false)) := by
    unfold Hid; rw [hq]
    exact ⟨fun h => by simp; omega, fun h => by simp; omega, fun h1 h2 => by simp; omega⟩
  clear hq
  obtain ⟨r, hr⟩ : ∃ r, r = !q := ⟨_, rfl⟩
  rw [← hr] at H ⊢
  clear hr
  by_cases h1 : x < -1000000
  · obtain rfl := H.out.1 h1
    go_enter Tryd.func13, Tryd.ntmps13
    go_wp2
    go_returns
    exact ⟨rfl, rfl⟩
  · by_cases h2 : 1000000 < x
    · obtain rfl := H.out.2.1 h2
      go_enter Tryd.func13, Tryd.ntmps13
      go_wp2
      go_returns
      exact ⟨rfl, rfl⟩
    · obtain rfl := H.out.2.2 h1 h2
      go_enter Tryd.func13, Tryd.ntmps13
      go_wp2
      go_returns
      exact ⟨rfl, rfl⟩

end Go.Proofs.YtcdpaokmjoklcaaDoor
