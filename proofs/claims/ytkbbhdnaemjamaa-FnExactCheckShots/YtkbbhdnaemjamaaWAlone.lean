/- Proved here: inFirstAlone is the word of the first alone. -/
import Derived.Test.YtkbbhdnaemjamaaIRuns
namespace Go.Proofs.Ytkbbhdnaemjamaa
open Go.RowKit
set_option linter.unusedVariables false
set_option linter.unusedSimpArgs false

theorem word_alone : Word 54 (takesK 3) := by
  refine ⟨?_, enter_of (fn := Try.f54) (by kernel_rfl) (by kernel_rfl) (by kernel_rfl), by kernel_rfl⟩
  intro p q W
  cases p <;> cases q <;> (go_enter Try.func54, Try.ntmps54; go_wp2; go_returns; exact ⟨rfl, rfl⟩)

end Go.Proofs.Ytkbbhdnaemjamaa
