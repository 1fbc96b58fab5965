/- Proved here: inBoth is the word of both. -/
import Derived.Test.YtokdpgabmifdjaaIRuns
namespace Go.Proofs.Ytokdpgabmifdjaa
open Go.RowKit
set_option linter.unusedVariables false
set_option linter.unusedSimpArgs false

theorem word_both : Word 59 (takesK 2) := by
  refine ⟨?_, enter_of (fn := Try.f59) (by kernel_rfl) (by kernel_rfl) (by kernel_rfl), by kernel_rfl⟩
  intro p q W
  cases p <;> cases q <;> (go_enter Try.func59, Try.ntmps59; go_wp2; go_returns; exact ⟨rfl, rfl⟩)

end Go.Proofs.Ytokdpgabmifdjaa
