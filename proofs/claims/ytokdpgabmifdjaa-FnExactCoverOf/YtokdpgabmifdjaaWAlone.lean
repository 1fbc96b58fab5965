/- Proved here: inFirstAlone is the word of the first alone. -/
import Derived.Test.YtokdpgabmifdjaaIRuns
namespace Go.Proofs.Ytokdpgabmifdjaa
open Go.RowKit
set_option linter.unusedVariables false
set_option linter.unusedSimpArgs false

theorem word_alone : Word 58 (takesK 3) := by
  refine ⟨?_, enter_of (fn := Try.f58) (by kernel_rfl) (by kernel_rfl) (by kernel_rfl), by kernel_rfl⟩
  intro p q W
  cases p <;> cases q <;> (go_enter Try.func58, Try.ntmps58; go_wp2; go_returns; exact ⟨rfl, rfl⟩)

end Go.Proofs.Ytokdpgabmifdjaa
