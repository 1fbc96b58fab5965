/- Proved here: inEither is the word of either. -/
import Derived.Test.YtpfnhiohbgconaaIRuns
namespace Go.Proofs.Ytpfnhiohbgconaa
open Go.RowKit
set_option linter.unusedVariables false
set_option linter.unusedSimpArgs false

theorem word_either : Word 96 (takesK 1) := by
  refine ⟨?_, enter_of (fn := Try.f96) (by kernel_rfl) (by kernel_rfl) (by kernel_rfl), by kernel_rfl⟩
  intro p q W
  cases p <;> cases q <;> (go_enter Try.func96, Try.ntmps96; go_wp2; go_returns; exact ⟨rfl, rfl⟩)

end Go.Proofs.Ytpfnhiohbgconaa
