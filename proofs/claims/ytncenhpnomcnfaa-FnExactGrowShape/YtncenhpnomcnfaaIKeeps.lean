/- Proved here: keepsOf: the word of a number, as a function value. -/
import Derived.Test.YtncenhpnomcnfaaIRaise
namespace Go.Proofs.Ytncenhpnomcnfaa
open Go.RowKit
set_option linter.unusedVariables false
set_option linter.unusedSimpArgs false

set_option maxHeartbeats 1000000 in
theorem impl_keeps_not (op : Int) (w : World) (h1 : (op == 1) = false) (h2 : (op == 2) = false) (h3 : (op == 3) = false) (h4 : (op == 4) = false) :
    Calls Try.prog 40 #[.int .i64 op] w fun e w' => e = .returned .nilFunc ∧ w' = w := by
  go_enter Try.func40, Try.ntmps40
  go_wp2
  go_returns
  exact ⟨rfl, rfl⟩
set_option maxHeartbeats 1000000 in
theorem impl_keeps_one (w : World) : Calls Try.prog 40 #[.int .i64 1] w fun e w' => e = .returned (.func (.func 59) #[] #[]) ∧ w' = w := by
  go_enter Try.func40, Try.ntmps40
  go_wp2
  go_returns
  exact ⟨rfl, rfl⟩
set_option maxHeartbeats 1000000 in
theorem impl_keeps_two (w : World) : Calls Try.prog 40 #[.int .i64 2] w fun e w' => e = .returned (.func (.func 61) #[] #[]) ∧ w' = w := by
  go_enter Try.func40, Try.ntmps40
  go_wp2
  go_returns
  exact ⟨rfl, rfl⟩
set_option maxHeartbeats 1000000 in
theorem impl_keeps_three (w : World) : Calls Try.prog 40 #[.int .i64 3] w fun e w' => e = .returned (.func (.func 62) #[] #[]) ∧ w' = w := by
  go_enter Try.func40, Try.ntmps40
  go_wp2
  go_returns
  exact ⟨rfl, rfl⟩
set_option maxHeartbeats 1000000 in
theorem impl_keeps_four (w : World) : Calls Try.prog 40 #[.int .i64 4] w fun e w' => e = .returned (.func (.func 63) #[] #[]) ∧ w' = w := by
  go_enter Try.func40, Try.ntmps40
  go_wp2
  go_returns
  exact ⟨rfl, rfl⟩

/-- The word of a number between 1 and 4. -/
theorem impl_keeps (op : Int) (w : World) (h : 1 ≤ op ∧ op ≤ 4) : ∃ F, Word F (takesK op) ∧ Calls Try.prog 40 #[.int .i64 op] w fun e w' => e = .returned (.func (.func F) #[] #[]) ∧ w' = w := by
  rcases (by omega : op = 1 ∨ op = 2 ∨ op = 3 ∨ op = 4) with rfl | rfl | rfl | rfl
  · exact ⟨_, word_either, impl_keeps_one w⟩
  · exact ⟨_, word_both, impl_keeps_two w⟩
  · exact ⟨_, word_alone, impl_keeps_three w⟩
  · exact ⟨_, word_one, impl_keeps_four w⟩

end Go.Proofs.Ytncenhpnomcnfaa
