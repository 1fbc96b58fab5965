/- Proved here: the model's four words on two bits. -/
import Derived.Test.YtpfnhiohbgconaaBoxBase
namespace Go.Proofs.Ytpfnhiohbgconaa
open Go.RowKit
set_option linter.unusedVariables false
set_option linter.unusedSimpArgs false

def takesK (op : Int) (p q : Bool) : Bool := if op = 1 then p || q else if op = 2 then p && q else if op = 3 then p && !q else p != q

set_option maxHeartbeats 1600000 in
theorem spec_takes (op : Int) (p q : Bool) (w : World) :
    Calls Try.prog 116 #[.int .i64 op, .bool p, .bool q] w fun e w' => e = .returned (.bool (takesK op p q)) ∧ w' = w := by
  unfold takesK
  by_cases h1 : op = 1
  · subst h1
    cases p <;> cases q <;> (go_enter Try.func116, Try.ntmps116; go_wp2; go_returns; exact ⟨rfl, rfl⟩)
  · by_cases h2 : op = 2
    · subst h2
      cases p <;> cases q <;> (go_enter Try.func116, Try.ntmps116; go_wp2; go_returns; exact ⟨rfl, rfl⟩)
    · by_cases h3 : op = 3
      · subst h3
        cases p <;> cases q <;> (go_enter Try.func116, Try.ntmps116; go_wp2; go_returns; exact ⟨rfl, rfl⟩)
      · rw [if_neg h1, if_neg h2, if_neg h3]
        cases p <;> cases q <;> (go_enter Try.func116, Try.ntmps116; go_wp2; go_returns; exact ⟨rfl, rfl⟩)

end Go.Proofs.Ytpfnhiohbgconaa
