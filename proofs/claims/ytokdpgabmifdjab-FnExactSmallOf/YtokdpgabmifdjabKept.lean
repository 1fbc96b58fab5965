/- Proved here: small rules on worlds that have grown: what was there is there still. No condition on the program. (And ahead of it: Proved here: the model's four words on two bits.) -/
import Derived.Test.YtokdpgabmifdjabBoxBase
import Derived.Test.YtokdpgabmifdjabIntsBase
namespace Go.Proofs.Ytokdpgabmifdjab
open Go.RowKit
set_option linter.unusedVariables false
set_option linter.unusedSimpArgs false

def takesK (op : Int) (p q : Bool) : Bool := if op = 1 then p || q else if op = 2 then p && q else if op = 3 then p && !q else p != q

set_option maxHeartbeats 1600000 in
theorem spec_takes (op : Int) (p q : Bool) (w : World) :
    Calls Try.prog 97 #[.int .i64 op, .bool p, .bool q] w fun e w' => e = .returned (.bool (takesK op p q)) ∧ w' = w := by
  unfold takesK
  by_cases h1 : op = 1
  · subst h1
    cases p <;> cases q <;> (go_enter Try.func97, Try.ntmps97; go_wp2; go_returns; exact ⟨rfl, rfl⟩)
  · by_cases h2 : op = 2
    · subst h2
      cases p <;> cases q <;> (go_enter Try.func97, Try.ntmps97; go_wp2; go_returns; exact ⟨rfl, rfl⟩)
    · by_cases h3 : op = 3
      · subst h3
        cases p <;> cases q <;> (go_enter Try.func97, Try.ntmps97; go_wp2; go_returns; exact ⟨rfl, rfl⟩)
      · rw [if_neg h1, if_neg h2, if_neg h3]
        cases p <;> cases q <;> (go_enter Try.func97, Try.ntmps97; go_wp2; go_returns; exact ⟨rfl, rfl⟩)

end Go.Proofs.Ytokdpgabmifdjab

namespace Go.Proofs.Ytokdpgabmifdjab
open Go.RowKit
set_option linter.unusedVariables false

/-- What lay in W lies in w still. -/
def KS (W w : World) : Prop := (∀ b o, b < W.heap.size → w.cell? ⟨b, o, none⟩ = W.cell? ⟨b, o, none⟩) ∧ Below W.heap.size W w

theorem KS.of {W w : World} (h : Below W.heap.size W w) : KS W w := ⟨fun b o hb => h.cell (p := ⟨b, o, none⟩) hb, h⟩
theorem KS.start (W : World) : KS W W.drew := KS.of ((Below.refl _ _).drew)
theorem KS.call {W w w' : World} (h : KS W w) (hb : Below w.heap.size w w') : KS W w' := KS.of (h.2.trans (hb.mono h.2.size))
theorem KS.alloc {W w : World} (h : KS W w) (o : Obj) : KS W (w.alloc o) := KS.of (h.2.alloc h.2.size o)
theorem KS.set {W w : World} (h : KS W w) {p : Addr} (hp : W.heap.size ≤ p.block) (u : Value) : KS W (w.setCell p u) := KS.of (h.2.setCell hp u)

end Go.Proofs.Ytokdpgabmifdjab
