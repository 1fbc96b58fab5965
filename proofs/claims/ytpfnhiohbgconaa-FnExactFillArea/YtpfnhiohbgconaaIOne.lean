/- Proved here: oneForm of the program. -/
import Derived.Test.YtpfnhiohbgconaaWEither
import Derived.Test.YtpfnhiohbgconaaIBc
import Derived.Test.YtpfnhiohbgconaaIEdges
import Derived.Test.YtpfnhiohbgconaaIHeights
import Derived.Test.YtpfnhiohbgconaaTold
namespace Go.Proofs.Ytpfnhiohbgconaa
open Go.RowKit
set_option linter.unusedVariables false
set_option linter.unusedSimpArgs false

theorem told_bc {w : World} {B : Nat} {v : Value} {s : List Bx} (h : BC w B v s) : BC w B (toldV v s.length) (toldL s) := by
  unfold toldV toldL; split
  · exact h
  · exact (BS.nil _ _).bc

set_option maxHeartbeats 1000000 in
theorem impl_oneForm {w : World} {v : Value} {s : List Bx} (hn : s.length ≤ 100000) (hx : ∀ q ∈ s, q.x0 < q.x1) (h : RB w v s) :
    Calls Try.prog 57 #[v] w fun e w' => ∃ v', e = .returned v' ∧ BC w' w.heap.size v' (opOf (takesK 1) s []) ∧ Below w.heap.size w w' := by
  obtain ⟨a, c, rfl⟩ := h.form
  have H : Hid (∀ w1, Below w.heap.size w w1 → Calls Try.prog 95 #[.slice a s.length c, .slice none 0 0, .func (.func 96) #[] #[]] w1 fun e w' => ∃ v', e = .returned v' ∧ BC w' w1.heap.size v' (opOf (takesK 1) s []) ∧ Below w1.heap.size w1 w') := fun w1 hb => impl_sweep impl_heights impl_edges word_either rfl (by simpa using hn) (h.below hb) (BS.nil w1 0).rb hx (fun q hq => by cases hq)
  clear h hx hn
  go_enter Try.func57, Try.ntmps57
  go_wp2_with (fail)
  refine (H.out w (Below.refl _ _)).mono ?_
  rintro e w1 ⟨v1, rfl, h1, hb1⟩
  obtain ⟨x, y, z, rfl, h2⟩ := h1
  have H1 : Hid (BC w1 w.heap.size (.slice x (opOf (takesK 1) s []).length z) (opOf (takesK 1) s []) ∧ Below w.heap.size w w1) := ⟨⟨x, y, z, rfl, h2⟩, hb1⟩
  clear h2 hb1
  go_wp2
  go_returns
  exact ⟨_, rfl, H1.out.1, H1.out.2⟩

end Go.Proofs.Ytpfnhiohbgconaa
