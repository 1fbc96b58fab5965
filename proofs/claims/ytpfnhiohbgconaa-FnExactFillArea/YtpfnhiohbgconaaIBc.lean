/- Proved here: lists of boxes of the call's own with any capacity: what keeps them. -/
import Derived.Test.YtpfnhiohbgconaaISweep
namespace Go.Proofs.Ytpfnhiohbgconaa
open Go.RowKit
set_option linter.unusedVariables false
set_option linter.unusedSimpArgs false

theorem BC.kept {w w' : World} {B : Nat} {v : Value} {s : List Bx} (h : BC w B v s) (hb : ∀ g, v.ownBlock = some g → w'.heap[g]? = w.heap[g]?) : BC w' B v s := by
  obtain ⟨a, c, c', rfl, h⟩ := h
  exact ⟨a, c, c', rfl, h.kept fun g hg => hb g (by cases a <;> simp_all [Value.ownBlock])⟩
theorem BC.lt {w : World} {B g : Nat} {v : Value} {s : List Bx} (h : BC w B v s) (hg : v.ownBlock = some g) : B ≤ g := by
  obtain ⟨a, c, c', rfl, h⟩ := h
  exact (World.ownsRow.lt h g (by cases a <;> simp_all [Value.ownBlock])).1

end Go.Proofs.Ytpfnhiohbgconaa
