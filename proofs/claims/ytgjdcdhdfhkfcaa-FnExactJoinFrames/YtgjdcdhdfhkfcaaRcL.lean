/- Proved here: rows of floats that are read, none longer than its room. -/
import Derived.Test.YtgjdcdhdfhkfcaaFwR
namespace Go.Proofs.Ytgjdcdhdfhkfcaa
open Go.RowKit
set_option linter.unusedVariables false
set_option linter.unusedSimpArgs false

/-- Rows that are read: none is longer than its room. -/
def RcL (w : World) (v : Value) (ls : List (List Nat)) : Prop :=
  RsL w v ls ∧ (∀ a n c, v = .slice a n c → n ≤ c) ∧ ∀ g o n c j ua un uc, v = .slice (some ⟨g, o, none⟩) n c → j < n → w.cell? ⟨g, o + j, none⟩ = some (.slice ua un uc) → un ≤ uc
theorem RcL.below {w w' : World} {v : Value} {ls : List (List Nat)} (h : RcL w v ls) (hb : Below w.heap.size w w') : RcL w' v ls := by
  refine ⟨h.1.below hb, h.2.1, fun g o n c j ua un uc e hj hc => ?_⟩
  subst e
  obtain ⟨g', o', _, _, _, e1, hg, _⟩ := h.1.at hj
  injection e1 with e1
  injection e1 with e2 e3
  subst e2 e3
  rw [hb.cell (p := ⟨g, o + j, none⟩) hg] at hc
  exact h.2.2 g o n c j ua un uc rfl hj hc
theorem RoL.rdc {w : World} {B : Nat} {v : Value} {ls : List (List Nat)} {vs : List Value} (h : RoL w B v ls vs) : RcL w v ls := by
  refine ⟨h.rd, fun a n c e => ?_, fun g o n c j ua un uc e hj hc => ?_⟩
  · rcases h.o.2 with ⟨e1, e2⟩ | ⟨g, cap, cur, e1, _, _, hn, _⟩
    · rw [e1] at e; injection e with _ e3 e4; omega
    · rw [e1] at e; injection e with _ e3 e4; omega
  · subst e
    have hnl : n = ls.length := h.rd.len
    obtain ⟨g', cap, e1, _, _, hx⟩ := h.pos (by omega)
    injection e1 with e1 e2 e3
    injection e1 with e1
    injection e1 with e4 e5
    subst e4 e5
    have h1 := hx j (by omega)
    rw [Nat.zero_add] at hc
    rw [h1] at hc
    injection hc with hc
    have hb := h.bx j (by omega)
    rw [hc] at hb
    rcases hb.2 with ⟨e6, e7⟩ | ⟨g2, cap2, cur2, e6, _, _, hn2, _⟩
    · injection e6 with _ e8 e9; omega
    · injection e6 with _ e8 e9; omega

end Go.Proofs.Ytgjdcdhdfhkfcaa
