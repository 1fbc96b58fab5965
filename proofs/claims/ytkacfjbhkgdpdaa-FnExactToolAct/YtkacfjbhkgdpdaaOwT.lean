/- Proved here: what a mark of a list turns is that list's own block alone. No condition on the program. -/
import Derived.Test.YtkacfjbhkgdpdaaLwS
import Derived.Test.YtkacfjbhkgdpdaaKept
namespace Go.Proofs.Ytkacfjbhkgdpdaa
open Go.RowKit
set_option linter.unusedVariables false
set_option linter.unusedSimpArgs false

def bLo (v : Value) : Nat := match v.ownBlock with | some g => g | none => 0
def bHi (v : Value) : Nat := match v.ownBlock with | some g => g + 1 | none => 0
theorem bLo_some {v : Value} {g : Nat} (h : v.ownBlock = some g) : bLo v = g := by unfold bLo; rw [h]
theorem bHi_some {v : Value} {g : Nat} (h : v.ownBlock = some g) : bHi v = g + 1 := by unfold bHi; rw [h]
theorem own_tight {V : World} {B T k n : Nat} {v : Value} {ys : List Value} (h : V.ownsRow B T k v n ys) : V.ownsRow (bLo v) T k v n ys := by
  refine ⟨h.1, ?_⟩
  rcases h.2 with h9 | ⟨g, cap, cur, h10, h11, h12⟩
  · exact Or.inl h9
  · exact Or.inr ⟨g, cap, cur, h10, by rw [bLo_some (g := g) (by rw [h10]; rfl)]; exact Nat.le_refl _, h12⟩
theorem tight_lt (v : Value) : ∀ g, v.ownBlock = some g → g < bHi v := fun g h => by rw [bHi_some h]; exact Nat.lt_succ_self g
theorem own_back {V : World} {A B T k n : Nat} {v : Value} {ys : List Value} (h : V.ownsRow A T k v n ys) (hB : ∀ g, v.ownBlock = some g → B ≤ g) : V.ownsRow B T k v n ys := by
  refine ⟨h.1, ?_⟩
  rcases h.2 with h9 | ⟨g, cap, cur, h10, h11, h12⟩
  · exact Or.inl h9
  · exact Or.inr ⟨g, cap, cur, h10, hB g (by rw [h10]; rfl), h12⟩
theorem Chg.tight {w w' : World} {v : Value} {B Z : Nat} (h : Chg (bLo v) (bHi v) w w') (hB : ∀ g, v.ownBlock = some g → B ≤ g ∧ g < Z) : Chg B Z w w' := by
  refine ⟨h.os, h.tape, h.output, h.size, fun k hk hb => h.block k hk ?_⟩
  cases hv : v.ownBlock with
  | none => right; unfold bHi; rw [hv]; exact Nat.zero_le _
  | some g => rw [bLo_some hv, bHi_some hv]; have := hB g hv; omega
theorem Chg.off {w w' : World} {v : Value} (h : Chg (bLo v) (bHi v) w w') {q : Nat} (hq : q < w.heap.size) (hv : v.ownBlock ≠ some q) : w'.heap[q]? = w.heap[q]? := by
  refine h.block q hq ?_
  cases hv2 : v.ownBlock with
  | none => right; unfold bHi; rw [hv2]; exact Nat.zero_le _
  | some g =>
    rw [bLo_some hv2, bHi_some hv2]
    have : g ≠ q := fun e => hv (by rw [hv2, e])
    omega

end Go.Proofs.Ytkacfjbhkgdpdaa
