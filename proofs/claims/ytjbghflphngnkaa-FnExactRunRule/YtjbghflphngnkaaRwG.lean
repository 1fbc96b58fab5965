/- Proved here: small rules on rows of the call's own memory. No condition on the program. -/
import Derived.Test.YtjbghflphngnkaaGen
namespace Go.Proofs.Ytjbghflphngnkaa
open Go.RowKit
set_option linter.unusedVariables false
set_option linter.unusedSimpArgs false

def rat (vs : List Value) (i : Nat) : Value := vs.getD i (.slice none 0 0)
theorem rat_get {vs : List Value} {i : Nat} (h : i < vs.length) : rat vs i = vs[i] := by simp [rat, h]
theorem kindsR {w : World} {g : Nat} {cs ds : Array Value} {s t : TypeId} (h1 : w.heap[g]? = some (.cells cs s (0, 0))) (h2 : w.heap[g]? = some (.cells ds t (0, 0))) (hn : s ≠ t) : False := by
  rw [h1] at h2
  simp only [Option.some.injEq, Obj.cells.injEq] at h2
  exact hn h2.2.1
theorem rowKept {w w' : World} {B T k n : Nat} {v : Value} {xs : List Value} (h : w.ownsRow B T k v n xs) (hb : ∀ g, v.ownBlock = some g → w'.heap[g]? = w.heap[g]?) : w'.ownsRow B T k v n xs := by
  refine ⟨h.1, ?_⟩
  rcases h.2 with h' | ⟨g, cap, cur, rfl, hB, hg, hr⟩
  · exact Or.inl h'
  · exact Or.inr ⟨g, cap, cur, rfl, hB, by rw [hb g rfl]; exact hg, hr⟩
theorem rowBlk {w : World} {B T k n g : Nat} {v : Value} {xs : List Value} (h : w.ownsRow B T k v n xs) (hg : v.ownBlock = some g) : B ≤ g ∧ g < w.heap.size ∧ ∃ cs, w.heap[g]? = some (.cells cs T (0, 0)) := by
  refine ⟨(World.ownsRow.lt h g hg).1, (World.ownsRow.lt h g hg).2, ?_⟩
  rcases h.2 with ⟨e, _⟩ | ⟨g', cap, cur, e, hB, hgg, hr⟩
  · rw [e] at hg; cases hg
  · rw [e] at hg
    simp only [Value.ownBlock, Option.some.injEq] at hg
    subst hg
    exact ⟨_, hgg⟩
theorem rowLow {w : World} {A B T k n : Nat} {v : Value} {xs : List Value} (h : w.ownsRow B T k v n xs) (hab : A ≤ B) : w.ownsRow A T k v n xs := by
  refine ⟨h.1, ?_⟩
  rcases h.2 with h' | ⟨g, cap, cur, rfl, hB, hr⟩
  · exact Or.inl h'
  · exact Or.inr ⟨g, cap, cur, rfl, by omega, hr⟩

end Go.Proofs.Ytjbghflphngnkaa
