/- Proved here: a row of the call's own whose cells the library has laid anew (putRow, grow): it is the call's own still, with the new cells. No condition on the program. -/
import Derived.Test.YtngpjglcjbdblaaIntsBase
import Derived.Sort.Row
import Derived.Sort.Grow
namespace Go.Proofs.Ytngpjglcjbdblaa
open Go.RowKit Go.Sort
set_option linter.unusedVariables false
set_option linter.unusedSimpArgs false

theorem put_block (w : World) (m g : Nat) (F : Array Value) (os : Array Obj) (k : Nat) (hk : k < w.heap.size) : (grow (putRow id (Sort.ahead w m) g 0 F) os).heap[k]? = if g = k then (w.heap[k]?).map (onCells (putCells id 0 F)) else w.heap[k]? := by
  show (((w.heap.modify g (onCells (putCells id 0 F)))) ++ os)[k]? = _
  rw [Array.getElem?_append_left (by simpa using hk), Array.getElem?_modify]

theorem put_below (w : World) (m g B : Nat) (F : Array Value) (os : Array Obj) (hB : B ≤ g) (hg : g < w.heap.size) : Below B w (grow (putRow id (Sort.ahead w m) g 0 F) os) := by
  refine ⟨rfl, rfl, rfl, ?_, fun k hk => ?_⟩
  · show w.heap.size ≤ ((w.heap.modify g (onCells (putCells id 0 F))) ++ os).size
    simp
  · rw [put_block w m g F os k (by omega), if_neg (by omega)]

theorem put_owns {w : World} {B T k g n cap : Nat} {cs : List Value} (h : w.ownsRow B T k (.slice (some ⟨g, 0, none⟩) n cap) n cs) (cs' : List Value) (hl : cs'.length = n * k) (m : Nat) (os : Array Obj) :
    (grow (putRow id (Sort.ahead w m) g 0 cs'.toArray) os).ownsRow B T k (.slice (some ⟨g, 0, none⟩) n cap) n cs' := by
  have hlt := (World.ownsRow.lt h g rfl).2
  refine ⟨hl, Or.inr ?_⟩
  rcases h.2 with ⟨e, _⟩ | ⟨g', cap', cur, e, hB, hg, hn, hm, hs, ht⟩
  · cases e
  · simp only [Value.slice.injEq, Option.some.injEq, Addr.mk.injEq, and_true, true_and] at e
    obtain ⟨rfl, rfl⟩ := e
    refine ⟨g, cap, putCells id 0 cs'.toArray cur, rfl, hB, ?_, hn, hm, by simpa [putCells] using hs, ?_⟩
    · rw [put_block w m g _ os g hlt, if_pos rfl, hg]
      rfl
    · apply List.ext_getElem?
      intro t
      rw [List.getElem?_take]
      have hnk : n * k ≤ cap * k := Nat.mul_le_mul_right _ hn
      rcases Nat.lt_or_ge t (n * k) with h1 | h1
      · rw [if_pos h1, Array.getElem?_toList]
        unfold putCells
        rw [Array.getElem?_mapIdx]
        have hc : t < cur.size := by omega
        rw [Array.getElem?_eq_getElem hc]
        have h2 : t < cs'.length := by omega
        simp [h1, h2, hl, List.getElem?_eq_getElem h2]
      · rw [if_neg (by omega), List.getElem?_eq_none (by omega)]

theorem owns_holds {w : World} {B T k g n cap : Nat} {cs : List Value} (h : w.ownsRow B T k (.slice (some ⟨g, 0, none⟩) n cap) n cs) : Holds id w g 0 cs.toArray := by
  intro j hj
  have hj' : j < cs.length := by simpa using hj
  rw [Nat.zero_add]
  refine ⟨?_, World.ownsRow.frozenAt h j⟩
  rw [World.ownsRow.cellAt h j (by have := h.1; omega)]
  simp [hj']

end Go.Proofs.Ytngpjglcjbdblaa
