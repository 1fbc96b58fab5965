/- Proved here: a list of numbers that grows beside the place of an answer. -/
import Derived.Test.YtcdpaokmjoklcaaDoorChM
import Derived.Test.YtcdpaokmjoklcaaDoorCpA
import Derived.Test.YtcdpaokmjoklcaaDoorLwS
import Derived.Deep.AppendLies
namespace Go.Proofs.YtcdpaokmjoklcaaDoor
open Go.RowKit
set_option linter.unusedVariables false
set_option linter.unusedSimpArgs false

/-- Where a function stands whose answer's place is its first new block, and whose list lies behind it. -/
structure EwT (w wr : World) (o : Obj) (v : Value) (cur : List Int) : Prop where
  bl : Below w.heap.size w wr
  bx : wr.heap[w.heap.size]? = some o
  su : IS wr (w.heap.size + 1) v cur
theorem EwT.sz {w wr : World} {o : Obj} {v : Value} {cur : List Int} (h : EwT w wr o v cur) : w.heap.size + 1 ≤ wr.heap.size := ltOf h.bx
theorem EwT.own {w wr : World} {o : Obj} {va : Option Addr} {n vc : Nat} {cur : List Int} (h : EwT w wr o (.slice va n vc) cur) (hn : n = cur.length) : wr.ownsRow (w.heap.size + 1) 2 1 (.slice va n vc) n (cur.map (Value.int .i64)) := by
  have h1 := h.su
  unfold IS at h1
  rw [← hn] at h1
  exact h1
theorem EwT.push {w wr w6 : World} {o oo : Obj} {va : Option Addr} {n vc : Nat} {cur : List Int} {v6 : Value} {y : Int} (h : EwT w wr o (.slice va n vc) cur) (hn : n = cur.length)
    (hown : w6.ownsRow (w.heap.size + 1) 2 1 v6 (n + 1) (cur.map (Value.int .i64) ++ [.int .i64 y])) (hg : (wr.alloc oo).grownBy w6 (Value.slice va n vc).ownBlock) : EwT w w6 o v6 (cur ++ [y]) := by
  have hs := h.sz
  have hne : ∀ g, (Value.slice va n vc).ownBlock = some g → w.heap.size + 1 ≤ g := fun g hg => (World.ownsRow.lt h.su g hg).1
  refine ⟨(h.bl.alloc (by omega) _).grown hg (by simp; omega) (fun k hk => by have := hne k hk; omega), ?_, ?_⟩
  · rw [hg.block _ (by simp; omega) (fun e => by have := hne _ e.symm; omega), Below.heap_alloc _ _ _ (by omega)]
    exact h.bx
  · unfold IS
    rw [List.length_append, List.map_append, ← hn]
    exact hown
theorem EwT.form {w wr : World} {o : Obj} {v : Value} {cur : List Int} (h : EwT w wr o v cur) : ∃ a c, v = .slice a cur.length c := h.su.form
/-- What is answered, once it stands in its place. -/
theorem EwT.done {w wr : World} {o : Obj} {v u0 u1 : Value} {cur : List Int} (h : EwT w wr o v cur) : IS ((wr.setCell ⟨w.heap.size, 0, none⟩ u0).setCell ⟨w.heap.size, 1, none⟩ u1) w.heap.size v cur := by
  refine IS.low (B := w.heap.size + 1) (IS.kept h.su fun g hg => ?_) (by omega)
  have h1 := (World.ownsRow.lt h.su g hg).1
  rw [heap_setCell_other _ _ _ _ (by simp; omega), heap_setCell_other _ _ _ _ (by simp; omega)]
theorem is_nil (w : World) (B : Nat) : IS w B (.slice none 0 0) [] := ⟨rfl, Or.inl ⟨rfl, rfl⟩⟩
theorem ew_two {w : World} {k : Nat} {a b : Value} {T : TypeId} (h : w.heap[k]? = some (.cells #[a, b] T)) :
    w.cell? ⟨k, 0, none⟩ = some a ∧ w.cell? ⟨k, 1, none⟩ = some b ∧ w.frozen? ⟨k, 0, none⟩ = false ∧ w.frozen? ⟨k, 1, none⟩ = false ∧ k < w.heap.size := ⟨cellOf h 0 rfl, cellOf h 1 rfl, frozOf h 0, frozOf h 1, ltOf h⟩
theorem ewT_lit {w W0 : World} {o : Obj} (hb : Below w.heap.size w W0) (hx : W0.heap[w.heap.size]? = some o) (hs : W0.heap.size = w.heap.size + 1) : EwT w (W0.alloc (.cells #[] 2)) o (.slice (some ⟨W0.heap.size, 0, none⟩) 0 0) [] := by
  refine ⟨hb.alloc (by omega) _, (Below.heap_alloc _ _ _ (by omega)).trans hx, is_lit0 W0 _ (by omega)⟩

end Go.Proofs.YtcdpaokmjoklcaaDoor
