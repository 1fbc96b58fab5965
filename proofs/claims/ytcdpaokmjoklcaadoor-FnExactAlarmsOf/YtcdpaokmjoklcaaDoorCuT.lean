/- Proved here: a list of alarms that grows beside the place of an answer. -/
import Derived.Test.YtcdpaokmjoklcaaDoorAlC
import Derived.Test.YtcdpaokmjoklcaaDoorEwT
namespace Go.Proofs.YtcdpaokmjoklcaaDoor
open Go.RowKit
set_option linter.unusedVariables false
set_option linter.unusedSimpArgs false

theorem al_snoc {w : World} {B : Nat} {v : Value} {s : List Alm} {x y : Int} (h : w.ownsRow B 38 2 v (s.length + 1) (s.flatMap alC ++ [.int .i64 x, .int .i64 y])) : OG 38 2 alC w B v (s ++ [(⟨x, y⟩ : Alm)]) := by
  show w.ownsRow B 38 2 v (s ++ [(⟨x, y⟩ : Alm)]).length ((s ++ [(⟨x, y⟩ : Alm)]).flatMap alC)
  rw [List.length_append, List.flatMap_append]
  simpa [alC] using h
theorem al_nil {T : Nat} (w : World) (B : Nat) : OG T 2 alC w B (.slice none 0 0) [] := ⟨rfl, Or.inl ⟨rfl, rfl⟩⟩
theorem al_lit0 (w : World) (B : Nat) (hB : B ≤ w.heap.size) : OG 38 2 alC (w.alloc (.cells #[] 38)) B (.slice (some ⟨w.heap.size, 0, none⟩) 0 0) [] :=
  World.ownsRow_lit w #[] 0 hB (by decide) (by simp)
/-- Where a function stands whose answer's place is its first new block; its list lies from lo on. -/
structure AlT (w wr : World) (o : Obj) (lo : Nat) (v : Value) (cur : List Alm) : Prop where
  bl : Below w.heap.size w wr
  bx : wr.heap[w.heap.size]? = some o
  su : OG 38 2 alC wr lo v cur
  lo1 : w.heap.size + 1 ≤ lo
  lo2 : lo ≤ wr.heap.size
theorem AlT.form {w wr : World} {o : Obj} {lo : Nat} {v : Value} {cur : List Alm} (h : AlT w wr o lo v cur) : ∃ a c, v = .slice a cur.length c := (OG.rg alC_len h.su).form
theorem AlT.own {w wr : World} {o : Obj} {lo : Nat} {va : Option Addr} {n vc : Nat} {cur : List Alm} (h : AlT w wr o lo (.slice va n vc) cur) (hn : n = cur.length) : wr.ownsRow lo 38 2 (.slice va n vc) n (cur.flatMap alC) := by
  have h1 := h.su
  unfold OG at h1
  rw [← hn] at h1
  exact h1
theorem AlT.lt {w wr : World} {o : Obj} {lo : Nat} {v : Value} {cur : List Alm} (h : AlT w wr o lo v cur) : ∀ g, v.ownBlock = some g → lo ≤ g := fun g hg => (OG.lt h.su g hg).1
theorem AlT.push {w wr w6 : World} {o oo : Obj} {lo : Nat} {va : Option Addr} {n vc : Nat} {cur : List Alm} {v6 : Value} {x y : Int} (h : AlT w wr o lo (.slice va n vc) cur) (hn : n = cur.length)
    (hown : w6.ownsRow lo 38 2 v6 (n + 1) (cur.flatMap alC ++ [.int .i64 x, .int .i64 y])) (hg : (wr.alloc oo).grownBy w6 (Value.slice va n vc).ownBlock) : AlT w w6 o lo v6 (cur ++ [⟨x, y⟩]) ∧ (∀ k, k < lo → w6.heap[k]? = wr.heap[k]?) := by
  have h1 := h.lo1
  have h2 := h.lo2
  have hb : ∀ k, k < lo → w6.heap[k]? = wr.heap[k]? := fun k hk => by
    rw [hg.block _ (by simp; omega) (fun e => by have := h.lt _ e.symm; omega), Below.heap_alloc _ _ _ (by omega)]
  refine ⟨⟨(h.bl.alloc h.bl.size _).grown hg (by have := h.bl.size; simp; omega) (fun k hk => by have := h.lt k hk; omega), ?_, al_snoc (by rw [← hn]; exact hown), h1, ?_⟩, hb⟩
  · rw [hb _ (by omega)]; exact h.bx
  · have := hg.size
    simp at this
    omega
theorem AlT.done {w wr : World} {o : Obj} {lo : Nat} {v u0 u1 : Value} {cur : List Alm} (h : AlT w wr o lo v cur) : OG 38 2 alC ((wr.setCell ⟨w.heap.size, 0, none⟩ u0).setCell ⟨w.heap.size, 1, none⟩ u1) w.heap.size v cur := by
  have h1 := h.lo1
  refine OG.low (B := lo) (show OG _ _ _ _ _ _ _ from ownsRow_keep h.su fun g hg => ?_) (by omega)
  have h2 := h.lt g hg
  rw [heap_setCell_other _ _ _ _ (by simp; omega), heap_setCell_other _ _ _ _ (by simp; omega)]
/-- A block below the list turns: the list stays. -/
theorem AlT.set {w wr : World} {o : Obj} {lo : Nat} {v u : Value} {cur : List Alm} (h : AlT w wr o lo v cur) (k j : Nat) (h1 : w.heap.size < k) (h2 : k < lo) : AlT w (wr.setCell ⟨k, j, none⟩ u) o lo v cur := by
  refine ⟨h.bl.setCell (p := ⟨k, j, none⟩) (by simp; omega) _, ?_, ?_, h.lo1, by simpa using h.lo2⟩
  · rw [heap_setCell_other _ _ _ _ (by simp; omega)]; exact h.bx
  · exact ownsRow_keep h.su fun g hg => heap_setCell_other _ _ _ _ (by have := h.lt g hg; simp; omega)
/-- The same, with the two sums in a block of their own. -/
structure CuT (w wr : World) (o : Obj) (T : TypeId) (v : Value) (cur : List Alm) (a b : Int) : Prop where
  al : AlT w wr o (w.heap.size + 2) v cur
  sm : wr.heap[w.heap.size + 1]? = some (.cells #[.int .i64 a, .int .i64 b] T)
theorem CuT.set0 {w wr : World} {o : Obj} {T : TypeId} {v : Value} {cur : List Alm} {a b : Int} (h : CuT w wr o T v cur a b) (x : Int) : CuT w (wr.setCell ⟨w.heap.size + 1, 0, none⟩ (.int .i64 x)) o T v cur x b :=
  ⟨h.al.set _ _ (by omega) (by omega), heap_setCell_same _ _ 0 _ _ _ h.sm⟩
theorem CuT.set1 {w wr : World} {o : Obj} {T : TypeId} {v : Value} {cur : List Alm} {a b : Int} (h : CuT w wr o T v cur a b) (x : Int) : CuT w (wr.setCell ⟨w.heap.size + 1, 1, none⟩ (.int .i64 x)) o T v cur a x :=
  ⟨h.al.set _ _ (by omega) (by omega), heap_setCell_same _ _ 1 _ _ _ h.sm⟩
theorem CuT.push {w wr w6 : World} {o oo : Obj} {T : TypeId} {va : Option Addr} {n vc : Nat} {cur : List Alm} {v6 : Value} {x y a b : Int} (h : CuT w wr o T (.slice va n vc) cur a b) (hn : n = cur.length)
    (hown : w6.ownsRow (w.heap.size + 2) 38 2 v6 (n + 1) (cur.flatMap alC ++ [.int .i64 x, .int .i64 y])) (hg : (wr.alloc oo).grownBy w6 (Value.slice va n vc).ownBlock) : CuT w w6 o T v6 (cur ++ [⟨x, y⟩]) a b := by
  have h1 := h.al.push hn hown hg
  exact ⟨h1.1, (h1.2 _ (by omega)).trans h.sm⟩

end Go.Proofs.YtcdpaokmjoklcaaDoor
