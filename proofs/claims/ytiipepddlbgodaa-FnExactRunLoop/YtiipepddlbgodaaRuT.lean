/- Proved here: two lists of numbers that grow beside each other in a struct. -/
import Derived.Test.YtiipepddlbgodaaChM
import Derived.Test.YtiipepddlbgodaaCpA
import Derived.Test.YtiipepddlbgodaaLwS
import Derived.Deep.AppendLies
import Derived.Maps.AppendAt
namespace Go.Proofs.Ytiipepddlbgodaa
open Go.RowKit Go.Maps
set_option linter.unusedVariables false
set_option linter.unusedSimpArgs false

/-- Where a run of a loop stands: the loop, the answer's place, the struct with its two lists. -/
structure RuT (w wr : World) (K : Nat) (bo ro : Obj) (vi ve : Value) (I E : List Int) : Prop where
  bl : Below w.heap.size w wr
  b0 : wr.heap[w.heap.size]? = some bo
  b1 : wr.heap[w.heap.size + 1]? = some ro
  bk : wr.heap[K]? = some (.cells #[.int .i64 0, vi, ve] 48)
  li : IS wr (K + 1) vi I
  le : IS wr (K + 1) ve E
  ap : ∀ g, vi.ownBlock = some g → ve.ownBlock ≠ some g
  kk : w.heap.size + 1 < K
theorem RuT.next {w wr wr' : World} {K : Nat} {bo ro : Obj} {vi ve : Value} {I E : List Int} (h : RuT w wr K bo ro vi ve I E) (hb : Below wr.heap.size wr wr') : RuT w wr' K bo ro vi ve I E :=
  ⟨h.bl.trans (hb.mono h.bl.size), (hb.block _ (ltOf h.b0)).trans h.b0, (hb.block _ (ltOf h.b1)).trans h.b1, (hb.block _ (ltOf h.bk)).trans h.bk, h.li.kept fun g hg => hb.block g (World.ownsRow.lt h.li g hg).2, h.le.kept fun g hg => hb.block g (World.ownsRow.lt h.le g hg).2, h.ap, h.kk⟩
theorem run_three {w : World} {k : Nat} {a b c : Value} {T : TypeId} (h : w.heap[k]? = some (.cells #[a, b, c] T)) :
    w.cell? ⟨k, 0, none⟩ = some a ∧ w.cell? ⟨k, 1, none⟩ = some b ∧ w.cell? ⟨k, 2, none⟩ = some c ∧ w.frozen? ⟨k, 0, none⟩ = false ∧ w.frozen? ⟨k, 1, none⟩ = false ∧ w.frozen? ⟨k, 2, none⟩ = false ∧ k < w.heap.size := ⟨cellOf h 0 rfl, cellOf h 1 rfl, cellOf h 2 rfl, frozOf h 0, frozOf h 1, frozOf h 2, ltOf h⟩
theorem run_own {wr : World} {B : Nat} {va : Option Addr} {n vc : Nat} {cur : List Int} (h : IS wr B (.slice va n vc) cur) (hn : n = cur.length) : wr.ownsRow B 2 1 (.slice va n vc) n (cur.map (Value.int .i64)) := by
  unfold IS at h
  rw [← hn] at h
  exact h
theorem run_snoc {w : World} {B n : Nat} {v : Value} {xs : List Int} {y : Int} (hn : n = xs.length) (h : w.ownsRow B 2 1 v (n + 1) (xs.map (Value.int .i64) ++ [.int .i64 y])) : IS w B v (xs ++ [y]) := by
  unfold IS
  rw [List.length_append, List.map_append, ← hn]
  exact h
theorem RuT.grown {w wr w6 : World} {K : Nat} {bo ro oo : Obj} {vi ve v : Value} {I E : List Int} (h : RuT w wr K bo ro vi ve I E) (hv : v = vi ∨ v = ve) (hg : (wr.alloc oo).grownBy w6 v.ownBlock) :
    Below w.heap.size w w6 ∧ w6.heap[w.heap.size]? = some bo ∧ w6.heap[w.heap.size + 1]? = some ro ∧ w6.heap[K]? = some (.cells #[.int .i64 0, vi, ve] 48) := by
  have hk := h.kk
  have hs := ltOf h.bk
  have hlt : ∀ g, v.ownBlock = some g → K + 1 ≤ g := fun g hg => by
    rcases hv with rfl | rfl
    · exact (World.ownsRow.lt h.li g hg).1
    · exact (World.ownsRow.lt h.le g hg).1
  have hb : ∀ k, k ≤ K → w6.heap[k]? = wr.heap[k]? := fun k hk2 => by
    rw [hg.block _ (by simp; omega) (fun e => by have := hlt _ e.symm; omega), Below.heap_alloc _ _ _ (by omega)]
  refine ⟨(h.bl.alloc h.bl.size _).grown hg (by have := h.bl.size; simp; omega) (fun k hk => by have := hlt k hk; omega), ?_, ?_, ?_⟩
  · rw [hb _ (by omega)]; exact h.b0
  · rw [hb _ (by omega)]; exact h.b1
  · rw [hb _ (by omega)]; exact h.bk
theorem RuT.pushI {w wr w6 : World} {K n : Nat} {bo ro oo : Obj} {vi ve v6 : Value} {I E : List Int} {y : Int} (h : RuT w wr K bo ro vi ve I E) (hn : n = I.length)
    (hown : w6.ownsRow (K + 1) 2 1 v6 (n + 1) (I.map (Value.int .i64) ++ [.int .i64 y])) (hg : (wr.alloc oo).grownBy w6 vi.ownBlock) (hloc : v6.ownBlock = vi.ownBlock ∨ v6.ownBlock = some (wr.alloc oo).heap.size) :
    RuT w (w6.setCell ⟨K, 1, none⟩ v6) K bo ro v6 ve (I ++ [y]) E := by
  obtain ⟨g1, g2, g3, g4⟩ := h.grown (Or.inl rfl) hg
  have hk := h.kk
  have hI : IS w6 (K + 1) v6 (I ++ [y]) := run_snoc hn hown
  have hE : IS w6 (K + 1) ve E := h.le.kept fun g hg' => by
    rw [hg.block _ (by have := (World.ownsRow.lt h.le g hg').2; simp; omega) (fun e => h.ap g e.symm hg'), Below.heap_alloc _ _ _ (World.ownsRow.lt h.le g hg').2]
  refine ⟨g1.setCell (p := ⟨K, 1, none⟩) (by simp; omega) _, ?_, ?_, heap_setCell_same _ _ 1 _ _ _ g4, hI.kept fun g hg' => heap_setCell_other _ _ _ _ (by have := (World.ownsRow.lt hI g hg').1; simp; omega), hE.kept fun g hg' => heap_setCell_other _ _ _ _ (by have := (World.ownsRow.lt hE g hg').1; simp; omega), ?_, hk⟩
  · rw [heap_setCell_other _ _ _ _ (by simp; omega)]; exact g2
  · rw [heap_setCell_other _ _ _ _ (by simp; omega)]; exact g3
  · intro g hg1 hg2
    rcases hloc with e | e
    · exact h.ap g (by rw [← e]; exact hg1) hg2
    · rw [e] at hg1
      have h1 := Option.some.inj hg1
      have h2 := (World.ownsRow.lt h.le g hg2).2
      simp at h1
      omega
theorem RuT.pushE {w wr w6 : World} {K n : Nat} {bo ro oo : Obj} {vi ve v6 : Value} {I E : List Int} {y : Int} (h : RuT w wr K bo ro vi ve I E) (hn : n = E.length)
    (hown : w6.ownsRow (K + 1) 2 1 v6 (n + 1) (E.map (Value.int .i64) ++ [.int .i64 y])) (hg : (wr.alloc oo).grownBy w6 ve.ownBlock) (hloc : v6.ownBlock = ve.ownBlock ∨ v6.ownBlock = some (wr.alloc oo).heap.size) :
    RuT w (w6.setCell ⟨K, 2, none⟩ v6) K bo ro vi v6 I (E ++ [y]) := by
  obtain ⟨g1, g2, g3, g4⟩ := h.grown (Or.inr rfl) hg
  have hk := h.kk
  have hE : IS w6 (K + 1) v6 (E ++ [y]) := run_snoc hn hown
  have hI : IS w6 (K + 1) vi I := h.li.kept fun g hg' => by
    rw [hg.block _ (by have := (World.ownsRow.lt h.li g hg').2; simp; omega) (fun e => h.ap g hg' e.symm), Below.heap_alloc _ _ _ (World.ownsRow.lt h.li g hg').2]
  refine ⟨g1.setCell (p := ⟨K, 2, none⟩) (by simp; omega) _, ?_, ?_, heap_setCell_same _ _ 2 _ _ _ g4, hI.kept fun g hg' => heap_setCell_other _ _ _ _ (by have := (World.ownsRow.lt hI g hg').1; simp; omega), hE.kept fun g hg' => heap_setCell_other _ _ _ _ (by have := (World.ownsRow.lt hE g hg').1; simp; omega), ?_, hk⟩
  · rw [heap_setCell_other _ _ _ _ (by simp; omega)]; exact g2
  · rw [heap_setCell_other _ _ _ _ (by simp; omega)]; exact g3
  · intro g hg1 hg2
    rcases hloc with e | e
    · exact h.ap g hg1 (by rw [← e]; exact hg2)
    · rw [e] at hg2
      have h1 := Option.some.inj hg2
      have h2 := (World.ownsRow.lt h.li g hg1).2
      simp at h1
      omega
theorem run_four {w : World} {k : Nat} {a b c d : Value} {T : TypeId} (h : w.heap[k]? = some (.cells #[a, b, c, d] T)) :
    w.cell? ⟨k, 0, none⟩ = some a ∧ w.cell? ⟨k, 1, none⟩ = some b ∧ w.cell? ⟨k, 2, none⟩ = some c ∧ w.cell? ⟨k, 3, none⟩ = some d ∧ k < w.heap.size := ⟨cellOf h 0 rfl, cellOf h 1 rfl, cellOf h 2 rfl, cellOf h 3 rfl, ltOf h⟩
theorem run_nil (w : World) (B : Nat) : IS w B (.slice none 0 0) [] := ⟨rfl, Or.inl ⟨rfl, rfl⟩⟩

end Go.Proofs.Ytiipepddlbgodaa
