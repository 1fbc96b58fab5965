/- Proved here: boxes of a call's own between the rounds of a range over a function. No condition on the program. -/
import Derived.Test.YtfjfogiohijkkabDpI
import Derived.Test.YtfjfogiohijkkabIns
import Derived.Test.YtfjfogiohijkkabRnB
import Derived.RangeFuncBox
import Derived.Maps.AppendAt
namespace Go.Proofs.Ytfjfogiohijkkab
open Go.RowKit Go.Shelf
set_option linter.unusedVariables false
set_option linter.unusedSimpArgs false

/-- Boxes of the call's own, all below N. -/
structure BB (W : World) (bs : List (Nat × Obj)) (N : Nat) (wr : World) : Prop where
  bx : ∀ p ∈ bs, wr.heap[p.1]? = some p.2
  lo : ∀ p ∈ bs, W.heap.size ≤ p.1 ∧ p.1 < N
  nd : bs.Pairwise (fun a b => a.1 ≠ b.1)
  bl : Below W.heap.size W wr
  sz : N ≤ wr.heap.size
theorem BB.at {W : World} {bs : List (Nat × Obj)} {N : Nat} {wr : World} (h : BB W bs N wr) (i : Nat) {k : Nat} {o : Obj} (hi : bs[i]? = some (k, o)) : wr.heap[k]? = some o := h.bx _ (List.mem_of_getElem? hi)
theorem BB.keep {W : World} {bs : List (Nat × Obj)} {N : Nat} {wr w' : World} (h : BB W bs N wr) (hs : ∀ q, W.heap.size ≤ q → q < N → w'.heap[q]? = wr.heap[q]?) (hb : Below W.heap.size W w') (hz : wr.heap.size ≤ w'.heap.size) : BB W bs N w' :=
  ⟨fun p hp => (hs p.1 (h.lo p hp).1 (h.lo p hp).2).trans (h.bx p hp), h.lo, h.nd, hb, Nat.le_trans h.sz hz⟩
theorem BB.below {W : World} {bs : List (Nat × Obj)} {N : Nat} {wr w' : World} (h : BB W bs N wr) (hb : Below wr.heap.size wr w') : BB W bs N w' :=
  h.keep (fun q _ hq => hb.block q (Nat.lt_of_lt_of_le hq h.sz)) (h.bl.trans (hb.mono h.bl.size)) hb.size
theorem BB.own {W : World} {bs : List (Nat × Obj)} {N B : Nat} {wr w' : World} {row : Option Nat} (h : BB W bs N wr) (hB : N ≤ B) (hW : W.heap.size ≤ B) (hg : wr.grownBy w' row) (hr : ∀ r, row = some r → B ≤ r ∧ ∃ o : Obj, wr.heap[r]? = some o ∧ o.isCells = false) : BB W bs N w' :=
  h.keep (fun q _ hq => hg.block q (Nat.lt_of_lt_of_le hq h.sz) fun e => by have := (hr q e.symm).1; omega) (h.bl.grown hg h.bl.size fun q hq => by have := (hr q hq).1; omega) hg.size
theorem BB.set {W : World} {bs : List (Nat × Obj)} {N : Nat} {wr : World} (h : BB W bs N wr) (i : Nat) {k : Nat} (j : Nat) {cs : Array Value} {T : TypeId} (hi : bs[i]? = some (k, .cells cs T)) (v : Value) : BB W (bs.set i (k, .cells (cs.setIfInBounds j v) T)) N (wr.setCell ⟨k, j, none⟩ v) := by
  obtain ⟨hil, hie⟩ := List.getElem?_eq_some_iff.1 hi
  have hk := h.lo _ (List.mem_of_getElem? hi)
  refine ⟨fun p hp => ?_, fun p hp => ?_, ?_, h.bl.setCell (p := ⟨k, j, none⟩) hk.1 _, by simpa using h.sz⟩
  · obtain ⟨q, hq, rfl⟩ := List.getElem_of_mem hp
    rw [List.length_set] at hq
    by_cases e : i = q
    · subst e
      simp only [List.getElem_set_self]
      exact heap_setCell_same _ _ j _ _ v (h.at i hi)
    · rw [List.getElem_set_ne e]
      rw [heap_setCell_other _ _ _ _ ?_]
      · exact h.bx _ (List.getElem_mem hq)
      · have hp := List.pairwise_iff_getElem.1 h.nd
        rcases Nat.lt_or_ge i q with h1 | h1
        · have := hp i q hil hq h1; rw [hie] at this; exact fun e => this e.symm
        · have := hp q i hq hil (by omega); rw [hie] at this; exact this
  · obtain ⟨q, hq, rfl⟩ := List.getElem_of_mem hp
    rw [List.length_set] at hq
    by_cases e : i = q
    · subst e; simpa using hk
    · rw [List.getElem_set_ne e]; exact h.lo _ (List.getElem_mem hq)
  · rw [List.pairwise_iff_getElem]
    intro a b ha hb hab
    rw [List.length_set] at ha hb
    have hp := List.pairwise_iff_getElem.1 h.nd a b ha hb hab
    rw [List.getElem_set, List.getElem_set]
    split <;> split
    · omega
    · rename_i h1 _; subst h1; rw [hie] at hp; exact hp
    · rename_i _ h1; subst h1; rw [hie] at hp; exact hp
    · exact hp
/-- A store into memory of the call's own that is none of the boxes. -/
theorem BB.other {W : World} {bs : List (Nat × Obj)} {N g j : Nat} {wr : World} (h : BB W bs N wr) (hg : W.heap.size ≤ g) (hn : ∀ p ∈ bs, p.1 ≠ g) (v : Value) : BB W bs N (wr.setCell ⟨g, j, none⟩ v) :=
  ⟨fun p hp => (heap_setCell_other _ _ _ _ (hn p hp)).trans (h.bx p hp), h.lo, h.nd, h.bl.setCell (p := ⟨g, j, none⟩) hg _, by simpa using h.sz⟩
theorem BB.start (W : World) : BB W [] W.heap.size W := ⟨fun _ h => (by cases h), fun _ h => (by cases h), List.Pairwise.nil, Below.refl _ _, Nat.le_refl _⟩
theorem BB.grow {W : World} {bs : List (Nat × Obj)} {N M : Nat} {wr w' : World} (h : BB W bs N wr) (hb : Below wr.heap.size wr w') (hN : N ≤ M) (hM : M ≤ w'.heap.size) : BB W bs M w' := by
  have h1 := h.below hb
  exact ⟨h1.bx, fun p hp => ⟨(h1.lo p hp).1, Nat.lt_of_lt_of_le (h1.lo p hp).2 hN⟩, h1.nd, h1.bl, hM⟩
theorem BB.push {W : World} {bs : List (Nat × Obj)} {N : Nat} {wr : World} (h : BB W bs N wr) {k : Nat} (hk : k = wr.heap.size) (o : Obj) : BB W (bs ++ [(k, o)]) (k + 1) (wr.alloc o) := by
  subst hk
  have hb : Below wr.heap.size wr (wr.alloc o) := (Below.refl _ _).alloc (Nat.le_refl _) _
  have h1 := h.grow (M := wr.heap.size + 1) hb (by have := h.sz; omega) (by simp)
  refine ⟨fun p hp => ?_, fun p hp => ?_, ?_, h1.bl, h1.sz⟩
  · rcases List.mem_append.1 hp with h2 | h2
    · exact h1.bx p h2
    · rw [List.mem_singleton.1 h2]; exact heap_alloc_new _ _
  · rcases List.mem_append.1 hp with h2 | h2
    · exact h1.lo p h2
    · rw [List.mem_singleton.1 h2]; exact ⟨h.bl.size, by simp⟩
  · rw [List.pairwise_append]
    refine ⟨h.nd, List.pairwise_singleton _ _, fun a ha b hb2 => ?_⟩
    rw [List.mem_singleton.1 hb2]
    have := (h.lo a ha).2
    have := h.sz
    show a.1 ≠ wr.heap.size
    omega
/-- What a part of a round does. -/
structure RQ (n0 N : Nat) (A B : World) : Prop where
  kf : KeepsFrom N A B
  bw : Below n0 A B
theorem RQ.refl (n0 N : Nat) (A : World) : RQ n0 N A A := ⟨KeepsFrom.refl _ _, Below.refl _ _⟩
theorem RQ.trans {n0 N : Nat} {A B C : World} (h : RQ n0 N A B) (k : RQ n0 N B C) : RQ n0 N A C := ⟨h.kf.trans k.kf, h.bw.trans k.bw⟩
theorem RQ.below {n0 N : Nat} {A B : World} (hW : n0 ≤ A.heap.size) (h : Below A.heap.size A B) : RQ n0 N A B :=
  ⟨⟨h.size, fun q o _ ho _ => (h.block q (Array.getElem?_eq_some_iff.1 ho).1).trans ho⟩, h.mono hW⟩
theorem RQ.set {n0 N : Nat} {A : World} {g o : Nat} {v : Value} (h1 : n0 ≤ g) : RQ n0 N A (A.setCell ⟨g, o, none⟩ v) :=
  ⟨(KeepsOthers.setCell _ _ _).from _, (Below.refl _ _).setCell h1 _⟩

theorem IS.own {w w' : World} {B : Nat} {v : Value} {xs : List Int} {row : Option Nat} (h : IS w B v xs) (hg : w.grownBy w' row) (hr : ∀ r, row = some r → ∃ o : Obj, w.heap[r]? = some o ∧ o.isCells = false) : IS w' B v xs := by
  refine h.kept fun g hgb => ?_
  rcases h.2 with ⟨rfl, _⟩ | ⟨g', cap, cur, rfl, _, hgc, _⟩
  · cases hgb
  · obtain rfl : g' = g := Option.some.inj hgb
    exact (grownBy_keeps_cells hg hr hgc rfl)
theorem IS.notD {w : World} {B g n c D : Nat} {xs : List Int} {d : Option (List Deferred)} (h : IS w B (.slice (some ⟨g, 0, none⟩) n c) xs) (hD : w.heap[D]? = some (.deferred d)) : g ≠ D := by
  rcases h.2 with ⟨e, _⟩ | ⟨g', cap, cur, e, _, hgc, _⟩
  · cases e
  · injection e with e1
    injection e1 with e2
    injection e2 with e3
    intro e
    rw [← e3, e, hD] at hgc
    cases hgc
/-- What an append to a list of the call's own leaves, inside a round. -/
theorem ap_step {W A w5 : World} {bs : List (Nat × Obj)} {N T m k : Nat} {v : Value} {M : List Value} {tmp : Obj} (hb : BB W bs N A) (hW : W.heap.size ≤ N) (hi : A.ownsRow N T k v m M) (hg : (A.alloc tmp).grownBy w5 v.ownBlock) : BB W bs N w5 ∧ KeepsOthers A w5 ∧ Below W.heap.size A w5 := by
  have hlo : ∀ g, v.ownBlock = some g → N ≤ g := fun g h => (World.ownsRow.lt hi g h).1
  have hbl : Below W.heap.size A w5 := ((Below.refl _ A).alloc hb.bl.size tmp).grown hg (by simp; have := hb.bl.size; omega) fun j ej => by have := hlo j ej; omega
  refine ⟨hb.keep (fun q _ hq => ?_) (hb.bl.trans hbl) (by have := hg.size; simp at this; omega), ?_, hbl⟩
  · have h1 : q < A.heap.size := Nat.lt_of_lt_of_le hq hb.sz
    exact (hg.block q (by simp; omega) fun e => by have := hlo q e.symm; omega).trans (Below.heap_alloc _ _ _ h1)
  · refine (KeepsOthers.alloc A tmp).trans (KeepsOthers.of_grownBy hg fun j o ej hj => ?_)
    rcases (hi.alloc tmp).2 with ⟨rfl, _⟩ | ⟨g, cap, cur, rfl, _, hgb, _⟩
    · simp [Value.ownBlock] at ej
    · obtain rfl : g = j := by simpa [Value.ownBlock] using ej
      rw [hgb] at hj; cases hj; rfl

end Go.Proofs.Ytfjfogiohijkkab
