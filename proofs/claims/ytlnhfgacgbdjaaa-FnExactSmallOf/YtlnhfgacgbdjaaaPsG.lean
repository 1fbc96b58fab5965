/- Proved here: rows of boxes of the call's own that grow one by one: a new row; one more box in a row. -/
import Derived.Test.YtlnhfgacgbdjaaaPsL
namespace Go.Proofs.Ytlnhfgacgbdjaaa
open Go.RowKit
set_option linter.unusedVariables false
set_option linter.unusedSimpArgs false

def vat (vs : List Value) (i : Nat) : Value := vs.getD i (.slice none 0 0)
theorem BS.blk {w : World} {B g : Nat} {v : Value} {s : List Bx} (h : BS w B v s) (hg : v.ownBlock = some g) : B ≤ g ∧ g < w.heap.size ∧ ∃ cs, w.heap[g]? = some (.cells cs 44 (0, 0)) := by
  refine ⟨(World.ownsRow.lt h g hg).1, (World.ownsRow.lt h g hg).2, ?_⟩
  rcases h.2 with ⟨e, _⟩ | ⟨g', cap, cur, e, hB, hgg, hr⟩
  · rw [e] at hg; cases hg
  · rw [e] at hg
    simp only [Value.ownBlock, Option.some.injEq] at hg
    subst hg
    exact ⟨_, hgg⟩
/-- A row of rows: the row's cells, and each one's boxes; no two have memory in common. -/
structure PG (w : World) (B : Nat) (v : Value) (ls : List (List Bx)) (vs : List Value) : Prop where
  o : w.ownsRow B 28 1 v ls.length vs
  bx : ∀ i, i < ls.length → BS w B (vat vs i) (ls.getD i [])
  ds : ∀ i j, i ≠ j → i < ls.length → j < ls.length → ∀ g, (vat vs i).ownBlock = some g → (vat vs j).ownBlock ≠ some g
theorem PG.len {w : World} {B : Nat} {v : Value} {ls : List (List Bx)} {vs : List Value} (h : PG w B v ls vs) : vs.length = ls.length := by have := h.o.1; omega
theorem PG.rowBlk {w : World} {B g : Nat} {v : Value} {ls : List (List Bx)} {vs : List Value} (h : PG w B v ls vs) (hg : v.ownBlock = some g) : B ≤ g ∧ g < w.heap.size ∧ ∃ cs, w.heap[g]? = some (.cells cs 28 (0, 0)) := by
  refine ⟨(World.ownsRow.lt h.o g hg).1, (World.ownsRow.lt h.o g hg).2, ?_⟩
  rcases h.o.2 with ⟨e, _⟩ | ⟨g', cap, cur, e, hB, hgg, hr⟩
  · rw [e] at hg; cases hg
  · rw [e] at hg
    simp only [Value.ownBlock, Option.some.injEq] at hg
    subst hg
    exact ⟨_, hgg⟩
theorem kinds {w : World} {a b : Nat} {cs ds : Array Value} (h : w.heap[a]? = some (.cells cs 28 (0, 0))) (k : w.heap[b]? = some (.cells ds 44 (0, 0))) : a ≠ b := by
  rintro rfl
  rw [h] at k
  simp only [Option.some.injEq, Obj.cells.injEq] at k
  exact absurd k.2.1 (by decide)
theorem row_kept {w w' : World} {B T k n : Nat} {v : Value} {xs : List Value} (h : w.ownsRow B T k v n xs) (hb : ∀ g, v.ownBlock = some g → w'.heap[g]? = w.heap[g]?) : w'.ownsRow B T k v n xs := by
  refine ⟨h.1, ?_⟩
  rcases h.2 with h' | ⟨g, cap, cur, rfl, hB, hg, hr⟩
  · exact Or.inl h'
  · exact Or.inr ⟨g, cap, cur, rfl, hB, by rw [hb g rfl]; exact hg, hr⟩
theorem PG.kept {w w' : World} {B : Nat} {v : Value} {ls : List (List Bx)} {vs : List Value} (h : PG w B v ls vs) (hr : ∀ g, v.ownBlock = some g → w'.heap[g]? = w.heap[g]?) (hb : ∀ i, i < ls.length → ∀ g, (vat vs i).ownBlock = some g → w'.heap[g]? = w.heap[g]?) : PG w' B v ls vs :=
  ⟨row_kept h.o hr, fun i hi => (h.bx i hi).kept (hb i hi), h.ds⟩
theorem PG.below {w w' : World} {B : Nat} {v : Value} {ls : List (List Bx)} {vs : List Value} (h : PG w B v ls vs) (hb : Below w.heap.size w w') : PG w' B v ls vs :=
  h.kept (fun g hg => hb.block g (h.rowBlk hg).2.1) fun i hi g hg => hb.block g ((h.bx i hi).blk hg).2.1
theorem PG.form {w : World} {B : Nat} {v : Value} {ls : List (List Bx)} {vs : List Value} (h : PG w B v ls vs) : ∃ a c, v = .slice a ls.length c := by
  rcases h.o.2 with ⟨rfl, h0⟩ | ⟨g, cap, cur, rfl, _⟩
  · exact ⟨none, 0, by rw [h0]⟩
  · exact ⟨_, _, rfl⟩
theorem PG.pos {w : World} {B : Nat} {v : Value} {ls : List (List Bx)} {vs : List Value} (h : PG w B v ls vs) (hp : 0 < ls.length) :
    ∃ g cap, v = .slice (some ⟨g, 0, none⟩) ls.length cap ∧ B ≤ g ∧ g < w.heap.size ∧ ∀ j, j < ls.length → w.cell? ⟨g, j, none⟩ = some (vat vs j) := by
  have hl := h.len
  have ho := h.o
  rcases h.o.2 with ⟨_, h0⟩ | ⟨g, cap, cur, rfl, hB, hg, hn, hm, hs, ht⟩
  · omega
  · refine ⟨g, cap, rfl, hB, (World.ownsRow.lt ho g rfl).2, fun j hj => ?_⟩
    have := World.ownsRow.cellAt (w := w) (g := g) (cap := cap) ho j (by omega)
    rw [this]
    simp [vat, List.getElem?_eq_getElem (show j < vs.length by omega)]
theorem vat_left {vs : List Value} {u : Value} {i : Nat} (h : i < vs.length) : vat (vs ++ [u]) i = vat vs i := by
  unfold vat; rw [List.getD_eq_getElem?_getD, List.getElem?_append_left h, ← List.getD_eq_getElem?_getD]
theorem vat_last {vs : List Value} {u : Value} {i : Nat} (h : i = vs.length) : vat (vs ++ [u]) i = u := by
  unfold vat; rw [List.getD_eq_getElem?_getD, List.getElem?_append_right (by omega)]; simp [h]
theorem vat_set {vs : List Value} {u : Value} {i k : Nat} (h : k < vs.length) : vat (vs.set k u) i = if i = k then u else vat vs i := by
  unfold vat; rw [List.getD_eq_getElem?_getD, List.getElem?_set]
  by_cases e : k = i
  · subst e; simp [h]
  · rw [if_neg e, if_neg (fun e' => e e'.symm), List.getD_eq_getElem?_getD]
/-- A new row, empty. -/
theorem PG.push {wr w1 : World} {B : Nat} {v v' : Value} {ls : List (List Bx)} {vs : List Value} {ob : Obj} (h : PG wr B v ls vs)
    (ho : w1.ownsRow B 28 1 v' (ls.length + 1) (vs ++ [.slice none 0 0])) (hg : (wr.alloc ob).grownBy w1 v.ownBlock) : PG w1 B v' (ls ++ [[]]) (vs ++ [.slice none 0 0]) := by
  have hl := h.len
  refine ⟨by rw [List.length_append]; exact ho, fun i hi => ?_, fun i j hij hi hj g hgi => ?_⟩
  · simp only [List.length_append, List.length_singleton] at hi
    by_cases e : i < ls.length
    · rw [vat_left (by omega), List.getD_eq_getElem?_getD, List.getElem?_append_left e, ← List.getD_eq_getElem?_getD]
      refine (h.bx i e).kept fun g hgo => ?_
      obtain ⟨_, h2, cs, h3⟩ := (h.bx i e).blk hgo
      rw [hg.block g (by simp; omega) fun e' => ?_]
      · exact Below.heap_alloc _ _ _ h2
      · obtain ⟨_, _, cs', h4⟩ := h.rowBlk e'.symm
        exact kinds h4 h3 rfl
    · have ei : i = ls.length := by omega
      rw [ei, vat_last hl.symm, List.getD_eq_getElem?_getD, List.getElem?_append_right (by omega)]
      simp only [Nat.sub_self, List.getElem?_cons_zero, Option.getD_some]
      exact BS.nil _ _
  · simp only [List.length_append, List.length_singleton] at hi hj
    by_cases e : i < ls.length
    · rw [vat_left (by omega)] at hgi
      by_cases e2 : j < ls.length
      · rw [vat_left (by omega)]; exact h.ds i j hij e e2 g hgi
      · rw [vat_last (by omega)]; intro e3; cases e3
    · rw [vat_last (by omega)] at hgi; cases hgi
/-- One more box in row k. -/
theorem PG.put {wr W w5 : World} {B gr m c k g' n' c' : Nat} {ls : List (List Bx)} {vs : List Value} {l : List Bx} {b : Bx} {ob : Obj} (h : PG wr B (.slice (some ⟨gr, 0, none⟩) m c) ls vs) (hW : Below wr.heap.size wr W) (hk : k < ls.length) (hl : ls.getD k [] = l)
    (ho : w5.ownsRow B 44 4 (.slice (some ⟨g', 0, none⟩) n' c') (l.length + 1) (bflat l ++ bcells b)) (hg : (W.alloc ob).grownBy w5 (vat vs k).ownBlock) (hat : (vat vs k).ownBlock = some g' ∨ g' = W.heap.size + 1 ∨ g' = W.heap.size) :
    PG (w5.setCell ⟨gr, k, none⟩ (.slice (some ⟨g', 0, none⟩) n' c')) B (.slice (some ⟨gr, 0, none⟩) m c) (ls.set k (l ++ [b])) (vs.set k (.slice (some ⟨g', 0, none⟩) n' c')) := by
  have hvl := h.len
  have hP := h.below hW
  have hws := hW.size
  have hm : m = ls.length := by obtain ⟨_, _, e⟩ := h.form; injection e
  obtain ⟨hgB, hgl, cr, hgr⟩ := hP.rowBlk (g := gr) rfl
  have hr5 : w5.heap[gr]? = W.heap[gr]? := by
    rw [hg.block gr (by simp; omega) fun e => ?_]
    · exact Below.heap_alloc _ _ _ hgl
    · obtain ⟨_, _, cs, h3⟩ := (hP.bx k hk).blk e.symm
      exact kinds hgr h3 rfl
  have hbs : BS w5 B (.slice (some ⟨g', 0, none⟩) n' c') (l ++ [b]) := by
    unfold BS
    rw [bflat_append, List.length_append]
    have e : bflat [b] = bcells b := by simp [bflat]
    rw [e]; exact ho
  obtain ⟨_, hg'l, cs', hg'c⟩ := hbs.blk (g := g') rfl
  have hne : gr ≠ g' := kinds (w := w5) (by rw [hr5]; exact hgr) hg'c
  refine ⟨?_, fun i hi => ?_, fun i j hij hi hj g hgi => ?_⟩
  · rw [List.length_set]
    have h1 : w5.ownsRow B 28 1 (.slice (some ⟨gr, 0, none⟩) ls.length c) ls.length vs := row_kept (by have := hP.o; rwa [hm] at this) fun g hgg => by
      simp only [Value.ownBlock, Option.some.injEq] at hgg
      subst hgg; exact hr5
    have h2 := (World.ownsRow.stored h1 k (.slice (some ⟨g', 0, none⟩) n' c')).1
    rw [hm]; exact h2
  · rw [List.length_set] at hi
    rw [vat_set (by omega), List.getD_eq_getElem?_getD, List.getElem?_set]
    by_cases e : i = k
    · subst e
      rw [if_pos rfl, if_pos rfl, if_pos hk]
      exact hbs.kept fun g hgg => by
        simp only [Value.ownBlock, Option.some.injEq] at hgg
        subst hgg
        exact heap_setCell_other _ _ _ _ fun e => hne e.symm
    · rw [if_neg e, if_neg (fun e' => e e'.symm), ← List.getD_eq_getElem?_getD]
      refine (hP.bx i hi).kept fun g hgg => ?_
      obtain ⟨_, h2, cs, h3⟩ := (hP.bx i hi).blk hgg
      rw [heap_setCell_other _ _ _ _ (fun e' => kinds hgr h3 e'.symm), hg.block g (by simp; omega) (fun e' => hP.ds i k e hi hk g hgg e'.symm)]
      exact Below.heap_alloc _ _ _ h2
  · rw [List.length_set] at hi hj
    have far : ∀ i, i ≠ k → i < ls.length → (vat vs i).ownBlock ≠ some g' := by
      intro i e hi' e'
      rcases hat with h1 | h1
      · exact hP.ds i k e hi' hk g' e' h1
      · have h2 := ((h.bx i hi').blk e').2.1
        omega
    rw [vat_set (by omega)] at hgi ⊢
    by_cases e1 : i = k
    · rw [if_pos e1] at hgi
      simp only [Value.ownBlock, Option.some.injEq] at hgi
      subst hgi
      rw [if_neg (by omega)]
      exact far j (by omega) hj
    · rw [if_neg e1] at hgi
      by_cases e2 : j = k
      · rw [if_pos e2]
        intro e3
        simp only [Value.ownBlock, Option.some.injEq] at e3
        subst e3
        exact far i e1 hi hgi
      · rw [if_neg e2]; exact hP.ds i j hij hi hj g hgi

/-- Row k anew, in new memory. -/
theorem PG.swap {wr W : World} {B gr m c k : Nat} {ls : List (List Bx)} {vs : List Value} {l : List Bx} {u : Value} (h : PG wr B (.slice (some ⟨gr, 0, none⟩) m c) ls vs) (hW : Below wr.heap.size wr W) (hk : k < ls.length) (hu : BS W wr.heap.size u l) :
    PG (W.setCell ⟨gr, k, none⟩ u) B (.slice (some ⟨gr, 0, none⟩) m c) (ls.set k l) (vs.set k u) := by
  have hvl := h.len
  have hP := h.below hW
  have hm : m = ls.length := by obtain ⟨_, _, e⟩ := h.form; injection e
  obtain ⟨hgB, hgl, cr, hgr⟩ := hP.rowBlk (g := gr) rfl
  have hgl0 := (h.rowBlk (g := gr) rfl).2.1
  have hBw : B ≤ wr.heap.size := by have := (h.rowBlk (g := gr) rfl).1; omega
  refine ⟨?_, fun i hi => ?_, fun i j hij hi hj g hgi => ?_⟩
  · rw [List.length_set]
    have h1 : W.ownsRow B 28 1 (.slice (some ⟨gr, 0, none⟩) ls.length c) ls.length vs := by have := hP.o; rwa [hm] at this
    have h2 := (World.ownsRow.stored h1 k u).1
    rw [hm]; exact h2
  · rw [List.length_set] at hi
    rw [vat_set (by omega), List.getD_eq_getElem?_getD, List.getElem?_set]
    by_cases e : i = k
    · subst e
      rw [if_pos rfl, if_pos rfl, if_pos hk]
      exact (hu.low hBw).kept fun g hgg => heap_setCell_other _ _ _ _ fun e => by
        have := (hu.blk hgg).1
        have e' : g = gr := e
        omega
    · rw [if_neg e, if_neg (fun e' => e e'.symm), ← List.getD_eq_getElem?_getD]
      refine (hP.bx i hi).kept fun g hgg => ?_
      obtain ⟨_, h2, cs, h3⟩ := (hP.bx i hi).blk hgg
      exact heap_setCell_other _ _ _ _ fun e' => kinds hgr h3 e'.symm
  · rw [List.length_set] at hi hj
    have far : ∀ i, i < ls.length → ∀ g, (vat vs i).ownBlock = some g → u.ownBlock ≠ some g := by
      intro i hi' g e' e2
      have h2 := ((h.bx i hi').blk e').2.1
      have h3 := (hu.blk e2).1
      omega
    rw [vat_set (by omega)] at hgi ⊢
    by_cases e1 : i = k
    · rw [if_pos e1] at hgi
      rw [if_neg (by omega)]
      intro e2
      exact far j hj g e2 hgi
    · rw [if_neg e1] at hgi
      by_cases e2 : j = k
      · rw [if_pos e2]; exact far i hi g hgi
      · rw [if_neg e2]; exact hP.ds i j hij hi hj g hgi
theorem PG.pl {w : World} {B : Nat} {v : Value} {ls : List (List Bx)} {vs : List Value} (h : PG w B v ls vs) : PL w B v ls vs :=
  ⟨h.o, fun i hi => (h.bx i hi).bc, fun i j hij hj g hgi => h.ds i j (by omega) (by omega) hj g hgi⟩
/-- The first k rows are in the one form. -/
def mixO (ls : List (List Bx)) (k : Nat) : List (List Bx) := (ls.take k).map (fun l => opOf (takesK 1) l []) ++ ls.drop k
theorem mixO_len (ls : List (List Bx)) (k : Nat) : (mixO ls k).length = ls.length := by simp [mixO]; omega
theorem mixO_at (ls : List (List Bx)) (k : Nat) (h : k < ls.length) : (mixO ls k).getD k [] = ls.getD k [] := by
  unfold mixO
  rw [List.getD_eq_getElem?_getD, List.getElem?_append_right (by simp; omega)]
  simp [show min k ls.length = k by omega, h]
theorem mixO_step (ls : List (List Bx)) (k : Nat) (h : k < ls.length) : (mixO ls k).set k (opOf (takesK 1) (ls.getD k []) []) = mixO ls (k + 1) := by
  unfold mixO
  have e : ls.drop k = ls.getD k [] :: ls.drop (k + 1) := by rw [List.drop_eq_getElem_cons h]; simp [h]
  rw [List.set_append_right _ _ (by simp; omega), e]
  have e2 : k - ((ls.take k).map (fun l => opOf (takesK 1) l [])).length = 0 := by simp; omega
  rw [e2, List.set_cons_zero, List.take_succ_eq_append_getElem h, List.map_append]
  simp [h]
theorem mixO_end (ls : List (List Bx)) (k : Nat) (h : ls.length ≤ k) : mixO ls k = ls.map (fun l => opOf (takesK 1) l []) := by simp [mixO, List.take_of_length_le h, List.drop_eq_nil_of_le h]

end Go.Proofs.Ytlnhfgacgbdjaaa
