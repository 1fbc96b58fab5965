/- Proved here: what a copy of a book is while it is made. -/
import Derived.Test.YtcfjanignfbidaaQlU
import Derived.Test.YtcfjanignfbidaaQbU
import Derived.Test.YtcfjanignfbidaaOgS
namespace Go.Proofs.Ytcfjanignfbidaa
open Go.RowKit Go.Maps
set_option linter.unusedVariables false
set_option linter.unusedSimpArgs false

theorem there_nQ {w : World} {k m : Nat} {cs : Array Value} {T : TypeId} (h : w.heap[k]? = some (.cells cs T)) (hm : m = cs.size) : w.there k 0 m := by
  intro j hj
  have hj2 : j < cs.size := by rw [← hm]; exact hj
  simp [World.cell?, World.frozen?, h, hj2]
theorem setCells_offQ (w : World) (k : Nat) {q : Nat} (h : q ≠ k) : ∀ (vs : List Value) (o : Nat), (w.setCells k o vs).heap[q]? = w.heap[q]? := by
  intro vs
  induction vs generalizing w with
  | nil => intro o; rfl
  | cons v r ih => intro o; rw [World.setCells, ih, heap_setCell_other _ _ _ _ (by simpa using h)]

structure C3 (V cw : World) (va vb : Value) (ws : List Wdw) (xs : List Int) (O : Option Nat) : Prop where
  bl : Below V.heap.size V cw
  a : OG 99 3 wdC cw V.heap.size va ws
  b : IS cw V.heap.size vb xs
  o : ∀ g, O = some g → cw.heap[g]? = some (.cells #[.int .i64 0, .slice none 0 0, .slice none 0 0, .slice none 0 0] 31) ∧ V.heap.size ≤ g
theorem C3.start (V : World) : C3 V V.drew (.slice none 0 0) (.slice none 0 0) [] [] none :=
  ⟨(Below.refl _ _).drew, OG.nl _ _ _ _ _, ⟨rfl, Or.inl ⟨rfl, rfl⟩⟩, fun g h => (by cases h)⟩
theorem C3.mkA {V cw : World} {va vb : Value} {ys : List Int} {O : Option Nat} (h : C3 V cw va vb [] ys O) : C3 V (cw.alloc (.cells #[] 99)) (.slice (some ⟨cw.heap.size, 0, none⟩) 0 0) vb [] ys O := by
  have hb : Below cw.heap.size cw (cw.alloc (.cells #[] 99)) := by (repeat' (first | (with_reducible exact Below.refl _ _) | (with_reducible assumption) | (with_reducible refine Below.setCell ?_ ?_ _) | (with_reducible refine Below.alloc ?_ ?_ _) | (with_reducible refine below_drewN ?_ _) | (with_reducible refine Below.drew ?_) | (with_reducible exact Nat.le_refl _) | omega | (simp; done) | (simp; omega)))
  exact ⟨h.bl.trans (hb.mono h.bl.size), World.ownsRow_lit cw #[] 0 h.bl.size (by decide) (by simp), h.b.bel hb, fun g hg => ⟨(hb.block _ (ltOf (h.o g hg).1)).trans (h.o g hg).1, (h.o g hg).2⟩⟩
theorem C3.mkB {V cw : World} {va vb : Value} {ws : List Wdw} {O : Option Nat} (h : C3 V cw va vb ws [] O) : C3 V (cw.alloc (.cells #[] 2)) va (.slice (some ⟨cw.heap.size, 0, none⟩) 0 0) ws [] O := by
  have hb : Below cw.heap.size cw (cw.alloc (.cells #[] 2)) := by (repeat' (first | (with_reducible exact Below.refl _ _) | (with_reducible assumption) | (with_reducible refine Below.setCell ?_ ?_ _) | (with_reducible refine Below.alloc ?_ ?_ _) | (with_reducible refine below_drewN ?_ _) | (with_reducible refine Below.drew ?_) | (with_reducible exact Nat.le_refl _) | omega | (simp; done) | (simp; omega)))
  exact ⟨h.bl.trans (hb.mono h.bl.size), OG.below h.a hb, is_lit0 cw _ h.bl.size, fun g hg => ⟨(hb.block _ (ltOf (h.o g hg).1)).trans (h.o g hg).1, (h.o g hg).2⟩⟩
theorem C3.mkO {V cw : World} {va vb : Value} {ws : List Wdw} {xs : List Int} (h : C3 V cw va vb ws xs none) : C3 V (cw.alloc (.cells #[.int .i64 0, .slice none 0 0, .slice none 0 0, .slice none 0 0] 31)) va vb ws xs (some cw.heap.size) := by
  have hb : Below cw.heap.size cw (cw.alloc (.cells #[.int .i64 0, .slice none 0 0, .slice none 0 0, .slice none 0 0] 31)) := by (repeat' (first | (with_reducible exact Below.refl _ _) | (with_reducible assumption) | (with_reducible refine Below.setCell ?_ ?_ _) | (with_reducible refine Below.alloc ?_ ?_ _) | (with_reducible refine below_drewN ?_ _) | (with_reducible refine Below.drew ?_) | (with_reducible exact Nat.le_refl _) | omega | (simp; done) | (simp; omega)))
  refine ⟨h.bl.trans (hb.mono h.bl.size), OG.below h.a hb, h.b.bel hb, fun g hg => ?_⟩
  have e : cw.heap.size = g := Option.some.inj hg
  rw [← e]
  exact ⟨heap_alloc_new _ _, h.bl.size⟩
theorem C3.apA {V cw w5 : World} {va vb v5 : Value} {xs : List Int} {s : List Wdw} {O : Option Nat} {n : Nat} (h : C3 V cw va vb [] xs O) (hn : n = s.length) (hown : w5.ownsRow V.heap.size 99 3 v5 (0 + n) ([] ++ s.flatMap wdC)) (hg : cw.grownBy w5 va.ownBlock) : C3 V w5 v5 vb s xs O := by
  refine ⟨h.bl.grown hg h.bl.size (fun q hq => (OG.lt h.a q hq).1), ?_, ?_, fun g hO => ?_⟩
  · unfold OG; rw [hn] at hown; simpa using hown
  · refine h.b.kept fun q hq => hg.block q (IS.lt h.b q hq).2 (fun e => ?_)
    obtain ⟨_, _, cs, e1⟩ := rowBlk h.a e.symm
    obtain ⟨_, _, ds, e2⟩ := rowBlk h.b hq
    exact kindsR e1 e2 (by decide)
  · refine ⟨(hg.block g (ltOf (h.o g hO).1) (fun e => ?_)).trans (h.o g hO).1, (h.o g hO).2⟩
    obtain ⟨_, _, cs, e1⟩ := rowBlk h.a e.symm
    exact kindsR e1 (h.o g hO).1 (by decide)
theorem C3.apB {V cw w5 : World} {va vb v5 : Value} {ws : List Wdw} {s : List Int} {O : Option Nat} {n : Nat} (h : C3 V cw va vb ws [] O) (hn : n = s.length) (hown : w5.ownsRow V.heap.size 2 1 v5 (0 + n) ([] ++ s.map (Value.int .i64))) (hg : cw.grownBy w5 vb.ownBlock) : C3 V w5 va v5 ws s O := by
  refine ⟨h.bl.grown hg h.bl.size (fun q hq => (IS.lt h.b q hq).1), ?_, ?_, fun g hO => ?_⟩
  · refine ownsRow_keep h.a fun q hq => hg.block q (OG.lt h.a q hq).2 (fun e => ?_)
    obtain ⟨_, _, cs, e1⟩ := rowBlk h.a hq
    obtain ⟨_, _, ds, e2⟩ := rowBlk h.b e.symm
    exact kindsR e1 e2 (by decide)
  · unfold IS; rw [hn] at hown; simpa using hown
  · refine ⟨(hg.block g (ltOf (h.o g hO).1) (fun e => ?_)).trans (h.o g hO).1, (h.o g hO).2⟩
    obtain ⟨_, _, cs, e1⟩ := rowBlk h.b e.symm
    exact kindsR e1 (h.o g hO).1 (by decide)
theorem apI {X w2 : World} {v : Value} {n : Nat} {l : List Int} (hn : n = l.length) (hown : w2.ownsRow X.heap.size 2 1 v (0 + n) ([] ++ l.map (Value.int .i64))) (hg : (X.alloc (.cells #[] 2)).grownBy w2 (Value.slice (some ⟨X.heap.size, 0, none⟩) 0 0).ownBlock) : ∃ a c, v = .slice a n c ∧ IS w2 X.heap.size (.slice a n c) l ∧ Below X.heap.size X w2 := by
  have ho : IS w2 X.heap.size v l := by unfold IS; rw [hn] at hown; simpa using hown
  have hb : Below X.heap.size X w2 := ((Below.refl _ _).alloc (Nat.le_refl _) _).grown hg (by simp) (fun j hj => by cases hj; exact Nat.le_refl _)
  obtain ⟨a1, c1, e⟩ := ho.form
  rw [← hn] at e
  exact ⟨a1, c1, e, by rw [← e]; exact ho, hb⟩
theorem set_four22 {w : World} {k : Nat} {a b c d a' b' c' d' : Value} {T : TypeId} (h : w.heap[k]? = some (.cells #[a, b, c, d] T)) : (w.setCells k 0 [a', b', c', d']).heap[k]? = some (.cells #[a', b', c', d'] T) := by
  have s0 := heap_setCell_same _ _ 0 _ _ a' h
  have s1 := heap_setCell_same _ _ 1 _ _ b' s0
  have s2 := heap_setCell_same _ _ 2 _ _ c' s1
  have s3 := heap_setCell_same _ _ 3 _ _ d' s2
  simpa [World.setCells] using s3
/-- The new book in its variable, as far as it has lots. -/
structure CB (V W : World) (K : Nat) (st : Int) (vw vl vs : Value) (b : Bk) (rs : List Lr) : Prop where
  bl : Below V.heap.size V W
  bx : W.heap[K]? = some (.cells #[.int .i64 st, vw, vl, vs] 31)
  lo : V.heap.size ≤ K
  pb : PB W V.heap.size vw vl vs (wvO rs) b rs
theorem PB.notBk {V : World} {B K : Nat} {vw vl vs : Value} {wv : Nat → Value} {b : Bk} {rs : List Lr} {cs : Array Value} (h : PB V B vw vl vs wv b rs) (hx : V.heap[K]? = some (.cells cs 31)) : ¬ PBk vw vl vs wv rs K := fun hq => by
  obtain ⟨ds, T, e1, h1⟩ := h.obj hq
  rcases h1 with ⟨rfl, _⟩ | ⟨rfl, _⟩ | rfl
  · exact kindsR e1 hx (by decide)
  · exact kindsR e1 hx (by decide)
  · exact kindsR e1 hx (by decide)
theorem CB.of {V cw : World} {va vb : Value} {ws : List Wdw} {xs : List Int} {K : Nat} {st : Int} (h : C3 V cw va vb ws xs (some K)) : CB V (cw.setCells K 0 [.int .i64 st, va, .slice none 0 0, vb]) K st va (.slice none 0 0) vb ⟨st, ws, [], xs⟩ [] := by
  have hx := (h.o K rfl).1
  refine ⟨below_setCells _ (h.o K rfl).2 _ _ _ h.bl, set_four22 hx, (h.o K rfl).2, ⟨?_, OG.nl _ _ _ _ _, rfl, fun j h1 => absurd h1 (Nat.not_lt_zero _), fun j h1 => absurd h1 (Nat.not_lt_zero _), fun j h1 => absurd h1 (Nat.not_lt_zero _), ?_, fun j _ => rfl, ?_⟩⟩
  · refine ownsRow_keep h.a fun q hq => setCells_offQ _ _ (fun e => ?_) _ _
    obtain ⟨_, _, cs, e1⟩ := rowBlk h.a hq
    rw [e] at e1
    exact kindsR e1 hx (by decide)
  · refine h.b.kept fun q hq => setCells_offQ _ _ (fun e => ?_) _ _
    obtain ⟨_, _, cs, e1⟩ := rowBlk h.b hq
    rw [e] at e1
    exact kindsR e1 hx (by decide)
  · intro a b hab g ha hb
    cases a with
    | s =>
      cases b with
      | s => exact absurd rfl hab
      | w j => cases hb
      | d j => cases hb
    | w j => cases ha
    | d j => cases ha
theorem CB.next {V W W' : World} {K : Nat} {st : Int} {vw vl vs : Value} {b : Bk} {rs : List Lr} (h : CB V W K st vw vl vs b rs) (hb : Below W.heap.size W W') : CB V W' K st vw vl vs b rs :=
  ⟨h.bl.trans (hb.mono h.bl.size), (hb.block _ (ltOf h.bx)).trans h.bx, h.lo, h.pb.below hb⟩
/-- A lot more. -/
theorem PB.pushC {V V6 : World} {B : Nat} {vw vl vl' vs : Value} {st : Int} {wn : List Wdw} {ls : List Lo} {sc : List Int} {rs : List Lr} {l : Lo} {r : Lr} (h : PB V B vw vl vs (wvO rs) ⟨st, wn, ls, sc⟩ rs) (hB : B ≤ V.heap.size)
    (hrow : V6.ownsRow B 61 5 vl' (rs.length + 1) (rs.flatMap lrC ++ lrC r)) (hk : ∀ q, q < V.heap.size → vl.ownBlock ≠ some q → V6.heap[q]? = V.heap[q]?)
    (hnm : r.id = l.id ∧ r.pa = l.pa ∧ r.hd = l.hd) (hw : IS V6 V.heap.size r.wv l.ws) (hd : IS V6 V.heap.size r.dv l.dn) (hn : ∀ g, r.wv.ownBlock = some g → r.dv.ownBlock ≠ some g) :
    PB V6 B vw vl' vs (wvO (rs ++ [r])) ⟨st, wn, ls ++ [l], sc⟩ (rs ++ [r]) := by
  have hl : rs.length = ls.length := h.len
  have hs : ∀ a q, (slv vs (wvO rs) (dvO rs) a).ownBlock = some q → V6.heap[q]? = V.heap[q]? := fun a q hq => hk q (h.sblk hq).2 (fun e => (h.rowNot e).2 a hq)
  refine ⟨ownsRow_keep h.wn fun q hq => hk q (World.ownsRow.lt h.wn q hq).2 (fun e => (h.rowNot e).1 hq), OG.s1 r hrow, ?_, fun j h1 h2 => ?_, fun j h2 => ?_, fun j h1 h2 => ?_, h.sc.kept fun q hq => hs .s q hq, fun j hj => ?_, ?_⟩
  · show (rs ++ [r]).length = (ls ++ [l]).length
    simp [hl]
  · have h2' : j < (ls ++ [l]).length := h2
    show (rs ++ [r])[j].id = (ls ++ [l])[j].id ∧ (rs ++ [r])[j].pa = (ls ++ [l])[j].pa ∧ (rs ++ [r])[j].hd = (ls ++ [l])[j].hd
    rcases Nat.lt_or_ge j rs.length with h3 | h3
    · rw [List.getElem_append_left h3, List.getElem_append_left (by omega)]
      exact h.nm j h3 (by show j < ls.length; omega)
    · obtain rfl : j = rs.length := by simp at h1; omega
      rw [List.getElem_append_right (Nat.le_refl _), List.getElem_append_right (by omega)]
      simpa using hnm
  · have h2' : j < (ls ++ [l]).length := h2
    show IS V6 B (wvO (rs ++ [r]) j) (ls ++ [l])[j].ws
    rw [wvO_push]
    rcases Nat.lt_or_ge j rs.length with h3 | h3
    · rw [if_neg (by omega), List.getElem_append_left (by omega)]
      exact (h.ws j (by show j < ls.length; omega)).kept fun q hq => hs (.w j) q hq
    · obtain rfl : j = rs.length := by simp at h2'; omega
      rw [if_pos rfl, List.getElem_append_right (by omega)]
      have := hw.low hB
      simpa [hl] using this
  · have h2' : j < (ls ++ [l]).length := h2
    show IS V6 B (rs ++ [r])[j].dv (ls ++ [l])[j].dn
    rcases Nat.lt_or_ge j rs.length with h3 | h3
    · rw [List.getElem_append_left h3, List.getElem_append_left (by omega)]
      exact (h.dn j h3 (by show j < ls.length; omega)).kept fun q hq => hs (.d j) q (by show (dvO rs j).ownBlock = _; rw [dvO_lt h3]; exact hq)
    · obtain rfl : j = rs.length := by simp at h1; omega
      rw [List.getElem_append_right (Nat.le_refl _), List.getElem_append_right (by omega)]
      have := hd.low hB
      simpa [hl] using this
  · have hj' : (ls ++ [l]).length ≤ j := hj
    rw [List.length_append, List.length_singleton] at hj'
    rw [wvO_push, if_neg (by omega)]
    exact h.nl j (by show ls.length ≤ j; omega)
  · exact ApS.push h.ap (fun a g hg => (h.sblk hg).2) (fun g hg => (IS.lt hw g hg).1) (fun g hg => (IS.lt hd g hg).1) hn
theorem CB.push {V wr X w4 : World} {K : Nat} {st : Int} {vw vl vs v4 : Value} {wn : List Wdw} {ls : List Lo} {sc : List Int} {rs : List Lr} {l : Lo} {r : Lr} {o : Obj} (h : CB V wr K st vw vl vs ⟨st, wn, ls, sc⟩ rs) (hX : Below wr.heap.size wr X)
    (hown : w4.ownsRow V.heap.size 61 5 v4 (rs.length + 1) (rs.flatMap lrC ++ lrC r)) (hg : (X.alloc o).grownBy w4 vl.ownBlock)
    (hnm : r.id = l.id ∧ r.pa = l.pa ∧ r.hd = l.hd) (hw : IS X wr.heap.size r.wv l.ws) (hd : IS X wr.heap.size r.dv l.dn) (hn : ∀ g, r.wv.ownBlock = some g → r.dv.ownBlock ≠ some g) :
    ∃ a c, v4 = .slice a (rs.length + 1) c ∧ w4.heap[K]? = some (.cells #[.int .i64 st, vw, vl, vs] 31) ∧ CB V (w4.setCell ⟨K, 2, none⟩ v4) K st vw v4 vs ⟨st, wn, ls ++ [l], sc⟩ (rs ++ [r]) := by
  have hkp : ∀ q, q < X.heap.size → vl.ownBlock ≠ some q → w4.heap[q]? = X.heap[q]? := fun q h1 h2 => (hg.block q (by simp; omega) (fun e => h2 e.symm)).trans (Below.heap_alloc _ _ _ h1)
  have hkw : ∀ q, q < wr.heap.size → vl.ownBlock ≠ some q → w4.heap[q]? = wr.heap[q]? := fun q h1 h2 => (hkp q (Nat.lt_of_lt_of_le h1 hX.size) h2).trans (hX.block q h1)
  have hKn := PB.notBk h.pb h.bx
  have hVw := h.bl.size
  have hKs := ltOf h.bx
  have hnr : ∀ {xs : List Int} {v : Value}, IS X wr.heap.size v xs → IS w4 wr.heap.size v xs := fun hi => hi.kept fun q hq => hkp q (IS.lt hi q hq).2 (fun e => by
    have h1 := (h.pb.blk (Or.inr (Or.inl e))).2
    have h2 := (IS.lt hi q hq).1
    omega)
  have hw4 := hnr hw
  have hd4 := hnr hd
  have hK4 : w4.heap[K]? = some (.cells #[.int .i64 st, vw, vl, vs] 31) := (hkw K hKs (fun e => hKn (Or.inr (Or.inl e)))).trans h.bx
  have hp := PB.pushC h.pb hVw hown hkw hnm hw4 hd4 hn
  obtain ⟨a, c, e⟩ := OG.fm hp.row
  rw [List.length_append, List.length_singleton] at e
  refine ⟨a, c, e, hK4, ⟨?_, ?_, h.lo, ?_⟩⟩
  · refine Below.setCell (p := ⟨K, 2, none⟩) ?_ h.lo _
    exact (Below.alloc (h.bl.trans (hX.mono hVw)) (Nat.le_trans hVw hX.size) _).grown hg (by have := hX.size; simp; omega) (fun q hq => (OG.lt h.pb.row q hq).1)
  · have := heap_setCell_same w4 K 2 _ _ v4 hK4
    simpa using this
  · exact hp.keep fun q hq => heap_setCell_other _ ⟨K, 2, none⟩ _ _ (fun e => PB.notBk hp hK4 (by rw [← show q = K from e]; exact hq))

end Go.Proofs.Ytcfjanignfbidaa
