/- Proved here: a lot that is laid behind a copied book, step by step. -/
import Derived.Test.YtcfjanignfbidaaSlM
namespace Go.Proofs.Ytcfjanignfbidaa
open Go.RowKit Go.Maps
set_option linter.unusedVariables false
set_option linter.unusedSimpArgs false

/-- A lot more, its lists behind Z. -/
theorem PB.pushU {V V6 : World} {B : Nat} {vw vl vl' vs : Value} {st : Int} {wn : List Wdw} {ls : List Lo} {sc : List Int} {rs : List Lr} {l : Lo} {r : Lr} (h : PB V B vw vl vs (wvO rs) ⟨st, wn, ls, sc⟩ rs) {Z : Nat} (hB : B ≤ Z) (hpu : ∀ q, PBk vw vl vs (wvO rs) rs q → q < Z)
    (hrow : V6.ownsRow B 61 5 vl' (rs.length + 1) (rs.flatMap lrC ++ lrC r)) (hk : ∀ q, q < Z → vl.ownBlock ≠ some q → V6.heap[q]? = V.heap[q]?)
    (hnm : r.id = l.id ∧ r.pa = l.pa ∧ r.hd = l.hd) (hw : IS V6 Z r.wv l.ws) (hd : IS V6 Z r.dv l.dn) (hn : ∀ g, r.wv.ownBlock = some g → r.dv.ownBlock ≠ some g) :
    PB V6 B vw vl' vs (wvO (rs ++ [r])) ⟨st, wn, ls ++ [l], sc⟩ (rs ++ [r]) := by
  have hl : rs.length = ls.length := h.len
  have hs : ∀ a q, (slv vs (wvO rs) (dvO rs) a).ownBlock = some q → V6.heap[q]? = V.heap[q]? := fun a q hq => hk q (hpu q (Or.inr (Or.inr ⟨a, hq⟩))) (fun e => (h.rowNot e).2 a hq)
  refine ⟨ownsRow_keep h.wn fun q hq => hk q (hpu q (Or.inl hq)) (fun e => (h.rowNot e).1 hq), OG.s1 r hrow, ?_, fun j h1 h2 => ?_, fun j h2 => ?_, fun j h1 h2 => ?_, h.sc.kept fun q hq => hs .s q hq, fun j hj => ?_, ?_⟩
  · show (rs ++ [r]).length = (ls ++ [l]).length
    simp [hl]
  · have h2' : j < (ls ++ [l]).length := h2
    show (rs ++ [r])[j].id = (ls ++ [l])[j].id ∧ (rs ++ [r])[j].pa = (ls ++ [l])[j].pa ∧ (rs ++ [r])[j].hd = (ls ++ [l])[j].hd
    rcases Nat.lt_or_ge j rs.length with h3 | h3
    · rw [List.getElem_append_left h3, List.getElem_append_left (by omega)]
      exact h.nm j h3 (by show j < ls.length; omega)
    · obtain rfl : j = rs.length := by simp at h1; omega
      rw [List.getElem_append_right (Nat.le_refl _), List.getElem_append_right (by omega)]
      simpa using hnm
  · have h2' : j < (ls ++ [l]).length := h2
    show IS V6 B (wvO (rs ++ [r]) j) (ls ++ [l])[j].ws
    rw [wvO_push]
    rcases Nat.lt_or_ge j rs.length with h3 | h3
    · rw [if_neg (by omega), List.getElem_append_left (by omega)]
      exact (h.ws j (by show j < ls.length; omega)).kept fun q hq => hs (.w j) q hq
    · obtain rfl : j = rs.length := by simp at h2'; omega
      rw [if_pos rfl, List.getElem_append_right (by omega)]
      have := hw.low hB
      simpa [hl] using this
  · have h2' : j < (ls ++ [l]).length := h2
    show IS V6 B (rs ++ [r])[j].dv (ls ++ [l])[j].dn
    rcases Nat.lt_or_ge j rs.length with h3 | h3
    · rw [List.getElem_append_left h3, List.getElem_append_left (by omega)]
      exact (h.dn j h3 (by show j < ls.length; omega)).kept fun q hq => hs (.d j) q (by show (dvO rs j).ownBlock = _; rw [dvO_lt h3]; exact hq)
    · obtain rfl : j = rs.length := by simp at h1; omega
      rw [List.getElem_append_right (Nat.le_refl _), List.getElem_append_right (by omega)]
      have := hd.low hB
      simpa [hl] using this
  · have hj' : (ls ++ [l]).length ≤ j := hj
    rw [List.length_append, List.length_singleton] at hj'
    rw [wvO_push, if_neg (by omega)]
    exact h.nl j (by show ls.length ≤ j; omega)
  · exact ApS.push h.ap (fun a g hg => hpu g (Or.inr (Or.inr ⟨a, hg⟩))) (fun g hg => (IS.lt hw g hg).1) (fun g hg => (IS.lt hd g hg).1) hn
/-- A copied book in its variable at K, in blocks from B on; a new list x in blocks from U's end on. -/
structure NS (U V : World) (B K : Nat) (st : Int) (vw vl vs x : Value) (b : Bk) (rs : List Lr) (xs : List Int) : Prop where
  u : Below U.heap.size U V
  bw : Below B U V
  lo : B ≤ V.heap.size
  k : V.heap[K]? = some (.cells #[.int .i64 st, vw, vl, vs] 31)
  hk : B ≤ K ∧ K < U.heap.size
  p : PB V B vw vl vs (wvO rs) b rs
  pu : ∀ q, PBk vw vl vs (wvO rs) rs q → q < U.heap.size
  i : IS V U.heap.size x xs
/-- .. done. -/
structure NQ (U W : World) (B K : Nat) (st : Int) (vw vl vs : Value) (b : Bk) (rs : List Lr) : Prop where
  bw : Below B U W
  k : W.heap[K]? = some (.cells #[.int .i64 st, vw, vl, vs] 31)
  p : PB W B vw vl vs (wvO rs) b rs
section
variable {U V w5 : World} {B K : Nat} {st : Int} {vw vl vs x v5 : Value} {b : Bk} {rs : List Lr} {xs : List Int}
theorem NS.next (h : NS U V B K st vw vl vs x b rs xs) (hb : Below V.heap.size V w5) : NS U w5 B K st vw vl vs x b rs xs :=
  ⟨h.u.trans (hb.mono h.u.size), h.bw.trans (hb.mono h.lo), Nat.le_trans h.lo hb.size, (hb.block _ (ltOfQ h.k)).trans h.k, h.hk, h.p.below hb, h.pu, h.i.bel hb⟩
theorem NS.mk3 (h : NS U V B K st vw vl vs (.slice none 0 0) b rs []) : NS U (V.alloc (.cells #[] 2)) B K st vw vl vs (.slice (some ⟨V.heap.size, 0, none⟩) 0 0) b rs [] := by
  have hb : Below V.heap.size V (V.alloc (.cells #[] 2)) := by (repeat' (first | (with_reducible exact Below.refl _ _) | (with_reducible assumption) | (with_reducible refine Below.setCell ?_ ?_ _) | (with_reducible refine Below.alloc ?_ ?_ _) | (with_reducible refine below_drewN ?_ _) | (with_reducible refine Below.drew ?_) | (with_reducible exact Nat.le_refl _) | omega | (simp; done) | (simp; omega)))
  have h9 := h.next hb
  exact ⟨h9.u, h9.bw, h9.lo, h9.k, h9.hk, h9.p, h9.pu, is_lit0 V _ h.u.size⟩
theorem NS.mk7 {o : Obj} (h : NS U V B K st vw vl vs x b rs xs) : NS U (V.alloc o) B K st vw vl vs x b rs xs := h.next (by (repeat' (first | (with_reducible exact Below.refl _ _) | (with_reducible assumption) | (with_reducible refine Below.setCell ?_ ?_ _) | (with_reducible refine Below.alloc ?_ ?_ _) | (with_reducible refine below_drewN ?_ _) | (with_reducible refine Below.drew ?_) | (with_reducible exact Nat.le_refl _) | omega | (simp; done) | (simp; omega))))
theorem NS.ap5 {n : Nat} {ws : List Int} (h : NS U V B K st vw vl vs x b rs []) (hn : n = ws.length) (hown : w5.ownsRow U.heap.size 2 1 v5 (0 + n) ([] ++ ws.map (Value.int .i64))) (hg : V.grownBy w5 x.ownBlock) : NS U w5 B K st vw vl vs v5 b rs ws := by
  have hUV := h.u.size
  have hk : ∀ q, q < U.heap.size → w5.heap[q]? = V.heap[q]? := fun q hq => hg.block q (by omega) (fun e => by have := (IS.lt h.i q e.symm).1; omega)
  have hbx : Below U.heap.size U w5 := h.u.grown hg hUV (fun q hq => (IS.lt h.i q hq).1)
  have hBU : B ≤ U.heap.size := by have := h.hk; omega
  refine ⟨hbx, hbx.mono hBU, Nat.le_trans hBU hbx.size, (hk K h.hk.2).trans h.k, h.hk, h.p.keep (fun q hq => hk q (h.pu q hq)), h.pu, ?_⟩
  unfold IS; rw [hn] at hown; simpa using hown
/-- The lot laid behind the others. -/
theorem NS.ap8 {y8 : World} {v8 : Value} {st' : Int} {wn : List Wdw} {ls : List Lo} {sc : List Int} {id : Int} {a5 : Option Addr} {sn c5 : Nat} {ws : List Int} (h : NS U V B K st vw vl vs (.slice a5 sn c5) ⟨st', wn, ls, sc⟩ rs ws)
    (hown : y8.ownsRow B 61 5 v8 (rs.length + 1) (rs.flatMap lrC ++ lrC ⟨id, 0, a5, sn, c5, false, none, 0, 0⟩)) (hg : V.grownBy y8 vl.ownBlock) :
    ∃ a c, v8 = .slice a (rs.length + 1) c ∧ Below B U y8 ∧ y8.heap[K]? = some (.cells #[.int .i64 st, vw, vl, vs] 31) ∧ NQ U (y8.setCell ⟨K, 2, none⟩ v8) B K st vw v8 vs ⟨st', wn, ls ++ [newL id ws], sc⟩ (rs ++ [⟨id, 0, a5, sn, c5, false, none, 0, 0⟩]) := by
  have hKn := PB.notBk h.p h.k
  have hUV := h.u.size
  have hBU : B ≤ U.heap.size := by have := h.hk; omega
  have hsU : ∀ q, vl.ownBlock = some q → q < U.heap.size := fun q e => h.pu q (Or.inr (Or.inl e))
  have hkp : ∀ q, q < V.heap.size → vl.ownBlock ≠ some q → y8.heap[q]? = V.heap[q]? := fun q h1 h2 => hg.block q h1 (fun e => h2 e.symm)
  have hb8 : Below B U y8 := h.bw.grown hg h.lo (fun q hq => (OG.lt h.p.row q hq).1)
  have hK8 : y8.heap[K]? = some (.cells #[.int .i64 st, vw, vl, vs] 31) := (hkp K (ltOfQ h.k) (fun e => hKn (Or.inr (Or.inl e)))).trans h.k
  -- the book told of U's end on: PB.pushC asks the new lists behind the world it starts from; so it is taken up to U's size by hand
  have hi8 : IS y8 U.heap.size (.slice a5 sn c5) ws := h.i.kept fun q hq => hkp q (IS.lt h.i q hq).2 (fun e => by have h1 := hsU q e; have h2 := (IS.lt h.i q hq).1; omega)
  have hp := PB.pushU h.p hBU h.pu hown (fun q h1 h2 => hkp q (by omega) h2) (r := ⟨id, 0, a5, sn, c5, false, none, 0, 0⟩) (l := newL id ws) ⟨rfl, rfl, rfl⟩ hi8 ⟨rfl, Or.inl ⟨rfl, rfl⟩⟩ (fun g _ e => by cases e)
  obtain ⟨a, c, e⟩ := OG.fm hp.row
  rw [List.length_append, List.length_singleton] at e
  refine ⟨a, c, e, hb8, hK8, ⟨Below.setCell (p := ⟨K, 2, none⟩) hb8 h.hk.1 _, ?_, ?_⟩⟩
  · have := heap_setCell_same y8 K 2 _ _ v8 hK8
    simpa using this
  · exact hp.keep fun q hq => heap_setCell_other _ ⟨K, 2, none⟩ _ _ (fun e => PB.notBk hp hK8 (by rw [← show q = K from e]; exact hq))
end

end Go.Proofs.Ytcfjanignfbidaa
