/- Proved here: what a book of the call's own is, its lists of numbers in blocks apart from one another; how the laws' package copies lots and books. No condition on the program but on its table of types. -/
import Derived.Test.YtcfjanignfbidaaQlB
import Derived.Test.YtcfjanignfbidaaLwS
namespace Go.Proofs.Ytcfjanignfbidaa
open Go.ChangeShapes Go.WideShapes Go.ChangeAt Go.RowKit Go.Joins Go.Deep
set_option linter.unusedVariables false
set_option linter.unusedSimpArgs false


theorem five_atQ {w : World} {k : Nat} {a b c d e : Value} {T : TypeId} (h : w.heap[k]? = some (.cells #[a, b, c, d, e] T)) :
    w.cell? ⟨k, 0, none⟩ = some a ∧ w.cell? ⟨k, 1, none⟩ = some b ∧ w.cell? ⟨k, 2, none⟩ = some c ∧ w.cell? ⟨k, 3, none⟩ = some d ∧ w.cell? ⟨k, 4, none⟩ = some e ∧ k < w.heap.size :=
  ⟨cellOf h 0 rfl, cellOf h 1 rfl, cellOf h 2 rfl, cellOf h 3 rfl, cellOf h 4 rfl, ltOf h⟩
theorem info_Lot : (Try.prog.info? 61).map (fun i => (i.zero, i.size, i.bytes)) = some (some (.agg #[.int .i64 0, .int .i64 0, .slice none 0 0, .bool false, .slice none 0 0]), 5, 72) := by kernel_rfl

/-- The slots of a book that hold lists of numbers: the scrap, of each lot the wafers and what is done. -/
inductive Sx where
  | s
  | w (j : Nat)
  | d (j : Nat)
deriving DecidableEq
def nilV : Value := .slice none 0 0
def wvO (rs : List Lr) (j : Nat) : Value := (rs[j]?.map Lr.wv).getD nilV
def dvO (rs : List Lr) (j : Nat) : Value := (rs[j]?.map Lr.dv).getD nilV
def slv (vs : Value) (wv dv : Nat → Value) : Sx → Value
  | .s => vs
  | .w j => wv j
  | .d j => dv j
/-- No two slots share a block. -/
def ApS (F : Sx → Value) : Prop := ∀ a b, a ≠ b → ∀ g, (F a).ownBlock = some g → (F b).ownBlock ≠ some g
theorem nil_own : nilV.ownBlock = none := rfl
theorem wvO_lt {rs : List Lr} {j : Nat} (h : j < rs.length) : wvO rs j = rs[j].wv := by simp [wvO, List.getElem?_eq_getElem h]
theorem dvO_lt {rs : List Lr} {j : Nat} (h : j < rs.length) : dvO rs j = rs[j].dv := by simp [dvO, List.getElem?_eq_getElem h]
theorem wvO_ge {rs : List Lr} {j : Nat} (h : rs.length ≤ j) : wvO rs j = nilV := by simp [wvO, List.getElem?_eq_none h]
theorem dvO_ge {rs : List Lr} {j : Nat} (h : rs.length ≤ j) : dvO rs j = nilV := by simp [dvO, List.getElem?_eq_none h]
theorem wvO_push (rs : List Lr) (r : Lr) (j : Nat) : wvO (rs ++ [r]) j = if j = rs.length then r.wv else wvO rs j := by
  split
  · rename_i h; subst h; simp [wvO]
  · rename_i h
    rcases Nat.lt_or_ge j rs.length with h1 | h1
    · simp [wvO, List.getElem?_append_left h1]
    · rw [wvO_ge (by rw [List.length_append, List.length_singleton]; omega), wvO_ge h1]
theorem dvO_push (rs : List Lr) (r : Lr) (j : Nat) : dvO (rs ++ [r]) j = if j = rs.length then r.dv else dvO rs j := by
  split
  · rename_i h; subst h; simp [dvO]
  · rename_i h
    rcases Nat.lt_or_ge j rs.length with h1 | h1
    · simp [dvO, List.getElem?_append_left h1]
    · rw [dvO_ge (by rw [List.length_append, List.length_singleton]; omega), dvO_ge h1]
/-- Some slots turn: what is new lies from Z on. -/
theorem ApS.mix {F F' : Sx → Value} {Z : Nat} (h : ApS F) (ho : ∀ a g, (F a).ownBlock = some g → g < Z) (hn : ∀ a, F' a = F a ∨ ∀ g, (F' a).ownBlock = some g → Z ≤ g)
    (hd : ∀ a b, a ≠ b → ∀ g, Z ≤ g → (F' a).ownBlock = some g → (F' b).ownBlock = some g → False) : ApS F' := by
  intro a b hab g ha hb
  rcases Nat.lt_or_ge g Z with hz | hz
  · have ea : F' a = F a := by
      rcases hn a with e | e
      · exact e
      · have := e g ha; omega
    have eb : F' b = F b := by
      rcases hn b with e | e
      · exact e
      · have := e g hb; omega
    rw [ea] at ha; rw [eb] at hb
    exact h a b hab g ha hb
  · exact hd a b hab g hz ha hb
/-- One slot turns, to a block that no other has. -/
theorem ApS.set {F F' : Sx → Value} (h : ApS F) (a0 : Sx) (hs : ∀ a, a ≠ a0 → F' a = F a) (hn : ∀ a, a ≠ a0 → ∀ g, (F a).ownBlock = some g → (F' a0).ownBlock ≠ some g) : ApS F' := by
  intro a b hab g ha hb
  by_cases e1 : a = a0
  · have e2 : b ≠ a0 := fun e => hab (e1.trans e.symm)
    rw [hs b e2] at hb
    rw [e1] at ha
    exact hn b e2 g hb ha
  · rw [hs a e1] at ha
    by_cases e2 : b = a0
    · rw [e2] at hb; exact hn a e1 g ha hb
    · rw [hs b e2] at hb; exact h a b hab g ha hb
/-- A book in blocks from B on: windows, lots, scrap; wv: where the lots' wafers lie. -/
structure PB (V : World) (B : Nat) (vw vl vs : Value) (wv : Nat → Value) (b : Bk) (rs : List Lr) : Prop where
  wn : OG 99 3 wdC V B vw b.wn
  row : OG 61 5 lrC V B vl rs
  len : rs.length = b.ls.length
  nm : ∀ j (h : j < rs.length) (h' : j < b.ls.length), rs[j].id = b.ls[j].id ∧ rs[j].pa = b.ls[j].pa ∧ rs[j].hd = b.ls[j].hd
  ws : ∀ j (h : j < b.ls.length), IS V B (wv j) b.ls[j].ws
  dn : ∀ j (h : j < rs.length) (h' : j < b.ls.length), IS V B rs[j].dv b.ls[j].dn
  sc : IS V B vs b.sc
  nl : ∀ j, b.ls.length ≤ j → (wv j).ownBlock = none
  ap : ApS (slv vs wv (dvO rs))
/-- A block of it. -/
def PBk (vw vl vs : Value) (wv : Nat → Value) (rs : List Lr) (q : Nat) : Prop := vw.ownBlock = some q ∨ vl.ownBlock = some q ∨ ∃ a, (slv vs wv (dvO rs) a).ownBlock = some q
section
variable {V V' : World} {B : Nat} {vw vl vs : Value} {wv : Nat → Value} {b : Bk} {rs : List Lr}
theorem PB.slot (h : PB V B vw vl vs wv b rs) (a : Sx) : ∃ l, IS V B (slv vs wv (dvO rs) a) l ∨ (slv vs wv (dvO rs) a).ownBlock = none := by
  cases a with
  | s => exact ⟨_, Or.inl h.sc⟩
  | w j =>
    rcases Nat.lt_or_ge j b.ls.length with h1 | h1
    · exact ⟨_, Or.inl (h.ws j h1)⟩
    · exact ⟨[], Or.inr (h.nl j h1)⟩
  | d j =>
    rcases Nat.lt_or_ge j rs.length with h1 | h1
    · refine ⟨(b.ls[j]'(by rw [← h.len]; exact h1)).dn, Or.inl ?_⟩
      show IS V B (dvO rs j) _
      rw [dvO_lt h1]; exact h.dn j h1 _
    · exact ⟨[], Or.inr (by show (dvO rs j).ownBlock = none; rw [dvO_ge h1]; rfl)⟩
theorem PB.sblk (h : PB V B vw vl vs wv b rs) {a : Sx} {q : Nat} (hq : (slv vs wv (dvO rs) a).ownBlock = some q) : B ≤ q ∧ q < V.heap.size := by
  obtain ⟨l, h1 | h1⟩ := h.slot a
  · exact IS.lt h1 q hq
  · rw [h1] at hq; cases hq
theorem PB.blk (h : PB V B vw vl vs wv b rs) {q : Nat} (hq : PBk vw vl vs wv rs q) : B ≤ q ∧ q < V.heap.size := by
  rcases hq with hq | hq | ⟨a, hq⟩
  · exact OG.lt h.wn q hq
  · exact OG.lt h.row q hq
  · exact h.sblk hq
theorem PB.keep (h : PB V B vw vl vs wv b rs) (hk : ∀ q, PBk vw vl vs wv rs q → V'.heap[q]? = V.heap[q]?) : PB V' B vw vl vs wv b rs :=
  ⟨ownsRow_keep h.wn fun q hq => hk q (Or.inl hq), ownsRow_keep h.row fun q hq => hk q (Or.inr (Or.inl hq)), h.len, h.nm, fun j hj => (h.ws j hj).kept fun q hq => hk q (Or.inr (Or.inr ⟨.w j, hq⟩)),
    fun j h1 h2 => (h.dn j h1 h2).kept fun q hq => hk q (Or.inr (Or.inr ⟨.d j, by show (dvO rs j).ownBlock = _; rw [dvO_lt h1]; exact hq⟩)), h.sc.kept fun q hq => hk q (Or.inr (Or.inr ⟨.s, hq⟩)), h.nl, h.ap⟩
theorem PB.below (h : PB V B vw vl vs wv b rs) (hb : Below V.heap.size V V') : PB V' B vw vl vs wv b rs := h.keep fun q hq => hb.block q (h.blk hq).2
theorem PB.low {A : Nat} (h : PB V B vw vl vs wv b rs) (hab : A ≤ B) : PB V A vw vl vs wv b rs :=
  ⟨h.wn.low hab, h.row.low hab, h.len, h.nm, fun j hj => (h.ws j hj).low hab, fun j h1 h2 => (h.dn j h1 h2).low hab, h.sc.low hab, h.nl, h.ap⟩
theorem PB.rd (h : PB V B vw vl vs (wvO rs) b rs) : RdBk V vw vl vs b :=
  ⟨OG.rg wdC_len h.wn, ⟨rs, OG.rg lrC_len h.row, ⟨h.len, fun j h1 h2 => ⟨(h.nm j h1 h2).1, (h.nm j h1 h2).2.1, (h.nm j h1 h2).2.2, by have := (h.ws j h2).rg; rw [wvO_lt h1] at this; exact this, (h.dn j h1 h2).rg⟩⟩⟩, h.sc.rg⟩
end
/-- .. told without where its lots lie. -/
def OBk (V : World) (B : Nat) (vw vl vs : Value) (b : Bk) : Prop := ∃ rs, PB V B vw vl vs (wvO rs) b rs
theorem OBk.rd {V : World} {B : Nat} {vw vl vs : Value} {b : Bk} (h : OBk V B vw vl vs b) : RdBk V vw vl vs b := by
  obtain ⟨rs, h⟩ := h; exact h.rd
theorem OBk.below {V V' : World} {B : Nat} {vw vl vs : Value} {b : Bk} (h : OBk V B vw vl vs b) (hb : Below V.heap.size V V') : OBk V' B vw vl vs b := by
  obtain ⟨rs, h⟩ := h; exact ⟨rs, h.below hb⟩
theorem OBk.low {V : World} {A B : Nat} {vw vl vs : Value} {b : Bk} (h : OBk V B vw vl vs b) (hab : A ≤ B) : OBk V A vw vl vs b := by
  obtain ⟨rs, h⟩ := h; exact ⟨rs, h.low hab⟩

set_option maxRecDepth 10000 in
set_option maxHeartbeats 3200000 in
theorem toLot_any (r : Lr) (d : Lo) (w : World) (hs : smLo 1048576 d) (h : Lr1 w r d) :
    Calls Try.prog 69 #[.agg #[.int .i64 r.id, .int .i64 r.pa, .slice r.wa r.wn r.wc, .bool r.hd, .slice r.da r.dn r.dc]] w fun e w' => ∃ g1 g2 : Nat, e = .returned (.agg #[.int .i64 r.id, .int .i64 r.pa, .slice (some ⟨g1, 0, none⟩) d.ws.length d.ws.length, .bool r.hd, .slice (some ⟨g2, 0, none⟩) d.dn.length d.dn.length]) ∧ g1 < g2 ∧ IS w' w.heap.size (.slice (some ⟨g1, 0, none⟩) d.ws.length d.ws.length) d.ws ∧ IS w' w.heap.size (.slice (some ⟨g2, 0, none⟩) d.dn.length d.dn.length) d.dn ∧ Below w.heap.size w w' := by
  have H : Hid (Lr1 w r d ∧ smLo 1048576 d) := ⟨h, hs⟩
  clear h hs
  obtain ⟨W0, hW0⟩ : ∃ W0, W0 = ((w.alloc (.cells #[.int .i64 r.id, .int .i64 r.pa, .slice r.wa r.wn r.wc, .bool r.hd, .slice r.da r.dn r.dc] 101)).alloc (.cells #[.int .i64 0, .int .i64 0, .slice none 0 0, .bool false, .slice none 0 0] 61)).alloc (.cells #[.int .i64 r.id, .int .i64 r.pa, .slice none 0 0, .bool false, .slice none 0 0] 61) := ⟨_, rfl⟩
  have HW0 : Hid (W0 = _) := hW0
  have k0 : W0.heap[w.heap.size]? = some (.cells #[.int .i64 r.id, .int .i64 r.pa, .slice r.wa r.wn r.wc, .bool r.hd, .slice r.da r.dn r.dc] 101) := by
    rw [hW0]
    exact (Below.heap_alloc _ _ _ (by simp; omega)).trans ((Below.heap_alloc _ _ _ (by simp)).trans (heap_alloc_new w _))
  have k1 : W0.heap[w.heap.size + 1]? = some (.cells #[.int .i64 0, .int .i64 0, .slice none 0 0, .bool false, .slice none 0 0] 61) := by
    rw [hW0]
    exact (Below.heap_alloc _ _ _ (by simp)).trans (by have := heap_alloc_new (w.alloc (.cells #[.int .i64 r.id, .int .i64 r.pa, .slice r.wa r.wn r.wc, .bool r.hd, .slice r.da r.dn r.dc] 101)) (.cells #[.int .i64 0, .int .i64 0, .slice none 0 0, .bool false, .slice none 0 0] 61); simpa using this)
  have k2 : W0.heap[w.heap.size + 2]? = some (.cells #[.int .i64 r.id, .int .i64 r.pa, .slice none 0 0, .bool false, .slice none 0 0] 61) := by
    have s := heap_alloc_new ((w.alloc (.cells #[.int .i64 r.id, .int .i64 r.pa, .slice r.wa r.wn r.wc, .bool r.hd, .slice r.da r.dn r.dc] 101)).alloc (.cells #[.int .i64 0, .int .i64 0, .slice none 0 0, .bool false, .slice none 0 0] 61)) (.cells #[.int .i64 r.id, .int .i64 r.pa, .slice none 0 0, .bool false, .slice none 0 0] 61)
    rw [hW0]
    simpa using s
  have hb : Below w.heap.size w W0 := by rw [hW0]; (repeat' (first | (with_reducible exact Below.refl _ _) | (with_reducible assumption) | (with_reducible refine Below.setCell ?_ ?_ _) | (with_reducible refine Below.alloc ?_ ?_ _) | (with_reducible refine below_drewN ?_ _) | (with_reducible refine Below.drew ?_) | (with_reducible exact Nat.le_refl _) | omega | (simp; done) | (simp; omega)))
  have hz : W0.heap.size = w.heap.size + 3 := by rw [hW0]; simp
  clear hW0
  go_enter Try.func69, Try.ntmps69
  go_wp2_with (fail)
  rw [← HW0.out]
  refine (toInt64S_any (by have := H.out.2.1; omega) (H.out.1.ws.below hb)).mono ?_
  rintro e w1 ⟨g1, rfl, hs1, hb1⟩
  obtain ⟨n, hn⟩ : ∃ n, n = d.ws.length := ⟨_, rfl⟩
  rw [← hn] at hs1 ⊢
  have hg1 := (IS.lt hs1 g1 rfl)
  rw [hz] at hg1
  obtain ⟨p0, p1, p2, p3, p4, pl⟩ := five_atQ ((hb1.block _ (by omega)).trans k0)
  have q2 := (hb1.block (w.heap.size + 2) (by omega)).trans k2
  have e1 := (hb1.block (w.heap.size + 1) (by omega)).trans k1
  have ql := ltOf q2
  have qc2 := cellOf q2 2 rfl
  have qc3 := cellOf q2 3 rfl
  have qf2 := frozOf q2 2
  have qf3 := frozOf q2 3
  obtain ⟨W1, hW1⟩ : ∃ W1, W1 = ((w1.setCell ⟨w.heap.size + 2, 2, none⟩ (.slice (some ⟨g1, 0, none⟩) n n)).setCell ⟨w.heap.size + 2, 3, none⟩ (.bool r.hd)) := ⟨_, rfl⟩
  have HW1 : Hid (W1 = _) := hW1
  have HF1 : Hid (n = d.ws.length ∧ W1.heap[w.heap.size]? = some (.cells #[.int .i64 r.id, .int .i64 r.pa, .slice r.wa r.wn r.wc, .bool r.hd, .slice r.da r.dn r.dc] 101) ∧ W1.heap[w.heap.size + 1]? = some (.cells #[.int .i64 0, .int .i64 0, .slice none 0 0, .bool false, .slice none 0 0] 61) ∧ W1.heap[w.heap.size + 2]? = some (.cells #[.int .i64 r.id, .int .i64 r.pa, .slice (some ⟨g1, 0, none⟩) n n, .bool r.hd, .slice none 0 0] 61) ∧ Below w.heap.size w W1 ∧ IS W1 (w.heap.size + 3) (.slice (some ⟨g1, 0, none⟩) n n) d.ws ∧ w.heap.size + 3 ≤ g1 ∧ g1 < W1.heap.size) := by
    refine ⟨hn, ?_, ?_, ?_, ?_, ?_, hg1.1, ?_⟩
    · rw [hW1, heap_setCell_other _ _ _ _ (by simp), heap_setCell_other _ _ _ _ (by simp)]; exact (hb1.block _ (by omega)).trans k0
    · rw [hW1, heap_setCell_other _ _ _ _ (by simp), heap_setCell_other _ _ _ _ (by simp)]; exact e1
    · have s0 := heap_setCell_same _ _ 2 _ _ (.slice (some ⟨g1, 0, none⟩) n n) q2
      have s1 := heap_setCell_same _ _ 3 _ _ (.bool r.hd) s0
      rw [hW1]
      simpa using s1
    · rw [hW1]
      have hb9 := hb.trans (hb1.mono hb.size)
      (repeat' (first | (with_reducible exact Below.refl _ _) | (with_reducible assumption) | (with_reducible refine Below.setCell ?_ ?_ _) | (with_reducible refine Below.alloc ?_ ?_ _) | (with_reducible refine below_drewN ?_ _) | (with_reducible refine Below.drew ?_) | (with_reducible exact Nat.le_refl _) | omega | (simp; done) | (simp; omega)))
    · refine IS.kept (hs1.low (by omega)) fun q hq => ?_
      injection hq with hq
      have hq' : g1 = q := hq
      rw [hW1, heap_setCell_other _ _ _ _ (by simp; omega), heap_setCell_other _ _ _ _ (by simp; omega)]
    · rw [hW1]; simpa using hg1.2
  clear hW1 k0 k1 k2 hb hz hs1 hb1 hg1 q2 e1 hn HW0 p0 p1 p2
  go_wp2_with (fail)
  rw [← HW1.out]
  refine (toInt64S_any (by have := H.out.2.2.1; omega) (H.out.1.dn.below HF1.out.2.2.2.2.1)).mono ?_
  rintro e w2 ⟨g2, rfl, hs2, hb2⟩
  obtain ⟨m, hm⟩ : ∃ m, m = d.dn.length := ⟨_, rfl⟩
  rw [← hm] at hs2 ⊢
  have hg2 := (IS.lt hs2 g2 rfl)
  have k0 := (hb2.block _ (ltOf HF1.out.2.1)).trans HF1.out.2.1
  have k1 := (hb2.block _ (ltOf HF1.out.2.2.1)).trans HF1.out.2.2.1
  have k2 := (hb2.block _ (ltOf HF1.out.2.2.2.1)).trans HF1.out.2.2.2.1
  have hz1 : w.heap.size + 3 ≤ W1.heap.size := by have := HF1.out.2.2.2.2.2.2; omega
  obtain ⟨W2, hW2⟩ : ∃ W2, W2 = ((((((w2.setCell ⟨w.heap.size + 2, 4, none⟩ (.slice (some ⟨g2, 0, none⟩) m m)).setCell ⟨w.heap.size + 1, 0, none⟩ (.int .i64 r.id)).setCell ⟨w.heap.size + 1, 1, none⟩ (.int .i64 r.pa)).setCell ⟨w.heap.size + 1, 2, none⟩ (.slice (some ⟨g1, 0, none⟩) n n)).setCell ⟨w.heap.size + 1, 3, none⟩ (.bool r.hd)).setCell ⟨w.heap.size + 1, 4, none⟩ (.slice (some ⟨g2, 0, none⟩) m m)) := ⟨_, rfl⟩
  have HW2 : Hid (W2 = _) := hW2
  have m2 : (w2.setCell ⟨w.heap.size + 2, 4, none⟩ (.slice (some ⟨g2, 0, none⟩) m m)).heap[w.heap.size + 2]? = some (.cells #[.int .i64 r.id, .int .i64 r.pa, .slice (some ⟨g1, 0, none⟩) n n, .bool r.hd, .slice (some ⟨g2, 0, none⟩) m m] 61) := by
    have s0 := heap_setCell_same _ _ 4 _ _ (.slice (some ⟨g2, 0, none⟩) m m) k2
    simpa using s0
  have m1 : W2.heap[w.heap.size + 1]? = some (.cells #[.int .i64 r.id, .int .i64 r.pa, .slice (some ⟨g1, 0, none⟩) n n, .bool r.hd, .slice (some ⟨g2, 0, none⟩) m m] 61) := by
    have k1' : (w2.setCell ⟨w.heap.size + 2, 4, none⟩ (.slice (some ⟨g2, 0, none⟩) m m)).heap[w.heap.size + 1]? = some (.cells #[.int .i64 0, .int .i64 0, .slice none 0 0, .bool false, .slice none 0 0] 61) := by rw [heap_setCell_other _ _ _ _ (by simp)]; exact k1
    have s0 := heap_setCell_same _ _ 0 _ _ (.int .i64 r.id) k1'
    have s1 := heap_setCell_same _ _ 1 _ _ (.int .i64 r.pa) s0
    have s2 := heap_setCell_same _ _ 2 _ _ (.slice (some ⟨g1, 0, none⟩) n n) s1
    have s3 := heap_setCell_same _ _ 3 _ _ (.bool r.hd) s2
    have s4 := heap_setCell_same _ _ 4 _ _ (.slice (some ⟨g2, 0, none⟩) m m) s3
    rw [hW2]
    simpa using s4
  have hoth : ∀ q, w.heap.size + 3 ≤ q → W2.heap[q]? = w2.heap[q]? := fun q hq => by
    rw [hW2, heap_setCell_other _ _ _ _ (by simp; omega), heap_setCell_other _ _ _ _ (by simp; omega), heap_setCell_other _ _ _ _ (by simp; omega), heap_setCell_other _ _ _ _ (by simp; omega), heap_setCell_other _ _ _ _ (by simp; omega), heap_setCell_other _ _ _ _ (by simp; omega)]
  have HR : Hid (m = d.dn.length ∧ g1 < g2 ∧ IS W2 w.heap.size (.slice (some ⟨g1, 0, none⟩) n n) d.ws ∧ IS W2 w.heap.size (.slice (some ⟨g2, 0, none⟩) m m) d.dn ∧ Below w.heap.size w W2) := by
    refine ⟨hm, by have := HF1.out.2.2.2.2.2.2.2; omega, (IS.kept (HF1.out.2.2.2.2.2.1.bel hb2) fun q hq => hoth q ?_).low (by omega), (IS.kept hs2 fun q hq => hoth q ?_).low (by omega), ?_⟩
    · injection hq with hq
      have hq' : g1 = q := hq
      have := HF1.out.2.2.2.2.2.2.1
      omega
    · injection hq with hq
      have hq' : g2 = q := hq
      omega
    · rw [hW2]
      have hb9 := HF1.out.2.2.2.2.1.trans (hb2.mono HF1.out.2.2.2.2.1.size)
      (repeat' (first | (with_reducible exact Below.refl _ _) | (with_reducible assumption) | (with_reducible refine Below.setCell ?_ ?_ _) | (with_reducible refine Below.alloc ?_ ?_ _) | (with_reducible refine below_drewN ?_ _) | (with_reducible refine Below.drew ?_) | (with_reducible exact Nat.le_refl _) | omega | (simp; done) | (simp; omega)))
  have HN : Hid (n = d.ws.length) := HF1.out.1
  obtain ⟨t0, t1, t2, t3, t4, tl⟩ := five_atQ m1
  have c0 := cellOf k0 4 rfl
  have l0 := ltOf k0
  obtain ⟨x0, x1, x2, x3, x4, xl⟩ := five_atQ k2
  have xf4 := frozOf k2 4
  obtain ⟨y0, y1, y2, y3, y4, yl⟩ := five_atQ k1
  have yf0 := frozOf k1 0
  have yf1 := frozOf k1 1
  have yf2 := frozOf k1 2
  have yf3 := frozOf k1 3
  have yf4 := frozOf k1 4
  clear hW2 m2 m1 hoth k0 k1 k2 hs2 hb2 hg2 hm hz1 HF1 HW1
  go_wp2
  rw [← HW2.out]
  try simp only [Exit.inBlock, Exit.then]
  refine bodyPost_ret (by simp [results, Try.results69, go_sem, t0, t1, t2, t3, t4]; try rfl) rfl ⟨g1, g2, ?_, HR.out.2.1, ?_, ?_, HR.out.2.2.2.2⟩
  · rw [← HN.out, ← HR.out.1]
  · rw [← HN.out]; exact HR.out.2.2.1
  · rw [← HR.out.1]; exact HR.out.2.2.2.1

end Go.Proofs.Ytcfjanignfbidaa
