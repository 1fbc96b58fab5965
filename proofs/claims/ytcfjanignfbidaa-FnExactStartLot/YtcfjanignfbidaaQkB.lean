/- Proved here: how the laws' package weighs and copies books of lots. -/
import Derived.Test.YtcfjanignfbidaaQlU
namespace Go.Proofs.Ytcfjanignfbidaa
open Go.ChangeShapes Go.WideShapes Go.ChangeAt Go.RowKit Go.Joins Go.Deep
set_option linter.unusedVariables false
set_option linter.unusedSimpArgs false


theorem four_atQ {w : World} {k : Nat} {a b c d : Value} {T : TypeId} (h : w.heap[k]? = some (.cells #[a, b, c, d] T)) :
    w.cell? ⟨k, 0, none⟩ = some a ∧ w.cell? ⟨k, 1, none⟩ = some b ∧ w.cell? ⟨k, 2, none⟩ = some c ∧ w.cell? ⟨k, 3, none⟩ = some d ∧ (∀ i, w.frozen? ⟨k, i, none⟩ = false) ∧ k < w.heap.size :=
  ⟨cellOf h 0 rfl, cellOf h 1 rfl, cellOf h 2 rfl, cellOf h 3 rfl, fun i => frozOf h i, ltOf h⟩
set_option maxHeartbeats 1600000 in
theorem szLotBook_gen (st : Int) (wa : Option Addr) (wn wc : Nat) (la : Option Addr) (ln lc : Nat) (xa : Option Addr) (xn xc : Nat) (l : Int) (b : Bk) (w : World) (h0 : 0 ≤ l) (h1 : l ≤ 1048576) (ho : okBk b) (h : RdBk w (.slice wa wn wc) (.slice la ln lc) (.slice xa xn xc) b) :
    Calls Try.prog 9 #[.agg #[.int .i64 st, .slice wa wn wc, .slice la ln lc, .slice xa xn xc], .int .i64 l] w fun e w' => ∃ q, e = .returned (.int .i64 q) ∧ (q < 0 ∨ (0 ≤ q ∧ q ≤ l ∧ smBk l b)) ∧ Below w.heap.size w w' := by
  have H : Hid (RdBk w (.slice wa wn wc) (.slice la ln lc) (.slice xa xn xc) b ∧ okBk b ∧ wn = b.wn.length ∧ ln = b.ls.length ∧ xn = b.sc.length) := ⟨h, ho, h.wn.len, h.ls.len, h.sc.len⟩
  clear h ho
  go_enter Try.func9, Try.ntmps9
  go_wp2_with (fail)
  refine (szWindowS_gen wa wn wc l _ h0 h1 (by rw [H.out.2.2.1]; exact H.out.2.1.wn)).mono ?_
  rintro e w1 ⟨q1, rfl, hq1, hb1⟩
  have k1 := (hb1.block w.heap.size (by simp)).trans (heap_alloc_new w _)
  have HB1 : Hid (Below w.heap.size w w1) := (show Below w.heap.size w _ from by (repeat' (first | (with_reducible exact Below.refl _ _) | (with_reducible assumption) | (with_reducible refine Below.setCell ?_ ?_ _) | (with_reducible refine Below.alloc ?_ ?_ _) | (with_reducible refine below_drewN ?_ _) | (with_reducible refine Below.drew ?_) | (with_reducible exact Nat.le_refl _) | omega | (simp; done) | (simp; omega)))).trans (hb1.mono (by simp))
  clear hb1
  rcases hq1 with hneg | ⟨h3, h4, h5⟩
  · clear k1
    go_wp2
    go_returns
    exact ⟨-1, rfl, Or.inl (by omega), HB1.out⟩
  have h6 : ¬ q1 < 0 := by omega
  have c2 := cellOf k1 2 rfl
  have l2 := ltOf k1
  have HK1 : Hid (w1.heap[w.heap.size]? = some (.cells #[.int .i64 st, .slice wa wn wc, .slice la ln lc, .slice xa xn xc] 26)) := k1
  clear k1
  go_wp2_with (fail)
  refine (szLotS_gen la ln lc q1 b.ls _ h3 (by omega) (by rw [H.out.2.2.2.1]; exact H.out.2.1.ls) (H.out.1.ls.below HB1.out) H.out.2.1.at_).mono ?_
  rintro e w2 ⟨q2, rfl, hq2, hb2⟩
  have k2 := (hb2.block _ (ltOf HK1.out)).trans HK1.out
  have HB2 : Hid (Below w.heap.size w w2) := HB1.out.trans (hb2.mono HB1.out.size)
  clear hb2 c2 l2 HB1 HK1
  rcases hq2 with hneg | ⟨h7, h8, h9, h10, h10t⟩
  · clear k2
    go_wp2
    go_returns
    exact ⟨-1, rfl, Or.inl (by omega), HB2.out⟩
  have h11 : ¬ q2 < 0 := by omega
  have HA : Hid (∀ j (h : j < b.ls.length), smLo q1 b.ls[j]) := h10
  clear h10
  have c3 := cellOf k2 3 rfl
  have l3 := ltOf k2
  clear k2
  go_wp2_with (fail)
  refine (szInt64S_gen xa xn xc q2 _ h7 (by omega) (by rw [H.out.2.2.2.2]; exact H.out.2.1.sc)).mono ?_
  rintro e w3 ⟨q3, rfl, hq3, hb3⟩
  have HB3 : Hid (Below w.heap.size w w3) := HB2.out.trans (hb3.mono HB2.out.size)
  clear hb3 c3 l3 HB2
  rcases hq3 with hneg | ⟨h12, h13, h14⟩
  · go_wp2
    go_returns
    exact ⟨-1, rfl, Or.inl (by omega), HB3.out⟩
  have h15 : ¬ q3 < 0 := by omega
  have HS : Hid (smBk l b) := ⟨by rw [← H.out.2.2.1]; exact h5, by rw [← H.out.2.2.2.1]; omega, by rw [← H.out.2.2.2.2]; omega, fun j hj => ⟨Int.le_trans (HA.out j hj).1 h4, Int.le_trans (HA.out j hj).2.1 h4, (HA.out j hj).2.2⟩, by omega⟩
  go_wp2
  go_returns
  exact ⟨q3, rfl, Or.inr ⟨h12, by omega, HS.out⟩, HB3.out⟩

set_option maxRecDepth 10000 in
set_option maxHeartbeats 3200000 in
theorem toLotBook_any (st : Int) {w : World} {vw vl vs : Value} {b : Bk} (hs : smBk 1048576 b) (h : RdBk w vw vl vs b) :
    Calls Try.prog 11 #[.agg #[.int .i64 st, vw, vl, vs]] w fun e w' => ∃ g : Nat × Nat × Nat, e = .returned (.agg #[.int .i64 st, .slice (some ⟨g.1, 0, none⟩) b.wn.length b.wn.length, .slice (some ⟨g.2.1, 0, none⟩) b.ls.length b.ls.length, .slice (some ⟨g.2.2, 0, none⟩) b.sc.length b.sc.length]) ∧ OBk w' w.heap.size (.slice (some ⟨g.1, 0, none⟩) b.wn.length b.wn.length) (.slice (some ⟨g.2.1, 0, none⟩) b.ls.length b.ls.length) (.slice (some ⟨g.2.2, 0, none⟩) b.sc.length b.sc.length) b ∧ Below w.heap.size w w' := by
  obtain ⟨wa, wc, e1⟩ := h.wn.form
  obtain ⟨la, lc, e2⟩ := h.ls.form
  obtain ⟨xa, xc, e3⟩ := h.sc.form
  subst e1 e2 e3
  obtain ⟨wn, hwn⟩ : ∃ n, n = b.wn.length := ⟨_, rfl⟩
  obtain ⟨ln, hln⟩ : ∃ n, n = b.ls.length := ⟨_, rfl⟩
  obtain ⟨xn, hxn⟩ : ∃ n, n = b.sc.length := ⟨_, rfl⟩
  rw [← hwn, ← hln, ← hxn] at h ⊢
  have H : Hid (RdBk w (.slice wa wn wc) (.slice la ln lc) (.slice xa xn xc) b ∧ smBk 1048576 b) := ⟨h, hs⟩
  have HN : Hid (wn = b.wn.length ∧ ln = b.ls.length ∧ xn = b.sc.length) := ⟨hwn, hln, hxn⟩
  clear h hs hwn hln hxn
  obtain ⟨W0, hW0⟩ : ∃ W0, W0 = ((w.alloc (.cells #[.int .i64 st, .slice wa wn wc, .slice la ln lc, .slice xa xn xc] 26)).alloc (.cells #[.int .i64 0, .slice none 0 0, .slice none 0 0, .slice none 0 0] 31)).alloc (.cells #[.int .i64 st, .slice none 0 0, .slice none 0 0, .slice none 0 0] 31) := ⟨_, rfl⟩
  have HW0 : Hid (W0 = _) := hW0
  have k0 : W0.heap[w.heap.size]? = some (.cells #[.int .i64 st, .slice wa wn wc, .slice la ln lc, .slice xa xn xc] 26) := by
    rw [hW0]
    exact (Below.heap_alloc _ _ _ (by simp; omega)).trans ((Below.heap_alloc _ _ _ (by simp)).trans (heap_alloc_new w _))
  have k1 : W0.heap[w.heap.size + 1]? = some (.cells #[.int .i64 0, .slice none 0 0, .slice none 0 0, .slice none 0 0] 31) := by
    rw [hW0]
    exact (Below.heap_alloc _ _ _ (by simp)).trans (by have := heap_alloc_new (w.alloc (.cells #[.int .i64 st, .slice wa wn wc, .slice la ln lc, .slice xa xn xc] 26)) (.cells #[.int .i64 0, .slice none 0 0, .slice none 0 0, .slice none 0 0] 31); simpa using this)
  have k2 : W0.heap[w.heap.size + 2]? = some (.cells #[.int .i64 st, .slice none 0 0, .slice none 0 0, .slice none 0 0] 31) := by
    have s := heap_alloc_new ((w.alloc (.cells #[.int .i64 st, .slice wa wn wc, .slice la ln lc, .slice xa xn xc] 26)).alloc (.cells #[.int .i64 0, .slice none 0 0, .slice none 0 0, .slice none 0 0] 31)) (.cells #[.int .i64 st, .slice none 0 0, .slice none 0 0, .slice none 0 0] 31)
    rw [hW0]
    simpa using s
  have hb : Below w.heap.size w W0 := by rw [hW0]; (repeat' (first | (with_reducible exact Below.refl _ _) | (with_reducible assumption) | (with_reducible refine Below.setCell ?_ ?_ _) | (with_reducible refine Below.alloc ?_ ?_ _) | (with_reducible refine below_drewN ?_ _) | (with_reducible refine Below.drew ?_) | (with_reducible exact Nat.le_refl _) | omega | (simp; done) | (simp; omega)))
  have hz : W0.heap.size = w.heap.size + 3 := by rw [hW0]; simp
  clear hW0
  go_enter Try.func11, Try.ntmps11
  go_wp2_with (fail)
  rw [← HW0.out]
  refine (toWindowS_any (by have := H.out.2.wn; omega) (H.out.1.wn.below hb)).mono ?_
  rintro e w1 ⟨g1, rfl, hs1, hb1⟩
  rw [← HN.out.1] at hs1 ⊢
  have hg1 := (OG.lt hs1 g1 rfl)
  rw [hz] at hg1
  have e0 := (hb1.block _ (by omega)).trans k0
  have e1 := (hb1.block (w.heap.size + 1) (by omega)).trans k1
  have e2 := (hb1.block (w.heap.size + 2) (by omega)).trans k2
  obtain ⟨W1, hW1⟩ : ∃ W1, W1 = w1.setCell ⟨w.heap.size + 2, 1, none⟩ (.slice (some ⟨g1, 0, none⟩) wn wn) := ⟨_, rfl⟩
  have HW1 : Hid (W1 = _) := hW1
  have HF1 : Hid (W1.heap[w.heap.size]? = some (.cells #[.int .i64 st, .slice wa wn wc, .slice la ln lc, .slice xa xn xc] 26) ∧ W1.heap[w.heap.size + 1]? = some (.cells #[.int .i64 0, .slice none 0 0, .slice none 0 0, .slice none 0 0] 31) ∧ W1.heap[w.heap.size + 2]? = some (.cells #[.int .i64 st, .slice (some ⟨g1, 0, none⟩) wn wn, .slice none 0 0, .slice none 0 0] 31) ∧ Below w.heap.size w W1 ∧ OG 99 3 wdC W1 (w.heap.size + 3) (.slice (some ⟨g1, 0, none⟩) wn wn) b.wn ∧ w.heap.size + 3 ≤ g1 ∧ g1 < W1.heap.size) := by
    refine ⟨?_, ?_, ?_, ?_, ?_, hg1.1, ?_⟩
    · rw [hW1, heap_setCell_other _ _ _ _ (by simp)]; exact e0
    · rw [hW1, heap_setCell_other _ _ _ _ (by simp)]; exact e1
    · have s0 := heap_setCell_same _ _ 1 _ _ (.slice (some ⟨g1, 0, none⟩) wn wn) e2
      rw [hW1]
      simpa using s0
    · rw [hW1]
      have hb9 := hb.trans (hb1.mono hb.size)
      (repeat' (first | (with_reducible exact Below.refl _ _) | (with_reducible assumption) | (with_reducible refine Below.setCell ?_ ?_ _) | (with_reducible refine Below.alloc ?_ ?_ _) | (with_reducible refine below_drewN ?_ _) | (with_reducible refine Below.drew ?_) | (with_reducible exact Nat.le_refl _) | omega | (simp; done) | (simp; omega)))
    · refine ownsRow_keep (OG.low hs1 (by omega)) fun q hq => ?_
      injection hq with hq
      have hq' : g1 = q := hq
      rw [hW1, heap_setCell_other _ _ _ _ (by simp; omega)]
    · rw [hW1]; simpa using hg1.2
  obtain ⟨p0, p1, p2, p3, pf, pl⟩ := four_atQ e0
  obtain ⟨q0, q1, q2, q3, qf, ql⟩ := four_atQ e2
  have qf1 := qf 1
  clear hW1 k0 k1 k2 hb hz hs1 hb1 hg1 e0 e1 e2 HW0 pf qf
  go_wp2_with (fail)
  rw [← HW1.out]
  refine (toLotS_any (by have := H.out.2.ls; omega) H.out.2.at_ (H.out.1.ls.below HF1.out.2.2.2.1)).mono ?_
  rintro e w2 ⟨g2, rs, rfl, hs2, hlt2, hb2⟩
  rw [← HN.out.2.1] at hs2 ⊢
  have hg2 := (OG.lt hs2.row g2 rfl)
  have e0 := (hb2.block _ (ltOf HF1.out.1)).trans HF1.out.1
  have e1 := (hb2.block _ (ltOf HF1.out.2.1)).trans HF1.out.2.1
  have e2 := (hb2.block _ (ltOf HF1.out.2.2.1)).trans HF1.out.2.2.1
  obtain ⟨W2, hW2⟩ : ∃ W2, W2 = w2.setCell ⟨w.heap.size + 2, 2, none⟩ (.slice (some ⟨g2, 0, none⟩) ln ln) := ⟨_, rfl⟩
  have HW2 : Hid (W2 = _) := hW2
  have HF2 : Hid (W2.heap[w.heap.size]? = some (.cells #[.int .i64 st, .slice wa wn wc, .slice la ln lc, .slice xa xn xc] 26) ∧ W2.heap[w.heap.size + 1]? = some (.cells #[.int .i64 0, .slice none 0 0, .slice none 0 0, .slice none 0 0] 31) ∧ W2.heap[w.heap.size + 2]? = some (.cells #[.int .i64 st, .slice (some ⟨g1, 0, none⟩) wn wn, .slice (some ⟨g2, 0, none⟩) ln ln, .slice none 0 0] 31) ∧ Below w.heap.size w W2 ∧ OG 99 3 wdC W2 (w.heap.size + 3) (.slice (some ⟨g1, 0, none⟩) wn wn) b.wn ∧ OLs W2 (w.heap.size + 3) (.slice (some ⟨g2, 0, none⟩) ln ln) b.ls rs ∧ (∀ a q, (slv nilV (wvO rs) (dvO rs) a).ownBlock = some q → q < W2.heap.size) ∧ w.heap.size + 3 ≤ W2.heap.size) := by
    have hz1 : w.heap.size + 3 ≤ W1.heap.size := by have := HF1.out.2.2.2.2.2; omega
    have hoth : ∀ q, w.heap.size + 3 ≤ q → W2.heap[q]? = w2.heap[q]? := fun q hq => by rw [hW2, heap_setCell_other _ _ _ _ (by simp; omega)]
    have hlo := hs2.low hz1
    have hsz : W2.heap.size = w2.heap.size := by rw [hW2]; simp
    refine ⟨?_, ?_, ?_, ?_, ?_, ⟨ownsRow_keep hlo.row fun q hq => hoth q (OG.lt hlo.row q hq).1, hlo.len, hlo.nm, fun i h1 h2 => (hlo.ws i h1 h2).kept fun q hq => hoth q (IS.lt (hlo.ws i h1 h2) q hq).1, fun i h1 h2 => (hlo.dn i h1 h2).kept fun q hq => hoth q (IS.lt (hlo.dn i h1 h2) q hq).1, hlo.ap⟩, by rw [hsz]; exact hlt2, by rw [hsz]; have := hb2.size; omega⟩
    · rw [hW2, heap_setCell_other _ _ _ _ (by simp)]; exact e0
    · rw [hW2, heap_setCell_other _ _ _ _ (by simp)]; exact e1
    · have s0 := heap_setCell_same _ _ 2 _ _ (.slice (some ⟨g2, 0, none⟩) ln ln) e2
      rw [hW2]
      simpa using s0
    · rw [hW2]
      have hb9 := HF1.out.2.2.2.1.trans (hb2.mono HF1.out.2.2.2.1.size)
      (repeat' (first | (with_reducible exact Below.refl _ _) | (with_reducible assumption) | (with_reducible refine Below.setCell ?_ ?_ _) | (with_reducible refine Below.alloc ?_ ?_ _) | (with_reducible refine below_drewN ?_ _) | (with_reducible refine Below.drew ?_) | (with_reducible exact Nat.le_refl _) | omega | (simp; done) | (simp; omega)))
    · have h9 := HF1.out.2.2.2.2.1.below hb2
      exact ownsRow_keep h9 fun q hq => hoth q (OG.lt h9 q hq).1
  obtain ⟨q0, q1, q2, q3, qf, ql⟩ := four_atQ e2
  have qf2 := qf 2
  obtain ⟨p0, p1, p2, p3, pf, pl⟩ := four_atQ e0
  clear hW2 hs2 hlt2 hb2 hg2 e0 e1 e2 HF1 HW1 qf pf
  go_wp2_with (fail)
  rw [← HW2.out]
  refine (toInt64S_any (by have := H.out.2.sc; omega) (H.out.1.sc.below HF2.out.2.2.2.1)).mono ?_
  rintro e w3 ⟨g3, rfl, hs3, hb3⟩
  rw [← HN.out.2.2] at hs3 ⊢
  have hg3 := (IS.lt hs3 g3 rfl)
  have e0 := (hb3.block _ (ltOf HF2.out.1)).trans HF2.out.1
  have e1 := (hb3.block _ (ltOf HF2.out.2.1)).trans HF2.out.2.1
  have e2 := (hb3.block _ (ltOf HF2.out.2.2.1)).trans HF2.out.2.2.1
  obtain ⟨W3, hW3⟩ : ∃ W3, W3 = ((((w3.setCell ⟨w.heap.size + 2, 3, none⟩ (.slice (some ⟨g3, 0, none⟩) xn xn)).setCell ⟨w.heap.size + 1, 0, none⟩ (.int .i64 st)).setCell ⟨w.heap.size + 1, 1, none⟩ (.slice (some ⟨g1, 0, none⟩) wn wn)).setCell ⟨w.heap.size + 1, 2, none⟩ (.slice (some ⟨g2, 0, none⟩) ln ln)).setCell ⟨w.heap.size + 1, 3, none⟩ (.slice (some ⟨g3, 0, none⟩) xn xn) := ⟨_, rfl⟩
  have HW3 : Hid (W3 = _) := hW3
  have m1 : W3.heap[w.heap.size + 1]? = some (.cells #[.int .i64 st, .slice (some ⟨g1, 0, none⟩) wn wn, .slice (some ⟨g2, 0, none⟩) ln ln, .slice (some ⟨g3, 0, none⟩) xn xn] 31) := by
    have k1' : (w3.setCell ⟨w.heap.size + 2, 3, none⟩ (.slice (some ⟨g3, 0, none⟩) xn xn)).heap[w.heap.size + 1]? = some (.cells #[.int .i64 0, .slice none 0 0, .slice none 0 0, .slice none 0 0] 31) := by rw [heap_setCell_other _ _ _ _ (by simp)]; exact e1
    have s0 := heap_setCell_same _ _ 0 _ _ (.int .i64 st) k1'
    have s1 := heap_setCell_same _ _ 1 _ _ (.slice (some ⟨g1, 0, none⟩) wn wn) s0
    have s2 := heap_setCell_same _ _ 2 _ _ (.slice (some ⟨g2, 0, none⟩) ln ln) s1
    have s3 := heap_setCell_same _ _ 3 _ _ (.slice (some ⟨g3, 0, none⟩) xn xn) s2
    rw [hW3]
    simpa using s3
  have HR : Hid (OBk W3 w.heap.size (.slice (some ⟨g1, 0, none⟩) wn wn) (.slice (some ⟨g2, 0, none⟩) ln ln) (.slice (some ⟨g3, 0, none⟩) xn xn) b ∧ Below w.heap.size w W3) := by
    have hz2 := HF2.out.2.2.2.2.2.2.2
    have hoth : ∀ q, w.heap.size + 3 ≤ q → W3.heap[q]? = w3.heap[q]? := fun q hq => by
      rw [hW3, heap_setCell_other _ _ _ _ (by simp; omega), heap_setCell_other _ _ _ _ (by simp; omega), heap_setCell_other _ _ _ _ (by simp; omega), heap_setCell_other _ _ _ _ (by simp; omega), heap_setCell_other _ _ _ _ (by simp; omega)]
    have hP : PB w3 (w.heap.size + 3) (.slice (some ⟨g1, 0, none⟩) wn wn) (.slice (some ⟨g2, 0, none⟩) ln ln) (.slice (some ⟨g3, 0, none⟩) xn xn) (wvO rs) b rs :=
      (HF2.out.2.2.2.2.2.1.below hb3).pb (Z := W2.heap.size) (HF2.out.2.2.2.2.1.below hb3) (hs3.low hz2) (fun g hg => (IS.lt hs3 g hg).1) HF2.out.2.2.2.2.2.2.1
    refine ⟨⟨rs, (hP.keep fun q hq => hoth q (hP.blk hq).1).low (by omega)⟩, ?_⟩
    rw [hW3]
    have hb9 := HF2.out.2.2.2.1.trans (hb3.mono HF2.out.2.2.2.1.size)
    (repeat' (first | (with_reducible exact Below.refl _ _) | (with_reducible assumption) | (with_reducible refine Below.setCell ?_ ?_ _) | (with_reducible refine Below.alloc ?_ ?_ _) | (with_reducible refine below_drewN ?_ _) | (with_reducible refine Below.drew ?_) | (with_reducible exact Nat.le_refl _) | omega | (simp; done) | (simp; omega)))
  obtain ⟨q0, q1, q2, q3, qf, ql⟩ := four_atQ e2
  have qf3 := qf 3
  obtain ⟨y0, y1, y2, y3, yf, yl⟩ := four_atQ e1
  have yf0 := yf 0
  have yf1 := yf 1
  have yf2 := yf 2
  have yf3 := yf 3
  obtain ⟨t0, t1, t2, t3, tf, tl⟩ := four_atQ m1
  clear hW3 m1 hs3 hb3 hg3 e0 e1 e2 HF2 HW2 qf yf tf
  go_wp2
  rw [← HW3.out]
  try simp only [Exit.inBlock, Exit.then]
  refine bodyPost_ret (by simp [results, Try.results11, go_sem, t0, t1, t2, t3]; try rfl) rfl ⟨(g1, g2, g3), ?_, ?_, HR.out.2⟩
  · simp only [← HN.out.1, ← HN.out.2.1, ← HN.out.2.2]
  · simp only [← HN.out.1, ← HN.out.2.1, ← HN.out.2.2]; exact HR.out.1

end Go.Proofs.Ytcfjanignfbidaa
