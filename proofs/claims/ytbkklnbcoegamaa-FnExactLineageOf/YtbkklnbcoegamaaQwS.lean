/- Proved here: l21Begin and WindowLeft of the model. -/
import Derived.Test.YtbkklnbcoegamaaIxM
import Derived.Test.YtbkklnbcoegamaaQbV
namespace Go.Proofs.Ytbkklnbcoegamaa
open Go.RowKit Go.Maps
set_option linter.unusedVariables false
set_option linter.unusedSimpArgs false

set_option maxHeartbeats 1600000 in
theorem spec_beg {st : Int} {w : World} {vw vl vs : Value} {b : Bk} (id : Int) (hst : b.st = st) (hs : smBk 1048576 b) (h : RdX w vw vl vs b) :
    Calls Try.prog 29 #[.agg #[.int .i64 st, vw, vl, vs], .int .i64 id] w fun e w' => e = .returned (.tuple #[.int .i64 (bgA b id), .int .i64 (bgC b id)]) ∧ Below w.heap.size w w' := by
  obtain ⟨wa, wc, e1⟩ := h.wn.form
  obtain ⟨la, lc, e2⟩ := h.ls.rlo.form
  obtain ⟨xa, xc, e3⟩ := h.sc.form
  subst e1 e2 e3
  obtain ⟨wn, hwn⟩ : ∃ n, n = b.wn.length := ⟨_, rfl⟩
  obtain ⟨ln, hln⟩ : ∃ n, n = b.ls.length := ⟨_, rfl⟩
  obtain ⟨xn, hxn⟩ : ∃ n, n = b.sc.length := ⟨_, rfl⟩
  rw [← hwn, ← hln, ← hxn] at h ⊢
  obtain ⟨K, hK⟩ : ∃ K, K = bkF b := ⟨_, rfl⟩
  obtain ⟨I, hI⟩ : ∃ K, K = fdI (idA b.ls) id b.ls.length := ⟨_, rfl⟩
  obtain ⟨A, hA⟩ : ∃ K, K = bgA b id := ⟨_, rfl⟩
  obtain ⟨C, hC⟩ : ∃ K, K = bgC b id := ⟨_, rfl⟩
  rw [← hA, ← hC]
  have HC : Hid (C = (if K ≠ 0 then K else if I < 0 then 4 else 0) ∧ A = if C ≠ 0 then -1 else I) := ⟨by rw [hC, bgC, ← hK, ← hI], by rw [hA, bgA, ← hC, ← hI]⟩
  obtain ⟨W, hW⟩ : ∃ W, W = w.alloc (.cells #[.int .i64 st, .slice wa wn wc, .slice la ln lc, .slice xa xn xc] 31) := ⟨_, rfl⟩
  have HW : Hid (Below w.heap.size w W ∧ W.heap[w.heap.size]? = some (.cells #[.int .i64 st, .slice wa wn wc, .slice la ln lc, .slice xa xn xc] 31)) := by rw [hW]; exact ⟨by (repeat' (first | (with_reducible exact Below.refl _ _) | (with_reducible assumption) | (with_reducible refine Below.setCell ?_ ?_ _) | (with_reducible refine Below.alloc ?_ ?_ _) | (with_reducible refine below_drewN ?_ _) | (with_reducible refine Below.drew ?_) | (with_reducible exact Nat.le_refl _) | omega | (simp; done) | (simp; omega))), heap_alloc_new _ _⟩
  have HB : Hid (Calls Try.prog 50 #[.agg #[.int .i64 st, .slice wa wn wc, .slice la ln lc, .slice xa xn xc]] W fun e w' => e = .returned (.int .i64 K) ∧ Below W.heap.size W w') := by rw [hK]; exact spec_bf hst hs (h.below HW.out.1)
  have HF : Hid (∀ w', Below w.heap.size w w' → Calls Try.prog 55 #[.slice la ln lc, .int .i64 ln, .int .i64 id] w' fun e w2 => e = .returned (.int .i64 I) ∧ w2 = w') := fun w' hb => by
    have := spec_fd ln id (by omega) (by have := hs.ls; omega) (h.ls.rlo.below hb)
    rw [hln, ← hI] at this
    rw [hln]; exact this
  clear h hs hst hwn hln hxn hK hI hA hC
  go_enter Try.func29, Try.ntmps29
  go_wp2_with (fail)
  rw [← hW]
  clear hW
  refine HB.out.mono ?_
  rintro e w1 ⟨rfl, hb1⟩
  have m0 := (hb1.block _ (ltOfQ HW.out.2)).trans HW.out.2
  have HB1 : Hid (Below w.heap.size w w1) := HW.out.1.trans (hb1.mono HW.out.1.size)
  obtain ⟨p0, p1, p2, p3, pl⟩ : w1.cell? ⟨w.heap.size, 0, none⟩ = some (.int .i64 st) ∧ w1.cell? ⟨w.heap.size, 1, none⟩ = some (.slice wa wn wc) ∧ w1.cell? ⟨w.heap.size, 2, none⟩ = some (.slice la ln lc) ∧ w1.cell? ⟨w.heap.size, 3, none⟩ = some (.slice xa xn xc) ∧ w.heap.size < w1.heap.size := ⟨cellOfQ m0 0 rfl, cellOfQ m0 1 rfl, cellOfQ m0 2 rfl, cellOfQ m0 3 rfl, ltOfQ m0⟩
  clear hb1 HB HW m0
  by_cases hK0 : K = 0
  case neg =>
    have HR : Hid (C = K ∧ A = -1) := by
      have e : C = K := by rw [HC.out.1, if_pos hK0]
      exact ⟨e, by rw [HC.out.2, e, if_pos hK0]⟩
    have hKb : (K == 0) = false := beq_eq_false_iff_ne.2 hK0
    clear HC
    go_wp2
    go_returns
    exact ⟨by rw [HR.out.1, HR.out.2]; rfl, HB1.out⟩
  have HC2 : Hid (C = (if I < 0 then 4 else 0) ∧ A = if C ≠ 0 then -1 else I) := ⟨by rw [HC.out.1, if_neg (fun e => e hK0)], HC.out.2⟩
  subst hK0
  clear HC
  go_wp2_with (fail)
  refine (HF.out _ HB1.out).mono ?_
  rintro e w2 ⟨rfl, hw2⟩
  subst w2
  by_cases hI0 : I < 0
  · have HR : Hid (C = 4 ∧ A = -1) := by
      have e : C = 4 := by rw [HC2.out.1, if_pos hI0]
      exact ⟨e, by rw [HC2.out.2, e, if_pos (by decide)]⟩
    clear HC2
    go_wp2
    go_returns
    exact ⟨by rw [HR.out.1, HR.out.2]; rfl, HB1.out⟩
  · have HR : Hid (C = 0 ∧ A = I) := by
      have e : C = 0 := by rw [HC2.out.1, if_neg hI0]
      exact ⟨e, by rw [HC2.out.2, e, if_neg (by decide)]⟩
    clear HC2
    go_wp2
    go_returns
    exact ⟨by rw [HR.out.1, HR.out.2]; rfl, HB1.out⟩

set_option maxRecDepth 10000 in
set_option maxHeartbeats 3200000 in
theorem spec_wl {st : Int} {w : World} {vw vl vs : Value} {b : Bk} (id now : Int) (hst : b.st = st) (hs : smBk 1048576 b) (h : RdX w vw vl vs b) :
    Calls Try.prog 16 #[.agg #[.int .i64 st, vw, vl, vs], .int .i64 id, .int .i64 now] w fun e w' => e = .returned (.agg #[.int .i64 (wlC b id now), .int .i64 (wlV b id now)]) ∧ Below w.heap.size w w' := by
  obtain ⟨wa, wc, e1⟩ := h.wn.form
  obtain ⟨la, lc, e2⟩ := h.ls.rlo.form
  obtain ⟨xa, xc, e3⟩ := h.sc.form
  subst e1 e2 e3
  obtain ⟨wn, hwn⟩ : ∃ n, n = b.wn.length := ⟨_, rfl⟩
  obtain ⟨ln, hln⟩ : ∃ n, n = b.ls.length := ⟨_, rfl⟩
  obtain ⟨xn, hxn⟩ : ∃ n, n = b.sc.length := ⟨_, rfl⟩
  rw [← hwn, ← hln, ← hxn] at h ⊢
  obtain ⟨A, hA⟩ : ∃ K, K = bgA b id := ⟨_, rfl⟩
  obtain ⟨C, hC⟩ : ∃ K, K = bgC b id := ⟨_, rfl⟩
  obtain ⟨RC, hRC⟩ : ∃ K, K = wlC b id now := ⟨_, rfl⟩
  obtain ⟨RV, hRV⟩ : ∃ K, K = wlV b id now := ⟨_, rfl⟩
  rw [← hRC, ← hRV]
  obtain ⟨W, hW⟩ : ∃ W, W = (w.alloc (.cells #[.int .i64 st, .slice wa wn wc, .slice la ln lc, .slice xa xn xc] 31)).alloc (.cells #[.int .i64 0, .int .i64 0] 42) := ⟨_, rfl⟩
  have HW : Hid (Below w.heap.size w W ∧ W.heap[w.heap.size]? = some (.cells #[.int .i64 st, .slice wa wn wc, .slice la ln lc, .slice xa xn xc] 31) ∧ W.heap[w.heap.size + 1]? = some (.cells #[.int .i64 0, .int .i64 0] 42)) := by
    rw [hW]
    refine ⟨by (repeat' (first | (with_reducible exact Below.refl _ _) | (with_reducible assumption) | (with_reducible refine Below.setCell ?_ ?_ _) | (with_reducible refine Below.alloc ?_ ?_ _) | (with_reducible refine below_drewN ?_ _) | (with_reducible refine Below.drew ?_) | (with_reducible exact Nat.le_refl _) | omega | (simp; done) | (simp; omega))), (Below.heap_alloc _ _ _ (by simp)).trans (heap_alloc_new w _), ?_⟩
    have := heap_alloc_new (w.alloc (.cells #[.int .i64 st, .slice wa wn wc, .slice la ln lc, .slice xa xn xc] 31)) (.cells #[.int .i64 0, .int .i64 0] 42); simpa using this
  have HB : Hid (Calls Try.prog 29 #[.agg #[.int .i64 st, .slice wa wn wc, .slice la ln lc, .slice xa xn xc], .int .i64 id] W fun e w' => e = .returned (.tuple #[.int .i64 A, .int .i64 C]) ∧ Below W.heap.size W w') := by rw [hA, hC]; exact spec_beg id hst hs (h.below HW.out.1)
  have HI : Hid (∀ W q, q = decide (0 ≤ now ∧ now ≤ 1000000000) → Calls Try.prog 31 #[.int .i64 now, .int .i64 0, .int .i64 1000000000] W fun e w' => e = .returned (.bool q) ∧ w' = W) := fun W q hq => spec_ins now 0 1000000000 q hq W
  have HR0 : Hid (RdX w (.slice wa wn wc) (.slice la ln lc) (.slice xa xn xc) b ∧ A = bgA b id ∧ C = bgC b id ∧ RC = wlC b id now ∧ RV = wlV b id now ∧ wn = b.wn.length ∧ ln = b.ls.length) := ⟨h, hA, hC, hRC, hRV, hwn, hln⟩
  clear h hs hst hwn hln hxn hA hC hRC hRV
  go_enter Try.func16, Try.ntmps16
  go_wp2_with (fail)
  rw [← hW]
  clear hW
  refine HB.out.mono ?_
  rintro e w1 ⟨rfl, hb1⟩
  have m0 := (hb1.block _ (ltOfQ HW.out.2.1)).trans HW.out.2.1
  have m1 := (hb1.block _ (ltOfQ HW.out.2.2)).trans HW.out.2.2
  have HE : Hid (Below w.heap.size w w1) := HW.out.1.trans (hb1.mono HW.out.1.size)
  have HM : Hid (w1.heap[w.heap.size]? = some (.cells #[.int .i64 st, .slice wa wn wc, .slice la ln lc, .slice xa xn xc] 31) ∧ w1.heap[w.heap.size + 1]? = some (.cells #[.int .i64 0, .int .i64 0] 42)) := ⟨m0, m1⟩
  have r0 := cellOfQ m1 0 rfl
  have r1 := cellOfQ m1 1 rfl
  have rl := ltOfQ m1
  have rf0 := frozOfQ m1 0
  have rf1 := frozOfQ m1 1
  obtain ⟨p0, p1, p2, p3, pl⟩ : w1.cell? ⟨w.heap.size, 0, none⟩ = some (.int .i64 st) ∧ w1.cell? ⟨w.heap.size, 1, none⟩ = some (.slice wa wn wc) ∧ w1.cell? ⟨w.heap.size, 2, none⟩ = some (.slice la ln lc) ∧ w1.cell? ⟨w.heap.size, 3, none⟩ = some (.slice xa xn xc) ∧ w.heap.size < w1.heap.size := ⟨cellOfQ m0 0 rfl, cellOfQ m0 1 rfl, cellOfQ m0 2 rfl, cellOfQ m0 3 rfl, ltOfQ m0⟩
  clear hb1 HB HW m0 m1
  by_cases hC0 : C = 0
  case neg =>
    have HR : Hid (RC = C ∧ RV = 0) := by
      have e : bgC b id ≠ 0 := by rw [← HR0.out.2.2.1]; exact hC0
      exact ⟨by rw [HR0.out.2.2.2.1, wlC, if_pos e, HR0.out.2.2.1], by rw [HR0.out.2.2.2.2.1, wlV, if_pos e]⟩
    have hCb : (C == 0) = false := beq_eq_false_iff_ne.2 hC0
    go_wp2
    try simp only [Exit.inBlock, Exit.then]
    refine bodyPost_ret (by simp [results, Try.results16, go_sem, r0, r1, rl, rf0, rf1]; try rfl) rfl ⟨by rw [HR.out.1, HR.out.2], ?_⟩
    have hb := HE.out
    (repeat' (first | (with_reducible exact Below.refl _ _) | (with_reducible assumption) | (with_reducible refine Below.setCell ?_ ?_ _) | (with_reducible refine Below.alloc ?_ ?_ _) | (with_reducible refine below_drewN ?_ _) | (with_reducible refine Below.drew ?_) | (with_reducible exact Nat.le_refl _) | omega | (simp; done) | (simp; omega)))
  have HC0 : Hid (bgC b id = 0) := by unfold Hid; rw [← HR0.out.2.2.1]; exact hC0
  subst hC0
  by_cases hN : 0 ≤ now ∧ now ≤ 1000000000
  case neg =>
    have HR : Hid (RC = 3 ∧ RV = 0) := ⟨by rw [HR0.out.2.2.2.1, wlC, if_neg (fun e => e HC0.out), if_neg hN], by rw [HR0.out.2.2.2.2.1, wlV, if_neg (fun e => e HC0.out), if_neg hN]⟩
    have HD : Hid (false = decide (0 ≤ now ∧ now ≤ 1000000000)) := by unfold Hid; rw [decide_eq_false hN]
    clear hN
    go_wp2_with (fail)
    refine (HI.out _ false HD.out).mono ?_
    rintro e w2 ⟨rfl, hw2⟩
    subst w2
    go_wp2
    try simp only [Exit.inBlock, Exit.then]
    refine bodyPost_ret (by simp [results, Try.results16, go_sem, r0, r1, rl, rf0, rf1]; try rfl) rfl ⟨by rw [HR.out.1, HR.out.2], ?_⟩
    have hb := HE.out
    (repeat' (first | (with_reducible exact Below.refl _ _) | (with_reducible assumption) | (with_reducible refine Below.setCell ?_ ?_ _) | (with_reducible refine Below.alloc ?_ ?_ _) | (with_reducible refine below_drewN ?_ _) | (with_reducible refine Below.drew ?_) | (with_reducible exact Nat.le_refl _) | omega | (simp; done) | (simp; omega)))
  have HD : Hid (true = decide (0 ≤ now ∧ now ≤ 1000000000)) := by unfold Hid; rw [decide_eq_true hN]
  obtain ⟨hG, i, hi, hfi, hid⟩ := bgC_cases HC0.out
  obtain ⟨d, hd⟩ : ∃ d, d = b.ls[i].dn := ⟨_, rfl⟩
  obtain ⟨dn, hdn⟩ : ∃ n, n = d.length := ⟨_, rfl⟩
  have HS : Hid (RC = (if (liW b.wn dn d now wn).length = 0 then 6 else 0) ∧ RV = leL (liW b.wn dn d now wn)) := by
    have e := wlL_at (now := now) hi hfi
    rw [← HR0.out.2.2.2.2.2.1, ← hd, ← hdn] at e
    exact ⟨by rw [HR0.out.2.2.2.1, wlC, if_neg (fun e => e HC0.out), if_pos hN, e], by rw [HR0.out.2.2.2.2.1, wlV, if_neg (fun e => e HC0.out), if_pos hN, e]⟩
  have hAi : A = (i : Int) := by rw [HR0.out.2.1, bgA, if_neg (fun e => e HC0.out)]; exact hfi
  subst hAi
  have HWD : Hid (∀ j (h : j < b.wn.length), 0 ≤ b.wn[j].f ∧ b.wn[j].f < b.wn[j].t ∧ b.wn[j].t < 41 ∧ 0 ≤ b.wn[j].m ∧ b.wn[j].m ≤ 1000000000) := fun j hj => by have h1 := hG.wd j hj; have h2 := hG.st; omega
  have HTM : Hid (∀ k, k < d.length → 0 ≤ d.getD k 0 ∧ d.getD k 0 ≤ 1000000000) := fun k hk => by
    have := hG.tm i hi k (by rw [← hd]; exact hk)
    rw [show d.getD k 0 = d[k] from by simp [List.getD, hk]]
    subst hd; exact this
  have hwn10 : wn ≤ 10 := by rw [HR0.out.2.2.2.2.2.1]; exact hG.wn
  have hln30 : ln ≤ 30 := by rw [HR0.out.2.2.2.2.2.2]; exact hG.ls
  obtain ⟨g, o, c2, he, hg, x, hx, _, c0, c1, c2x, c3, c4⟩ := (HR0.out.1.ls.below HE.out).at hi
  simp only [Value.slice.injEq] at he
  obtain ⟨rfl, hx1, hx2⟩ := he
  have b0 : (0 : Int) ≤ (i : Int) := by omega
  have b1 : (i : Int) < (ln : Int) := by omega
  have HDN : Hid (RdI w1 (.slice x.da x.dn x.dc) d) := by rw [hd]; exact hx.dn
  have hxd : x.dn = dn := by rw [hdn]; exact HDN.out.len
  have hxd2 : x.dn = d.length := by rw [hxd, hdn]
  clear hx1 hx2 hx hfi hid hd hG
  obtain ⟨x1, x2, x3, x4, x5, x6, x7, x8, x9⟩ := x
  simp only at c0 c1 c2x c3 c4 HDN hxd hxd2
  subst hxd
  obtain ⟨V, hV⟩ : ∃ V, V = w1.alloc (.cells #[.int .i64 x1, .int .i64 x2, .slice x3 x4 x5, .bool x6, .slice x7 x8 x9] 59) := ⟨_, rfl⟩
  have HV : Hid (Below w.heap.size w V ∧ Below w1.heap.size w1 V ∧ V.heap[w1.heap.size]? = some (.cells #[.int .i64 x1, .int .i64 x2, .slice x3 x4 x5, .bool x6, .slice x7 x8 x9] 59)) := by
    have hbb : Below w1.heap.size w1 V := by rw [hV]; (repeat' (first | (with_reducible exact Below.refl _ _) | (with_reducible assumption) | (with_reducible refine Below.setCell ?_ ?_ _) | (with_reducible refine Below.alloc ?_ ?_ _) | (with_reducible refine below_drewN ?_ _) | (with_reducible refine Below.drew ?_) | (with_reducible exact Nat.le_refl _) | omega | (simp; done) | (simp; omega)))
    exact ⟨HE.out.trans (hbb.mono HE.out.size), hbb, by rw [hV]; exact heap_alloc_new _ _⟩
  have HXD : Hid (x8 = d.length) := hxd2
  clear hxd2 hdn hi
  go_wp2_with (fail)
  refine (HI.out _ true HD.out).mono ?_
  rintro e w2 ⟨rfl, hw2⟩
  subst w2
  go_wp2
  rw [← hV]
  clear hV c0 c1 c2x c3 c4 hg p0 p1 p2 p3 pl r0 r1 rl rf0 rf1 HI HD b0 b1
  go_loopw [11, 12, 13] (fun f l i wr => ∃ (j : Nat) (q : Bool) (y : Int), j ≤ wn ∧ f = .bool q ∧ l = .int .i64 y ∧ i = .int .i64 j ∧ Hid (q = decide (0 < (liW b.wn x8 d now j).length) ∧ y = leL (liW b.wn x8 d now j) ∧ Below V.heap.size V wr)) (fun _ _ i _ => wn - (intOf i).toNat)
  case atStart => exact ⟨0, false, 0, Nat.zero_le _, rfl, rfl, rfl, rfl, rfl, Below.refl _ _⟩
  case round =>
    obtain ⟨j, q, y, hjn, rfl, rfl, rfl, hR⟩ := hrel
    have hBB : Below w1.heap.size w1 wr := HV.out.2.1.trans (hR.out.2.2.mono HV.out.2.1.size)
    have m0 := (hBB.block _ (ltOfQ HM.out.1)).trans HM.out.1
    have m1 := (hBB.block _ (ltOfQ HM.out.2)).trans HM.out.2
    have mL := (hR.out.2.2.block _ (ltOfQ HV.out.2.2)).trans HV.out.2.2
    obtain ⟨p0, p1, p2, p3, pl⟩ : wr.cell? ⟨w.heap.size, 0, none⟩ = some (.int .i64 st) ∧ wr.cell? ⟨w.heap.size, 1, none⟩ = some (.slice wa wn wc) ∧ wr.cell? ⟨w.heap.size, 2, none⟩ = some (.slice (some ⟨g, o, none⟩) ln lc) ∧ wr.cell? ⟨w.heap.size, 3, none⟩ = some (.slice xa xn xc) ∧ w.heap.size < wr.heap.size := ⟨cellOfQ m0 0 rfl, cellOfQ m0 1 rfl, cellOfQ m0 2 rfl, cellOfQ m0 3 rfl, ltOfQ m0⟩
    have HE : Hid (Below w.heap.size w wr) := HV.out.1.trans (hR.out.2.2.mono HV.out.1.size)
    by_cases hlt : j < wn
    · have hjl : j < b.wn.length := by rw [← HR0.out.2.2.2.2.2.1]; exact hlt
      obtain ⟨g2, o2, c2, he, hg2, hj⟩ := (HR0.out.1.wn.below HE.out).pos (by omega)
      simp only [Value.slice.injEq] at he
      obtain ⟨rfl, hx1, hx2⟩ := he
      clear hx1 hx2
      obtain ⟨c0, c1, c2'⟩ := wdC_at (hj j hjl)
      obtain ⟨u, hu⟩ : ∃ x, x = b.wn[j] := ⟨_, rfl⟩
      have hwd := HWD.out j hjl
      rw [← hu] at c0 c1 c2' hwd
      have HN : Hid ((wdO x8 u → liW b.wn x8 d now (j + 1) = liW b.wn x8 d now j ++ [wdL d now u]) ∧ (¬ wdO x8 u → liW b.wn x8 d now (j + 1) = liW b.wn x8 d now j)) := by
        have e : b.wn.getD j wdD = u := by rw [hu]; simp [List.getD, hjl]
        exact ⟨fun h => by rw [liW, e, if_pos h], fun h => by rw [liW, e, if_neg h]⟩
      clear hj hu hjl m0 m1
      obtain ⟨uf, ut, um⟩ := u
      simp only at c0 c1 c2' hwd
      obtain ⟨k, rfl⟩ : ∃ k : Nat, uf = (k : Int) := ⟨uf.toNat, by omega⟩
      obtain ⟨V2, hV2⟩ : ∃ V2, V2 = wr.alloc (.cells #[.int .i64 (k : Int), .int .i64 ut, .int .i64 um] 62) := ⟨_, rfl⟩
      have HV2 : Hid (Below V.heap.size V V2) := by
        have hbb : Below wr.heap.size wr V2 := by rw [hV2]; (repeat' (first | (with_reducible exact Below.refl _ _) | (with_reducible assumption) | (with_reducible refine Below.setCell ?_ ?_ _) | (with_reducible refine Below.alloc ?_ ?_ _) | (with_reducible refine below_drewN ?_ _) | (with_reducible refine Below.drew ?_) | (with_reducible exact Nat.le_refl _) | omega | (simp; done) | (simp; omega)))
        exact hR.out.2.2.trans (hbb.mono hR.out.2.2.size)
      have n4 := cellOfQ mL 4 rfl
      have nl := ltOfQ mL
      have b0 : (0 : Int) ≤ (j : Int) := by omega
      have b1 : (j : Int) < (wn : Int) := by omega
      have HQ : Hid (q = decide (0 < (liW b.wn x8 d now j).length) ∧ y = leL (liW b.wn x8 d now j)) := ⟨hR.out.1, hR.out.2.1⟩
      have HWR : Hid (Below w1.heap.size w1 wr) := hBB
      clear hR mL hBB
      by_cases d1 : (x8 : Int) ≤ (k : Int)
      · have HT : Hid (liW b.wn x8 d now (j + 1) = liW b.wn x8 d now j) := HN.out.2 (fun h => by unfold wdO at h; simp only at h; omega)
        clear HN hwd
        go_wp2
        rw [← hV2]
        go_roundw
        case rel => exact ⟨j + 1, q, y, by omega, rfl, rfl, by go_num, by rw [HT.out]; exact HQ.out.1, by rw [HT.out]; exact HQ.out.2, HV2.out⟩
        case measure => simp [intOf]; omega
      by_cases d2 : ut < (x8 : Int)
      · have HT : Hid (liW b.wn x8 d now (j + 1) = liW b.wn x8 d now j) := HN.out.2 (fun h => by unfold wdO at h; simp only at h; omega)
        clear HN hwd
        go_wp2
        rw [← hV2]
        go_roundw
        case rel => exact ⟨j + 1, q, y, by omega, rfl, rfl, by go_num, by rw [HT.out]; exact HQ.out.1, by rw [HT.out]; exact HQ.out.2, HV2.out⟩
        case measure => simp [intOf]; omega
      have hT : liW b.wn x8 d now (j + 1) = liW b.wn x8 d now j ++ [wdL d now ⟨(k : Int), ut, um⟩] := HN.out.1 (by unfold wdO; simp only; omega)
      have hkd : k < d.length := by have := HXD.out; omega
      obtain ⟨g3, o3, ha, hg3, hc3⟩ := rd_at (HDN.out.below HWR.out) (j := k) (by have := HXD.out; omega)
      have ht := HTM.out k hkd
      unfold wdL at hT
      simp only [Int.toNat_natCast] at hT
      obtain ⟨z, hz⟩ : ∃ z, z = d.getD k 0 := ⟨_, rfl⟩
      rw [← hz] at ht hc3 hT
      obtain ⟨L, hL⟩ : ∃ L, L = um - (now - z) := ⟨_, rfl⟩
      rw [← hL] at hT
      have k1 : IntKind.i64.wrap (now - z) = now - z := by rw [IntKind.wrap_i64]; omega
      have k2 : IntKind.i64.wrap (um - (now - z)) = L := by rw [IntKind.wrap_i64, hL]; omega
      have HT : Hid (liW b.wn x8 d now (j + 1) = liW b.wn x8 d now j ++ [L]) := hT
      have HLE : Hid (leL (liW b.wn x8 d now (j + 1)) = (if q = false ∨ L < y then L else y) ∧ true = decide (0 < (liW b.wn x8 d now (j + 1)).length)) := by
        refine ⟨?_, by rw [hT]; simp⟩
        rw [hT, leL_app, ← HQ.out.2]
        have e : ((liW b.wn x8 d now j).length = 0 ∨ L < y) ↔ (q = false ∨ L < y) := by
          rw [HQ.out.1]; simp
        by_cases h9 : q = false ∨ L < y
        · rw [if_pos h9, if_pos (e.2 h9)]
        · rw [if_neg h9, if_neg (fun h => h9 (e.1 h))]
      subst ha
      have b2 : (0 : Int) ≤ (k : Int) := by omega
      have b3 : (k : Int) < (x8 : Int) := by omega
      clear HN hT ht hz hL HT HQ hkd hwd
      have hbb2 : Below wr.heap.size wr V2 := by rw [hV2]; (repeat' (first | (with_reducible exact Below.refl _ _) | (with_reducible assumption) | (with_reducible refine Below.setCell ?_ ?_ _) | (with_reducible refine Below.alloc ?_ ?_ _) | (with_reducible refine below_drewN ?_ _) | (with_reducible refine Below.drew ?_) | (with_reducible exact Nat.le_refl _) | omega | (simp; done) | (simp; omega)))
      have hx2 : V2.heap[wr.heap.size]? = some (.cells #[.int .i64 (k : Int), .int .i64 ut, .int .i64 um] 62) := by rw [hV2]; exact heap_alloc_new _ _
      have q0 := cellOfQ hx2 0 rfl
      have q2 := cellOfQ hx2 2 rfl
      have ql := ltOfQ hx2
      have s4 := (hbb2.cell (p := ⟨w1.heap.size, 4, none⟩) nl).trans n4
      have sl : w1.heap.size < V2.heap.size := Nat.lt_of_lt_of_le nl hbb2.size
      have s5 := (hbb2.cell (p := ⟨g3, o3 + k, none⟩) hg3).trans hc3
      have s5l : g3 < V2.heap.size := Nat.lt_of_lt_of_le hg3 hbb2.size
      clear hbb2 hx2 hc3 hg3
      cases q
      · have HY : Hid (L = leL (liW b.wn x8 d now (j + 1))) := by unfold Hid; rw [HLE.out.1, if_pos (Or.inl rfl)]
        go_wp2
        rw [← hV2]
        clear hV2
        refine wp_region_float (by kernel_rfl) (fun hS => ?_)
        refine fl_take (i := 0) (d := 60) (v := .pointer (some ⟨wr.heap.size, 2, none⟩)) rfl rfl rfl (by kernel_rfl) (by kernel_rfl) (by kernel_rfl) hS ?_ ?_
        · intro w' hk; go_simp
        simp only [Act.put, List.setIfInBounds_toArray, List.set_cons_zero, List.set_cons_succ]
        refine fl_take (i := 1) (d := 61) (v := .int .i64 um) rfl rfl rfl (by kernel_rfl) (by kernel_rfl) (by kernel_rfl) hS ?_ ?_
        · intro w' hk; go_simp
        simp only [Act.put, List.setIfInBounds_toArray, List.set_cons_zero, List.set_cons_succ]
        refine fl_take (i := 2) (d := 62) (v := .int .i64 now) rfl rfl rfl (by kernel_rfl) (by kernel_rfl) (by kernel_rfl) hS ?_ ?_
        · intro w' hk; go_simp
        simp only [Act.put, List.setIfInBounds_toArray, List.set_cons_zero, List.set_cons_succ]
        refine fl_take (i := 3) (d := 63) (v := .pointer (some ⟨w1.heap.size, 4, none⟩)) rfl rfl rfl (by kernel_rfl) (by kernel_rfl) (by kernel_rfl) hS ?_ ?_
        · intro w' hk; go_simp
        simp only [Act.put, List.setIfInBounds_toArray, List.set_cons_zero, List.set_cons_succ]
        refine fl_take (i := 4) (d := 64) (v := .slice (some ⟨g3, o3, none⟩) x8 x9) rfl rfl rfl (by kernel_rfl) (by kernel_rfl) (by kernel_rfl) hS ?_ ?_
        · intro w' hk; go_simp
        simp only [Act.put, List.setIfInBounds_toArray, List.set_cons_zero, List.set_cons_succ]
        refine fl_take (i := 5) (d := 65) (v := .pointer (some ⟨wr.heap.size, 0, none⟩)) rfl rfl rfl (by kernel_rfl) (by kernel_rfl) (by kernel_rfl) hS ?_ ?_
        · intro w' hk; go_simp
        simp only [Act.put, List.setIfInBounds_toArray, List.set_cons_zero, List.set_cons_succ]
        refine fl_take (i := 6) (d := 66) (v := .int .i64 (k : Int)) rfl rfl rfl (by kernel_rfl) (by kernel_rfl) (by kernel_rfl) hS ?_ ?_
        · intro w' hk; go_simp
        simp only [Act.put, List.setIfInBounds_toArray, List.set_cons_zero, List.set_cons_succ]
        refine fl_take (i := 7) (d := 67) (v := .pointer (some ⟨g3, o3 + k, none⟩)) rfl rfl rfl (by kernel_rfl) (by kernel_rfl) (by kernel_rfl) hS ?_ ?_
        · intro w' hk; go_simp
        simp only [Act.put, List.setIfInBounds_toArray, List.set_cons_zero, List.set_cons_succ]
        refine fl_take (i := 8) (d := 68) (v := .int .i64 z) rfl rfl rfl (by kernel_rfl) (by kernel_rfl) (by kernel_rfl) hS ?_ ?_
        · intro w' hk; go_simp
        simp only [Act.put, List.setIfInBounds_toArray, List.set_cons_zero, List.set_cons_succ]
        refine fl_take (i := 9) (d := 69) (v := .int .i64 (now - z)) rfl rfl rfl (by kernel_rfl) (by kernel_rfl) (by kernel_rfl) hS ?_ ?_
        · intro w' hk; go_simp
        simp only [Act.put, List.setIfInBounds_toArray, List.set_cons_zero, List.set_cons_succ]
        refine fl_take (i := 10) (d := 70) (v := .int .i64 L) rfl rfl rfl (by kernel_rfl) (by kernel_rfl) (by kernel_rfl) hS ?_ ?_
        · intro w' hk; go_simp
        simp only [Act.put, List.setIfInBounds_toArray, List.set_cons_zero, List.set_cons_succ]
        refine fl_take (i := 11) (d := 15) (v := .int .i64 L) rfl rfl rfl (by kernel_rfl) (by kernel_rfl) (by kernel_rfl) hS ?_ ?_
        · intro w' hk; go_simp
        simp only [Act.put, List.setIfInBounds_toArray, List.set_cons_zero, List.set_cons_succ]
        refine wpAnyH_done (by kernel_rfl) (NoPanic.normal ?_) _
        go_wp2
        go_roundw
        case rel => exact ⟨j + 1, true, L, by omega, rfl, rfl, by go_num, HLE.out.2, HY.out, HV2.out.trans (hS.2.mono HV2.out.size)⟩
        case measure => simp [intOf]; omega
      by_cases d3 : L < y
      · have HY : Hid (L = leL (liW b.wn x8 d now (j + 1))) := by unfold Hid; rw [HLE.out.1, if_pos (Or.inr d3)]
        go_wp2
        rw [← hV2]
        clear hV2
        refine wp_region_float (by kernel_rfl) (fun hS => ?_)
        refine fl_take (i := 0) (d := 60) (v := .pointer (some ⟨wr.heap.size, 2, none⟩)) rfl rfl rfl (by kernel_rfl) (by kernel_rfl) (by kernel_rfl) hS ?_ ?_
        · intro w' hk; go_simp
        simp only [Act.put, List.setIfInBounds_toArray, List.set_cons_zero, List.set_cons_succ]
        refine fl_take (i := 1) (d := 61) (v := .int .i64 um) rfl rfl rfl (by kernel_rfl) (by kernel_rfl) (by kernel_rfl) hS ?_ ?_
        · intro w' hk; go_simp
        simp only [Act.put, List.setIfInBounds_toArray, List.set_cons_zero, List.set_cons_succ]
        refine fl_take (i := 2) (d := 62) (v := .int .i64 now) rfl rfl rfl (by kernel_rfl) (by kernel_rfl) (by kernel_rfl) hS ?_ ?_
        · intro w' hk; go_simp
        simp only [Act.put, List.setIfInBounds_toArray, List.set_cons_zero, List.set_cons_succ]
        refine fl_take (i := 3) (d := 63) (v := .pointer (some ⟨w1.heap.size, 4, none⟩)) rfl rfl rfl (by kernel_rfl) (by kernel_rfl) (by kernel_rfl) hS ?_ ?_
        · intro w' hk; go_simp
        simp only [Act.put, List.setIfInBounds_toArray, List.set_cons_zero, List.set_cons_succ]
        refine fl_take (i := 4) (d := 64) (v := .slice (some ⟨g3, o3, none⟩) x8 x9) rfl rfl rfl (by kernel_rfl) (by kernel_rfl) (by kernel_rfl) hS ?_ ?_
        · intro w' hk; go_simp
        simp only [Act.put, List.setIfInBounds_toArray, List.set_cons_zero, List.set_cons_succ]
        refine fl_take (i := 5) (d := 65) (v := .pointer (some ⟨wr.heap.size, 0, none⟩)) rfl rfl rfl (by kernel_rfl) (by kernel_rfl) (by kernel_rfl) hS ?_ ?_
        · intro w' hk; go_simp
        simp only [Act.put, List.setIfInBounds_toArray, List.set_cons_zero, List.set_cons_succ]
        refine fl_take (i := 6) (d := 66) (v := .int .i64 (k : Int)) rfl rfl rfl (by kernel_rfl) (by kernel_rfl) (by kernel_rfl) hS ?_ ?_
        · intro w' hk; go_simp
        simp only [Act.put, List.setIfInBounds_toArray, List.set_cons_zero, List.set_cons_succ]
        refine fl_take (i := 7) (d := 67) (v := .pointer (some ⟨g3, o3 + k, none⟩)) rfl rfl rfl (by kernel_rfl) (by kernel_rfl) (by kernel_rfl) hS ?_ ?_
        · intro w' hk; go_simp
        simp only [Act.put, List.setIfInBounds_toArray, List.set_cons_zero, List.set_cons_succ]
        refine fl_take (i := 8) (d := 68) (v := .int .i64 z) rfl rfl rfl (by kernel_rfl) (by kernel_rfl) (by kernel_rfl) hS ?_ ?_
        · intro w' hk; go_simp
        simp only [Act.put, List.setIfInBounds_toArray, List.set_cons_zero, List.set_cons_succ]
        refine fl_take (i := 9) (d := 69) (v := .int .i64 (now - z)) rfl rfl rfl (by kernel_rfl) (by kernel_rfl) (by kernel_rfl) hS ?_ ?_
        · intro w' hk; go_simp
        simp only [Act.put, List.setIfInBounds_toArray, List.set_cons_zero, List.set_cons_succ]
        refine fl_take (i := 10) (d := 70) (v := .int .i64 L) rfl rfl rfl (by kernel_rfl) (by kernel_rfl) (by kernel_rfl) hS ?_ ?_
        · intro w' hk; go_simp
        simp only [Act.put, List.setIfInBounds_toArray, List.set_cons_zero, List.set_cons_succ]
        refine fl_take (i := 11) (d := 15) (v := .int .i64 L) rfl rfl rfl (by kernel_rfl) (by kernel_rfl) (by kernel_rfl) hS ?_ ?_
        · intro w' hk; go_simp
        simp only [Act.put, List.setIfInBounds_toArray, List.set_cons_zero, List.set_cons_succ]
        refine wpAnyH_done (by kernel_rfl) (NoPanic.normal ?_) _
        go_wp2
        go_roundw
        case rel => exact ⟨j + 1, true, L, by omega, rfl, rfl, by go_num, HLE.out.2, HY.out, HV2.out.trans (hS.2.mono HV2.out.size)⟩
        case measure => simp [intOf]; omega
      · have HY : Hid (y = leL (liW b.wn x8 d now (j + 1))) := by unfold Hid; rw [HLE.out.1, if_neg (by simp [d3])]
        go_wp2
        rw [← hV2]
        clear hV2
        refine wp_region_float (by kernel_rfl) (fun hS => ?_)
        refine fl_take (i := 0) (d := 60) (v := .pointer (some ⟨wr.heap.size, 2, none⟩)) rfl rfl rfl (by kernel_rfl) (by kernel_rfl) (by kernel_rfl) hS ?_ ?_
        · intro w' hk; go_simp
        simp only [Act.put, List.setIfInBounds_toArray, List.set_cons_zero, List.set_cons_succ]
        refine fl_take (i := 1) (d := 61) (v := .int .i64 um) rfl rfl rfl (by kernel_rfl) (by kernel_rfl) (by kernel_rfl) hS ?_ ?_
        · intro w' hk; go_simp
        simp only [Act.put, List.setIfInBounds_toArray, List.set_cons_zero, List.set_cons_succ]
        refine fl_take (i := 2) (d := 62) (v := .int .i64 now) rfl rfl rfl (by kernel_rfl) (by kernel_rfl) (by kernel_rfl) hS ?_ ?_
        · intro w' hk; go_simp
        simp only [Act.put, List.setIfInBounds_toArray, List.set_cons_zero, List.set_cons_succ]
        refine fl_take (i := 3) (d := 63) (v := .pointer (some ⟨w1.heap.size, 4, none⟩)) rfl rfl rfl (by kernel_rfl) (by kernel_rfl) (by kernel_rfl) hS ?_ ?_
        · intro w' hk; go_simp
        simp only [Act.put, List.setIfInBounds_toArray, List.set_cons_zero, List.set_cons_succ]
        refine fl_take (i := 4) (d := 64) (v := .slice (some ⟨g3, o3, none⟩) x8 x9) rfl rfl rfl (by kernel_rfl) (by kernel_rfl) (by kernel_rfl) hS ?_ ?_
        · intro w' hk; go_simp
        simp only [Act.put, List.setIfInBounds_toArray, List.set_cons_zero, List.set_cons_succ]
        refine fl_take (i := 5) (d := 65) (v := .pointer (some ⟨wr.heap.size, 0, none⟩)) rfl rfl rfl (by kernel_rfl) (by kernel_rfl) (by kernel_rfl) hS ?_ ?_
        · intro w' hk; go_simp
        simp only [Act.put, List.setIfInBounds_toArray, List.set_cons_zero, List.set_cons_succ]
        refine fl_take (i := 6) (d := 66) (v := .int .i64 (k : Int)) rfl rfl rfl (by kernel_rfl) (by kernel_rfl) (by kernel_rfl) hS ?_ ?_
        · intro w' hk; go_simp
        simp only [Act.put, List.setIfInBounds_toArray, List.set_cons_zero, List.set_cons_succ]
        refine fl_take (i := 7) (d := 67) (v := .pointer (some ⟨g3, o3 + k, none⟩)) rfl rfl rfl (by kernel_rfl) (by kernel_rfl) (by kernel_rfl) hS ?_ ?_
        · intro w' hk; go_simp
        simp only [Act.put, List.setIfInBounds_toArray, List.set_cons_zero, List.set_cons_succ]
        refine fl_take (i := 8) (d := 68) (v := .int .i64 z) rfl rfl rfl (by kernel_rfl) (by kernel_rfl) (by kernel_rfl) hS ?_ ?_
        · intro w' hk; go_simp
        simp only [Act.put, List.setIfInBounds_toArray, List.set_cons_zero, List.set_cons_succ]
        refine fl_take (i := 9) (d := 69) (v := .int .i64 (now - z)) rfl rfl rfl (by kernel_rfl) (by kernel_rfl) (by kernel_rfl) hS ?_ ?_
        · intro w' hk; go_simp
        simp only [Act.put, List.setIfInBounds_toArray, List.set_cons_zero, List.set_cons_succ]
        refine fl_take (i := 10) (d := 70) (v := .int .i64 L) rfl rfl rfl (by kernel_rfl) (by kernel_rfl) (by kernel_rfl) hS ?_ ?_
        · intro w' hk; go_simp
        simp only [Act.put, List.setIfInBounds_toArray, List.set_cons_zero, List.set_cons_succ]
        refine fl_take (i := 11) (d := 15) (v := .int .i64 L) rfl rfl rfl (by kernel_rfl) (by kernel_rfl) (by kernel_rfl) hS ?_ ?_
        · intro w' hk; go_simp
        simp only [Act.put, List.setIfInBounds_toArray, List.set_cons_zero, List.set_cons_succ]
        refine wpAnyH_done (by kernel_rfl) (NoPanic.normal ?_) _
        go_wp2
        go_roundw
        case rel => exact ⟨j + 1, true, y, by omega, rfl, rfl, by go_num, HLE.out.2, HY.out, HV2.out.trans (hS.2.mono HV2.out.size)⟩
        case measure => simp [intOf]; omega
    · obtain rfl : j = wn := by omega
      have r0 := cellOfQ m1 0 rfl
      have r1 := cellOfQ m1 1 rfl
      have rl := ltOfQ m1
      have rf0 := frozOfQ m1 0
      have rf1 := frozOfQ m1 1
      have HQ : Hid (q = decide (0 < (liW b.wn x8 d now j).length) ∧ y = leL (liW b.wn x8 d now j)) := ⟨hR.out.1, hR.out.2.1⟩
      clear m0 m1 mL hR hBB
      cases q
      · have HR : Hid (RC = 6 ∧ RV = 0) := by
          have h0 : (liW b.wn x8 d now j).length = 0 := by have := of_decide_eq_false HQ.out.1.symm; omega
          refine ⟨by rw [HS.out.1, if_pos h0], ?_⟩
          rw [HS.out.2, List.eq_nil_of_length_eq_zero h0]; rfl
        go_wp2
        try simp only [Exit.inBlock, Exit.then]
        refine bodyPost_ret (by simp [results, Try.results16, go_sem, r0, r1, rl, rf0, rf1]; try rfl) rfl ⟨by rw [HR.out.1, HR.out.2], ?_⟩
        have hb := HE.out
        (repeat' (first | (with_reducible exact Below.refl _ _) | (with_reducible assumption) | (with_reducible refine Below.setCell ?_ ?_ _) | (with_reducible refine Below.alloc ?_ ?_ _) | (with_reducible refine below_drewN ?_ _) | (with_reducible refine Below.drew ?_) | (with_reducible exact Nat.le_refl _) | omega | (simp; done) | (simp; omega)))
      · have HR : Hid (RC = 0 ∧ RV = y) := by
          have h0 := of_decide_eq_true HQ.out.1.symm
          exact ⟨by rw [HS.out.1, if_neg (by omega)], by rw [HS.out.2, HQ.out.2]⟩
        go_wp2
        try simp only [Exit.inBlock, Exit.then]
        refine bodyPost_ret (by simp [results, Try.results16, go_sem, r0, r1, rl, rf0, rf1]; try rfl) rfl ⟨by rw [HR.out.1, HR.out.2], ?_⟩
        have hb := HE.out
        (repeat' (first | (with_reducible exact Below.refl _ _) | (with_reducible assumption) | (with_reducible refine Below.setCell ?_ ?_ _) | (with_reducible refine Below.alloc ?_ ?_ _) | (with_reducible refine below_drewN ?_ _) | (with_reducible refine Below.drew ?_) | (with_reducible exact Nat.le_refl _) | omega | (simp; done) | (simp; omega)))

end Go.Proofs.Ytbkklnbcoegamaa
