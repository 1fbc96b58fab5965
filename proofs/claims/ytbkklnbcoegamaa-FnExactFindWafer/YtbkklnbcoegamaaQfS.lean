/- Proved here: l21Owner and FindWafer of the model. -/
import Derived.Test.YtbkklnbcoegamaaQfM
import Derived.Test.YtbkklnbcoegamaaQbV
namespace Go.Proofs.Ytbkklnbcoegamaa
open Go.RowKit Go.Maps
set_option linter.unusedVariables false
set_option linter.unusedSimpArgs false

set_option maxRecDepth 10000 in
set_option maxHeartbeats 3200000 in
theorem spec_ow (st : Int) {w : World} {vw vl vs : Value} {b : Bk} {x : Int} (hs : smBk 1048576 b) (h : RdBk w vw vl vs b) :
    Calls Try.prog 51 #[.agg #[.int .i64 st, vw, vl, vs], .int .i64 x] w fun e w' => e = .returned (.int .i64 (owI b.ls x b.ls.length)) ∧ Below w.heap.size w w' := by
  obtain ⟨wa, wc, e1⟩ := h.wn.form
  obtain ⟨la, lc, e2⟩ := h.ls.form
  obtain ⟨xa, xc, e3⟩ := h.sc.form
  subst e1 e2 e3
  obtain ⟨wn, hwn⟩ : ∃ n, n = b.wn.length := ⟨_, rfl⟩
  obtain ⟨ln, hln⟩ : ∃ n, n = b.ls.length := ⟨_, rfl⟩
  obtain ⟨xn, hxn⟩ : ∃ n, n = b.sc.length := ⟨_, rfl⟩
  rw [← hwn, ← hln, ← hxn] at h ⊢
  obtain ⟨K, hK⟩ : ∃ K, K = owI b.ls x b.ls.length := ⟨_, rfl⟩
  rw [hln, ← hK]
  rw [← hln]
  obtain ⟨W, hW⟩ : ∃ W, W = w.alloc (.cells #[.int .i64 st, .slice wa wn wc, .slice la ln lc, .slice xa xn xc] 31) := ⟨_, rfl⟩
  have HW : Hid (Below w.heap.size w W ∧ W.heap[w.heap.size]? = some (.cells #[.int .i64 st, .slice wa wn wc, .slice la ln lc, .slice xa xn xc] 31)) := by rw [hW]; exact ⟨by (repeat' (first | (with_reducible exact Below.refl _ _) | (with_reducible assumption) | (with_reducible refine Below.setCell ?_ ?_ _) | (with_reducible refine Below.alloc ?_ ?_ _) | (with_reducible refine below_drewN ?_ _) | (with_reducible refine Below.drew ?_) | (with_reducible exact Nat.le_refl _) | omega | (simp; done) | (simp; omega))), heap_alloc_new _ _⟩
  have H : Hid (RdBk w (.slice wa wn wc) (.slice la ln lc) (.slice xa xn xc) b ∧ ln = b.ls.length ∧ K = owI b.ls x b.ls.length ∧ smBk 1048576 b) := ⟨h, hln, hK, hs⟩
  have hl9 : ln ≤ 1048576 := by have := hs.ls; omega
  clear h hs hwn hln hxn hK
  go_enter Try.func51, Try.ntmps51
  go_wp2
  rw [← hW]
  clear hW
  go_loopw [5] (fun i wr => ∃ j : Nat, j ≤ ln ∧ i = .int .i64 j ∧ Hid ((∀ k, k < j → owA b.ls x k ≠ 1) ∧ Below W.heap.size W wr)) (fun i _ => ln - (intOf i).toNat)
  case atStart => exact ⟨0, Nat.zero_le _, rfl, (fun k hk => by omega), Below.refl _ _⟩
  case round =>
    obtain ⟨j, hjn, rfl, hR⟩ := hrel
    have HBW : Hid (Below w.heap.size w wr) := HW.out.1.trans (hR.out.2.mono HW.out.1.size)
    have hm := (hR.out.2.block _ (ltOfQ HW.out.2)).trans HW.out.2
    have p2 := cellOfQ hm 2 rfl
    have pl := ltOfQ hm
    clear hm
    by_cases hlt : j < ln
    · have hjl : j < b.ls.length := by rw [← H.out.2.1]; exact hlt
      obtain ⟨g, o, c2, he, hg, r, hr, c0, c1, c2', c3, c4⟩ := (H.out.1.ls.below HBW.out).at hjl
      simp only [Value.slice.injEq] at he
      obtain ⟨rfl, hx1, hx2⟩ := he
      clear hx1 hx2
      obtain ⟨q, hq⟩ : ∃ q, q = decide (x ∈ b.ls[j].ws) := ⟨_, rfl⟩
      have hrn : r.wn = b.ls[j].ws.length := hr.ws.len
      have HC : Hid (∀ X : Und wr.heap.size wr, Calls Try.prog 52 #[.slice r.wa r.wn r.wc, .int .i64 r.wn, .int .i64 x] X.W fun e w' => e = .returned (.bool q) ∧ w' = X.W) := fun X =>
        spec_hn r.wn x q (by rw [hrn, List.take_length]; exact hq) (by rw [hrn]; exact Nat.le_refl _) (by have := (H.out.2.2.2.at_ j hjl).1; omega) (hr.ws.below X.below)
      have HQ : Hid (q = decide (x ∈ b.ls[j].ws) ∧ j < b.ls.length) := ⟨hq, hjl⟩
      obtain ⟨ri, rp, ua, un, uc, rh, da, dn, dc⟩ := r
      simp only at c2' HC
      clear hq hr hrn c0 c1 c3 c4
      have b0 : (0 : Int) ≤ (j : Int) := by omega
      have b1 : (j : Int) < (ln : Int) := by omega
      go_wp2_with (fail)
      (refine wp_region_und (by kernel_rfl) (by kernel_rfl) (fun hund => ?_); (repeat (go_big_quiet_step (first | (go_at_call 52; with_reducible refine und_call_same (HC.out _))))); with_reducible refine wpQuiet_nil ?_; clear hund; intro W1 hb1; obtain ⟨hc1, hf1⟩ := undcell hb1)
      have HB : Hid (Below W.heap.size W W1 ∧ Below w.heap.size w W1) := ⟨hR.out.2.trans (hb1.mono hR.out.2.size), HBW.out.trans (hb1.mono HBW.out.size)⟩
      clear hb1 hc1 hf1 HC c2' p2 pl
      cases q
      · have HN : Hid ((∀ k, k < j + 1 → owA b.ls x k ≠ 1) ∧ Below W.heap.size W W1) := ⟨fun k hk => by
          rcases (by omega : k < j ∨ k = j) with e | e
          · exact hR.out.1 k e
          · subst e
            exact fun e2 => of_decide_eq_false HQ.out.1.symm ((owA_at HQ.out.2).1 e2), HB.out.1⟩
        clear hR
        go_wp2
        go_roundw
        case rel => exact ⟨j + 1, by omega, by go_num, HN.out⟩
        case measure => simp [intOf]; omega
      · have HR : Hid (K = (j : Int)) := by
          unfold Hid
          rw [H.out.2.2.1]
          exact fdI_is HQ.out.2 ((owA_at HQ.out.2).2 (of_decide_eq_true HQ.out.1.symm)) hR.out.1
        clear hR
        go_wp2
        go_returns
        exact ⟨by rw [HR.out]; rfl, HB.out.2⟩
    · obtain rfl : j = ln := by omega
      have HR : Hid (K = -1) := by unfold Hid; rw [H.out.2.2.1]; exact fdI_no (by rw [← H.out.2.1]; exact hR.out.1)
      clear hR
      go_wp2
      go_returns
      exact ⟨by rw [HR.out]; rfl, HBW.out⟩

set_option maxRecDepth 10000 in
set_option maxHeartbeats 3200000 in
theorem spec_fw {st : Int} {w : World} {vw vl vs : Value} {b : Bk} {x : Int} (hst : b.st = st) (hs : smBk 1048576 b) (h : RdX w vw vl vs b) :
    Calls Try.prog 19 #[.agg #[.int .i64 st, vw, vl, vs], .int .i64 x] w fun e w' => e = .returned (.agg #[.int .i64 (fwC b x), .int .i64 (fwV b x)]) ∧ Below w.heap.size w w' := by
  obtain ⟨wa, wc, e1⟩ := h.wn.form
  obtain ⟨la, lc, e2⟩ := h.ls.rlo.form
  obtain ⟨xa, xc, e3⟩ := h.sc.form
  subst e1 e2 e3
  obtain ⟨wn, hwn⟩ : ∃ n, n = b.wn.length := ⟨_, rfl⟩
  obtain ⟨ln, hln⟩ : ∃ n, n = b.ls.length := ⟨_, rfl⟩
  obtain ⟨xn, hxn⟩ : ∃ n, n = b.sc.length := ⟨_, rfl⟩
  rw [← hwn, ← hln, ← hxn] at h ⊢
  obtain ⟨K, hK⟩ : ∃ K, K = bkF b := ⟨_, rfl⟩
  obtain ⟨W, hW⟩ : ∃ W, W = (w.alloc (.cells #[.int .i64 st, .slice wa wn wc, .slice la ln lc, .slice xa xn xc] 31)).alloc (.cells #[.int .i64 0, .int .i64 0] 42) := ⟨_, rfl⟩
  have HW : Hid (Below w.heap.size w W ∧ W.heap[w.heap.size]? = some (.cells #[.int .i64 st, .slice wa wn wc, .slice la ln lc, .slice xa xn xc] 31) ∧ W.heap[w.heap.size + 1]? = some (.cells #[.int .i64 0, .int .i64 0] 42)) := by
    rw [hW]
    refine ⟨by (repeat' (first | (with_reducible exact Below.refl _ _) | (with_reducible assumption) | (with_reducible refine Below.setCell ?_ ?_ _) | (with_reducible refine Below.alloc ?_ ?_ _) | (with_reducible refine below_drewN ?_ _) | (with_reducible refine Below.drew ?_) | (with_reducible exact Nat.le_refl _) | omega | (simp; done) | (simp; omega))), (Below.heap_alloc _ _ _ (by simp)).trans (heap_alloc_new w _), ?_⟩
    have := heap_alloc_new (w.alloc (.cells #[.int .i64 st, .slice wa wn wc, .slice la ln lc, .slice xa xn xc] 31)) (.cells #[.int .i64 0, .int .i64 0] 42); simpa using this
  have HB : Hid (Calls Try.prog 50 #[.agg #[.int .i64 st, .slice wa wn wc, .slice la ln lc, .slice xa xn xc]] W fun e w' => e = .returned (.int .i64 K) ∧ Below W.heap.size W w') := by rw [hK]; exact spec_bf hst hs (h.below HW.out.1)
  have HR0 : Hid (RdX w (.slice wa wn wc) (.slice la ln lc) (.slice xa xn xc) b ∧ K = bkF b ∧ smBk 1048576 b ∧ ln = b.ls.length ∧ xn = b.sc.length) := ⟨h, hK, hs, hln, hxn⟩
  clear h hs hst hwn hln hxn hK
  go_enter Try.func19, Try.ntmps19
  go_wp2_with (fail)
  rw [← hW]
  clear hW
  refine HB.out.mono ?_
  rintro e w1 ⟨rfl, hb1⟩
  have m0 := (hb1.block _ (ltOfQ HW.out.2.1)).trans HW.out.2.1
  have m1 := (hb1.block _ (ltOfQ HW.out.2.2)).trans HW.out.2.2
  have HB1 : Hid (Below w.heap.size w w1 ∧ w1.heap[w.heap.size]? = some (.cells #[.int .i64 st, .slice wa wn wc, .slice la ln lc, .slice xa xn xc] 31) ∧ w1.heap[w.heap.size + 1]? = some (.cells #[.int .i64 0, .int .i64 0] 42)) := ⟨HW.out.1.trans (hb1.mono HW.out.1.size), m0, m1⟩
  have r0 := cellOfQ m1 0 rfl
  have r1 := cellOfQ m1 1 rfl
  have rl := ltOfQ m1
  have rf0 := frozOfQ m1 0
  have rf1 := frozOfQ m1 1
  obtain ⟨p0, p1, p2, p3, pl⟩ : w1.cell? ⟨w.heap.size, 0, none⟩ = some (.int .i64 st) ∧ w1.cell? ⟨w.heap.size, 1, none⟩ = some (.slice wa wn wc) ∧ w1.cell? ⟨w.heap.size, 2, none⟩ = some (.slice la ln lc) ∧ w1.cell? ⟨w.heap.size, 3, none⟩ = some (.slice xa xn xc) ∧ w.heap.size < w1.heap.size := ⟨cellOfQ m0 0 rfl, cellOfQ m0 1 rfl, cellOfQ m0 2 rfl, cellOfQ m0 3 rfl, ltOfQ m0⟩
  clear hb1 HB HW m0 m1
  by_cases hK0 : K = 0
  case neg =>
    have HC : Hid (fwC b x = K ∧ fwV b x = 0) := by
      unfold Hid fwC fwV
      rw [← HR0.out.2.1, if_pos hK0, if_neg hK0]
      exact ⟨rfl, rfl⟩
    have hKb : (K == 0) = false := beq_eq_false_iff_ne.2 hK0
    go_wp2
    try simp only [Exit.inBlock, Exit.then]
    refine bodyPost_ret (by simp [results, Try.results19, go_sem, r0, r1, rl, rf0, rf1]; try rfl) rfl ⟨by rw [HC.out.1, HC.out.2], ?_⟩
    have hb := HB1.out.1
    (repeat' (first | (with_reducible exact Below.refl _ _) | (with_reducible assumption) | (with_reducible refine Below.setCell ?_ ?_ _) | (with_reducible refine Below.alloc ?_ ?_ _) | (with_reducible refine below_drewN ?_ _) | (with_reducible refine Below.drew ?_) | (with_reducible exact Nat.le_refl _) | omega | (simp; done) | (simp; omega)))
  have HG : Hid (GBk b) := bkF_zero (by rw [← HR0.out.2.1]; exact hK0)
  have HF : Hid (fwC b x = (if (whF b x).isSome = true then 0 else 4) ∧ fwV b x = (whF b x).getD 0) := by
    unfold Hid fwC fwV
    rw [← HR0.out.2.1, if_neg (fun e => e hK0), if_pos hK0]
    exact ⟨rfl, rfl⟩
  obtain ⟨M, hM⟩ : ∃ M, M = owI b.ls x b.ls.length := ⟨_, rfl⟩
  have HO : Hid (Calls Try.prog 51 #[.agg #[.int .i64 st, .slice wa wn wc, .slice la ln lc, .slice xa xn xc], .int .i64 x] w1 fun e w' => e = .returned (.int .i64 M) ∧ Below w1.heap.size w1 w') := by rw [hM]; exact spec_ow st HR0.out.2.2.1 (HR0.out.1.rd.below HB1.out.1)
  have HM : Hid (M = owI b.ls x b.ls.length) := hM
  subst hK0
  clear hM
  go_wp2_with (fail)
  refine HO.out.mono ?_
  rintro e w2 ⟨rfl, hb2⟩
  have m0 := (hb2.block _ (ltOfQ HB1.out.2.1)).trans HB1.out.2.1
  have m1 := (hb2.block _ (ltOfQ HB1.out.2.2)).trans HB1.out.2.2
  have HB2 : Hid (Below w.heap.size w w2) := HB1.out.1.trans (hb2.mono HB1.out.1.size)
  clear r0 r1 rl rf0 rf1 p0 p1 p2 p3 pl hb2 HO
  have r0 := cellOfQ m1 0 rfl
  have r1 := cellOfQ m1 1 rfl
  have rl := ltOfQ m1
  have rf0 := frozOfQ m1 0
  have rf1 := frozOfQ m1 1
  obtain ⟨p2, p3, pl⟩ : w2.cell? ⟨w.heap.size, 2, none⟩ = some (.slice la ln lc) ∧ w2.cell? ⟨w.heap.size, 3, none⟩ = some (.slice xa xn xc) ∧ w.heap.size < w2.heap.size := ⟨cellOfQ m0 2 rfl, cellOfQ m0 3 rfl, ltOfQ m0⟩
  clear m0 m1
  by_cases hM0 : 0 ≤ M
  · obtain ⟨i, hi, _, h3, h4⟩ := owI_pos (Nat.le_refl _) (by rw [← HM.out]; exact hM0)
    have hMi : M = (i : Int) := by rw [HM.out]; exact h3
    obtain ⟨g, o, c2, he, hg, r, hr, c0, _, _, _, _⟩ := (HR0.out.1.rd.ls.below HB2.out).at hi
    simp only [Value.slice.injEq] at he
    obtain ⟨rfl, hx1, hx2⟩ := he
    have HD : Hid (fwC b x = 0 ∧ fwV b x = r.id) := by
      unfold Hid
      rw [HF.out.1, HF.out.2, whF_lot HG.out.wf hi h4, hr.id]
      exact ⟨rfl, rfl⟩
    have hil : (i : Int) < (ln : Int) := by rw [hx1]; omega
    have hi0 : (0 : Int) ≤ (i : Int) := by omega
    subst hMi
    obtain ⟨rid, hrid⟩ : ∃ y, y = r.id := ⟨_, rfl⟩
    rw [← hrid] at c0 HD
    clear hx1 hx2 h3 h4 hr hrid p3 hM0
    go_wp2
    try simp only [Exit.inBlock, Exit.then]
    refine bodyPost_ret (by simp [results, Try.results19, go_sem, r0, r1, rl, rf0, rf1]; try rfl) rfl ⟨by rw [HD.out.1, HD.out.2], ?_⟩
    have hb := HB2.out
    (repeat' (first | (with_reducible exact Below.refl _ _) | (with_reducible assumption) | (with_reducible refine Below.setCell ?_ ?_ _) | (with_reducible refine Below.alloc ?_ ?_ _) | (with_reducible refine below_drewN ?_ _) | (with_reducible refine Below.drew ?_) | (with_reducible exact Nat.le_refl _) | omega | (simp; done) | (simp; omega)))
  · have hno : whF b x = if x ∈ b.sc then some 0 else none := whF_no fun i hi => owI_neg (Nat.le_refl _) (by rw [← HM.out]; omega) i hi hi
    obtain ⟨q, hq⟩ : ∃ q, q = decide (x ∈ b.sc) := ⟨_, rfl⟩
    have HC : Hid (Calls Try.prog 52 #[.slice xa xn xc, .int .i64 xn, .int .i64 x] w2 fun e w' => e = .returned (.bool q) ∧ w' = w2) :=
      spec_hn xn x q (by rw [HR0.out.2.2.2.2, List.take_length]; exact hq) (by rw [HR0.out.2.2.2.2]; exact Nat.le_refl _) (by have := HR0.out.2.2.1.sc; omega) (HR0.out.1.sc.below HB2.out)
    have HD : Hid ((q = true → fwC b x = 0 ∧ fwV b x = 0) ∧ (q = false → fwC b x = 4 ∧ fwV b x = 0)) := by
      unfold Hid
      rw [HF.out.1, HF.out.2, hno]
      refine ⟨fun e => ?_, fun e => ?_⟩
      · rw [if_pos (of_decide_eq_true (hq.symm.trans e))]; exact ⟨rfl, rfl⟩
      · rw [if_neg (of_decide_eq_false (hq.symm.trans e))]; exact ⟨rfl, rfl⟩
    have hM1 : M < 0 := by omega
    clear hno hq hM0 p2
    go_wp2_with (fail)
    refine HC.out.mono ?_
    rintro e w3 ⟨rfl, hw3⟩
    subst w3
    cases q
    · have HE := HD.out.2 rfl
      have HE : Hid (fwC b x = 4 ∧ fwV b x = 0) := HE
      go_wp2
      try simp only [Exit.inBlock, Exit.then]
      refine bodyPost_ret (by simp [results, Try.results19, go_sem, r0, r1, rl, rf0, rf1]; try rfl) rfl ⟨by rw [HE.out.1, HE.out.2], ?_⟩
      have hb := HB2.out
      (repeat' (first | (with_reducible exact Below.refl _ _) | (with_reducible assumption) | (with_reducible refine Below.setCell ?_ ?_ _) | (with_reducible refine Below.alloc ?_ ?_ _) | (with_reducible refine below_drewN ?_ _) | (with_reducible refine Below.drew ?_) | (with_reducible exact Nat.le_refl _) | omega | (simp; done) | (simp; omega)))
    · have HE := HD.out.1 rfl
      have HE : Hid (fwC b x = 0 ∧ fwV b x = 0) := HE
      go_wp2
      try simp only [Exit.inBlock, Exit.then]
      refine bodyPost_ret (by simp [results, Try.results19, go_sem, r0, r1, rl, rf0, rf1]; try rfl) rfl ⟨by rw [HE.out.1, HE.out.2], ?_⟩
      have hb := HB2.out
      (repeat' (first | (with_reducible exact Below.refl _ _) | (with_reducible assumption) | (with_reducible refine Below.setCell ?_ ?_ _) | (with_reducible refine Below.alloc ?_ ?_ _) | (with_reducible refine below_drewN ?_ _) | (with_reducible refine Below.drew ?_) | (with_reducible exact Nat.le_refl _) | omega | (simp; done) | (simp; omega)))

end Go.Proofs.Ytbkklnbcoegamaa
