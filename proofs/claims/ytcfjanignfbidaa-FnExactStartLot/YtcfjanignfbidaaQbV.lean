/- Proved here: BookFault of the model: bkF. -/
import Derived.Test.YtcfjanignfbidaaQbT
import Derived.Test.YtcfjanignfbidaaQbU
import Derived.Test.YtcfjanignfbidaaQbL
namespace Go.Proofs.Ytcfjanignfbidaa
open Go.RowKit Go.Maps
set_option linter.unusedVariables false
set_option linter.unusedSimpArgs false

set_option maxRecDepth 10000 in
set_option maxHeartbeats 6400000 in
theorem spec_bf {st : Int} {w : World} {vw vl vs : Value} {b : Bk} (hst : b.st = st) (hs : smBk 1048576 b) (h : RdX w vw vl vs b) :
    Calls Try.prog 34 #[.agg #[.int .i64 st, vw, vl, vs]] w fun e w' => e = .returned (.int .i64 (bkF b)) ∧ Below w.heap.size w w' := by
  obtain ⟨wa, wc, e1⟩ := h.wn.form
  obtain ⟨la, lc, e2⟩ := h.ls.rlo.form
  obtain ⟨xa, xc, e3⟩ := h.sc.form
  subst e1 e2 e3
  have HK0 := kbk b
  obtain ⟨wn, hwn⟩ : ∃ n, n = b.wn.length := ⟨_, rfl⟩
  obtain ⟨ln, hln⟩ : ∃ n, n = b.ls.length := ⟨_, rfl⟩
  obtain ⟨xn, hxn⟩ : ∃ n, n = b.sc.length := ⟨_, rfl⟩
  obtain ⟨K, hK⟩ : ∃ K, K = bkF b := ⟨_, rfl⟩
  obtain ⟨K1, hK1⟩ : ∃ K, K = frm (wdA b) 0 (wn - 0) := ⟨_, rfl⟩
  obtain ⟨K2, hK2⟩ : ∃ K, K = frm (loA b) 0 (ln - 0) := ⟨_, rfl⟩
  rw [← hwn, ← hln, ← hxn] at h HK0 ⊢
  rw [← hK, ← hK1, ← hK2] at HK0
  rw [← hK]
  have H : Hid (RdX w (.slice wa wn wc) (.slice la ln lc) (.slice xa xn xc) b ∧ smBk 1048576 b ∧ wn = b.wn.length ∧ ln = b.ls.length ∧ xn = b.sc.length ∧ b.st = st ∧ K2 = frm (loA b) 0 (ln - 0)) := ⟨h, hs, hwn, hln, hxn, hst, hK2⟩
  have HK : Hid (KBk b K wn ln xn K1 K2) := HK0
  have hsz : wn ≤ 1048576 ∧ ln ≤ 1048576 ∧ xn ≤ 1048576 := by have := hs.wn; have := hs.ls; have := hs.sc; omega
  have HF1 : Hid (frm (wdA b) 0 (wn - 0) = K1) := hK1.symm
  have HI : Hid (∀ W q, q = decide (1 ≤ st ∧ st ≤ 40) → Calls Try.prog 61 #[.int .i64 st, .int .i64 1, .int .i64 40] W fun e w' => e = .returned (.bool q) ∧ w' = W) := fun W q hq => spec_ins st 1 40 q hq W
  clear h hs hwn hln hxn hK hK1 hK2 HK0
  by_cases h1 : 1 ≤ st ∧ st ≤ 40
  case neg =>
    have HR : Hid (K = 3) := HK.out.a1 (by rw [hst]; exact h1)
    have HD : Hid (false = decide (1 ≤ st ∧ st ≤ 40)) := by unfold Hid; rw [decide_eq_false h1]
    clear HK h1 hst
    go_enter Try.func34, Try.ntmps34
    go_wp2_with (fail)
    refine (HI.out _ false HD.out).mono ?_
    rintro e w2 ⟨rfl, hw2⟩
    subst w2
    go_wp2
    go_returns
    exact ⟨by rw [HR.out]; rfl, by (repeat' (first | (with_reducible exact Below.refl _ _) | (with_reducible assumption) | (with_reducible refine Below.setCell ?_ ?_ _) | (with_reducible refine Below.alloc ?_ ?_ _) | (with_reducible refine below_drewN ?_ _) | (with_reducible refine Below.drew ?_) | (with_reducible exact Nat.le_refl _) | omega | (simp; done) | (simp; omega)))⟩
  have HD : Hid (true = decide (1 ≤ st ∧ st ≤ 40)) := by unfold Hid; rw [decide_eq_true h1]
  have HA : Hid (1 ≤ b.st ∧ b.st ≤ 40) := by unfold Hid; rw [hst]; exact h1
  clear h1 hst
  by_cases h2 : (10 : Int) < (wn : Int)
  · have HR : Hid (K = 2) := HK.out.a2 HA.out (by omega)
    clear HK
    go_enter Try.func34, Try.ntmps34
    go_wp2_with (fail)
    refine (HI.out _ true HD.out).mono ?_
    rintro e w2 ⟨rfl, hw2⟩
    subst w2
    go_wp2
    go_returns
    exact ⟨by rw [HR.out]; rfl, by (repeat' (first | (with_reducible exact Below.refl _ _) | (with_reducible assumption) | (with_reducible refine Below.setCell ?_ ?_ _) | (with_reducible refine Below.alloc ?_ ?_ _) | (with_reducible refine below_drewN ?_ _) | (with_reducible refine Below.drew ?_) | (with_reducible exact Nat.le_refl _) | omega | (simp; done) | (simp; omega)))⟩
  by_cases h3 : (30 : Int) < (ln : Int)
  · have HR : Hid (K = 2) := HK.out.a2 HA.out (by omega)
    clear HK
    go_enter Try.func34, Try.ntmps34
    go_wp2_with (fail)
    refine (HI.out _ true HD.out).mono ?_
    rintro e w2 ⟨rfl, hw2⟩
    subst w2
    go_wp2
    go_returns
    exact ⟨by rw [HR.out]; rfl, by (repeat' (first | (with_reducible exact Below.refl _ _) | (with_reducible assumption) | (with_reducible refine Below.setCell ?_ ?_ _) | (with_reducible refine Below.alloc ?_ ?_ _) | (with_reducible refine below_drewN ?_ _) | (with_reducible refine Below.drew ?_) | (with_reducible exact Nat.le_refl _) | omega | (simp; done) | (simp; omega)))⟩
  have HB : Hid (¬ (10 < wn ∨ 30 < ln)) := by unfold Hid; omega
  obtain ⟨W, hW⟩ : ∃ W, W = w.alloc (.cells #[.int .i64 st, .slice wa wn wc, .slice la ln lc, .slice xa xn xc] 31) := ⟨_, rfl⟩
  have HW : Hid (Below w.heap.size w W ∧ W.heap[w.heap.size]? = some (.cells #[.int .i64 st, .slice wa wn wc, .slice la ln lc, .slice xa xn xc] 31)) := by rw [hW]; exact ⟨by (repeat' (first | (with_reducible exact Below.refl _ _) | (with_reducible assumption) | (with_reducible refine Below.setCell ?_ ?_ _) | (with_reducible refine Below.alloc ?_ ?_ _) | (with_reducible refine below_drewN ?_ _) | (with_reducible refine Below.drew ?_) | (with_reducible exact Nat.le_refl _) | omega | (simp; done) | (simp; omega))), heap_alloc_new _ _⟩
  go_enter Try.func34, Try.ntmps34
  go_wp2_with (fail)
  refine (HI.out _ true HD.out).mono ?_
  rintro e w2 ⟨rfl, hw2⟩
  subst w2
  clear HI HD
  go_wp2
  rw [← hW]
  clear hW
  go_loopw [3] (fun i wr => ∃ j : Nat, j ≤ wn ∧ i = .int .i64 j ∧ Hid (frm (wdA b) j (wn - j) = K1 ∧ wr.heap[w.heap.size]? = some (.cells #[.int .i64 st, .slice wa wn wc, .slice la ln lc, .slice xa xn xc] 31) ∧ Below w.heap.size w wr)) (fun i _ => wn - (intOf i).toNat)
  case atStart => exact ⟨0, Nat.zero_le _, rfl, HF1.out, HW.out.2, HW.out.1⟩
  case round =>
    clear HW HF1
    obtain ⟨j, hjn, rfl, hR⟩ := hrel
    have p0 := cellOfQ hR.out.2.1 0 rfl
    have p1 := cellOfQ hR.out.2.1 1 rfl
    have pl := ltOfQ hR.out.2.1
    by_cases hlt : j < wn
    · have hjl : j < b.wn.length := by rw [← H.out.2.2.1]; exact hlt
      obtain ⟨g, o, c2, he, hg, hj⟩ := (H.out.1.wn.below hR.out.2.2).pos (by omega)
      simp only [Value.slice.injEq] at he
      obtain ⟨rfl, hx1, hx2⟩ := he
      clear hx1 hx2
      obtain ⟨c0, c1, c2'⟩ := wdC_at (hj j hjl)
      obtain ⟨x, hx⟩ : ∃ x, x = b.wn[j] := ⟨_, rfl⟩
      rw [← hx] at c0 c1 c2'
      have hta : wdA b j = wdK st x := by rw [hx]; unfold wdA; rw [H.out.2.2.2.2.2.1, show b.wn.getD j ⟨0, 0, 0⟩ = b.wn[j] from by simp [List.getD, hjl]]
      obtain ⟨xf, xt, xm⟩ := x
      simp only at c0 c1 c2'
      have HI : Hid (∀ W q, q = decide (0 ≤ xm ∧ xm ≤ 1000000000) → Calls Try.prog 61 #[.int .i64 xm, .int .i64 0, .int .i64 1000000000] W fun e w' => e = .returned (.bool q) ∧ w' = W) := fun W q hq => spec_ins xm 0 1000000000 q hq W
      have HS : Hid ((xf < 0 ∨ xt ≤ xf ∨ st ≤ xt → K = 1) ∧ (¬ (xf < 0 ∨ xt ≤ xf ∨ st ≤ xt) → ¬ (0 ≤ xm ∧ xm ≤ 1000000000) → K = 3) ∧ (¬ (xf < 0 ∨ xt ≤ xf ∨ st ≤ xt) → (0 ≤ xm ∧ xm ≤ 1000000000) → frm (wdA b) (j + 1) (wn - (j + 1)) = K1)) := by
        unfold wdK at hta
        refine ⟨fun h => ?_, fun h h2 => ?_, fun h h2 => ?_⟩
        · rw [if_pos h] at hta
          have e : K1 = 1 := by rw [← hR.out.1]; exact frm_hit hlt hta (by decide)
          exact (HK.out.a3 HA.out HB.out (by rw [e]; decide)).trans e
        · rw [if_neg h, if_neg h2] at hta
          have e : K1 = 3 := by rw [← hR.out.1]; exact frm_hit hlt hta (by decide)
          exact (HK.out.a3 HA.out HB.out (by rw [e]; decide)).trans e
        · rw [if_neg h, if_pos h2] at hta
          rw [← hR.out.1]; exact (frm_miss hlt hta).symm
      obtain ⟨V, hV⟩ : ∃ V, V = wr.alloc (.cells #[.int .i64 xf, .int .i64 xt, .int .i64 xm] 99) := ⟨_, rfl⟩
      have HV : Hid (V.heap[w.heap.size]? = some (.cells #[.int .i64 st, .slice (some ⟨g, o, none⟩) wn wc, .slice la ln lc, .slice xa xn xc] 31) ∧ Below w.heap.size w V ∧ V.heap[wr.heap.size]? = some (.cells #[.int .i64 xf, .int .i64 xt, .int .i64 xm] 99)) := by
        have hbb : Below wr.heap.size wr V := by rw [hV]; (repeat' (first | (with_reducible exact Below.refl _ _) | (with_reducible assumption) | (with_reducible refine Below.setCell ?_ ?_ _) | (with_reducible refine Below.alloc ?_ ?_ _) | (with_reducible refine below_drewN ?_ _) | (with_reducible refine Below.drew ?_) | (with_reducible exact Nat.le_refl _) | omega | (simp; done) | (simp; omega)))
        exact ⟨(hbb.block _ (ltOfQ hR.out.2.1)).trans hR.out.2.1, hR.out.2.2.trans (hbb.mono hR.out.2.2.size), by rw [hV]; exact heap_alloc_new _ _⟩
      clear hj hta hx hjl hR HK
      have b0 : (0 : Int) ≤ (j : Int) := by omega
      have b1 : (j : Int) < (wn : Int) := by omega
      by_cases d1 : xf < 0
      · have HR : Hid (K = 1) := HS.out.1 (Or.inl d1)
        clear HS
        go_wp2
        rw [← hV]
        go_returns
        exact ⟨by rw [HR.out]; rfl, HV.out.2.1⟩
      by_cases d2 : xt ≤ xf
      · have HR : Hid (K = 1) := HS.out.1 (Or.inr (Or.inl d2))
        clear HS
        go_wp2
        rw [← hV]
        go_returns
        exact ⟨by rw [HR.out]; rfl, HV.out.2.1⟩
      by_cases d3 : st ≤ xt
      · have HR : Hid (K = 1) := HS.out.1 (Or.inr (Or.inr d3))
        clear HS
        go_wp2
        rw [← hV]
        go_returns
        exact ⟨by rw [HR.out]; rfl, HV.out.2.1⟩
      by_cases d4 : 0 ≤ xm ∧ xm ≤ 1000000000
      · have HQ : Hid (frm (wdA b) (j + 1) (wn - (j + 1)) = K1) := HS.out.2.2 (by omega) d4
        have HD : Hid (true = decide (0 ≤ xm ∧ xm ≤ 1000000000)) := by unfold Hid; rw [decide_eq_true d4]
        clear HS d4
        go_wp2_with (fail)
        rw [← hV]
        clear hV
        refine (HI.out _ true HD.out).mono ?_
        rintro e w2 ⟨rfl, hw2⟩
        subst w2
        go_wp2
        go_roundw
        case rel => exact ⟨j + 1, by omega, by go_num, HQ.out, HV.out.1, HV.out.2.1⟩
        case measure => simp [intOf]; omega
      · have HR : Hid (K = 3) := HS.out.2.1 (by omega) d4
        have HD : Hid (false = decide (0 ≤ xm ∧ xm ≤ 1000000000)) := by unfold Hid; rw [decide_eq_false d4]
        clear HS d4
        go_wp2_with (fail)
        rw [← hV]
        clear hV
        refine (HI.out _ false HD.out).mono ?_
        rintro e w2 ⟨rfl, hw2⟩
        subst w2
        go_wp2
        go_returns
        exact ⟨by rw [HR.out]; rfl, HV.out.2.1⟩
    · obtain rfl : j = wn := by omega
      have HK1 : Hid (K1 = 0) := by have e := hR.out.1; rw [frm_end] at e; exact e.symm
      have HF2 : Hid (frm (loA b) 0 (ln - 0) = K2) := H.out.2.2.2.2.2.2.symm
      have HV : Hid (Below w.heap.size w wr ∧ wr.heap[w.heap.size]? = some (.cells #[.int .i64 st, .slice wa j wc, .slice la ln lc, .slice xa xn xc] 31)) := ⟨hR.out.2.2, hR.out.2.1⟩
      clear hR
      go_wp2
      clear p0 p1 pl
      go_loopw [5] (fun i wr => ∃ k : Nat, k ≤ ln ∧ i = .int .i64 k ∧ Hid (frm (loA b) k (ln - k) = K2 ∧ wr.heap[w.heap.size]? = some (.cells #[.int .i64 st, .slice wa j wc, .slice la ln lc, .slice xa xn xc] 31) ∧ Below w.heap.size w wr)) (fun i _ => ln - (intOf i).toNat)
      case atStart => exact ⟨0, Nat.zero_le _, rfl, HF2.out, HV.out.2, HV.out.1⟩
      case round =>
        clear HV HF2
        obtain ⟨k, hkn, rfl, hR⟩ := hrel
        obtain ⟨p0, p1, p2, p3, pl⟩ : wr.cell? ⟨w.heap.size, 0, none⟩ = some (.int .i64 st) ∧ wr.cell? ⟨w.heap.size, 1, none⟩ = some (.slice wa j wc) ∧ wr.cell? ⟨w.heap.size, 2, none⟩ = some (.slice la ln lc) ∧ wr.cell? ⟨w.heap.size, 3, none⟩ = some (.slice xa xn xc) ∧ w.heap.size < wr.heap.size := ⟨cellOfQ hR.out.2.1 0 rfl, cellOfQ hR.out.2.1 1 rfl, cellOfQ hR.out.2.1 2 rfl, cellOfQ hR.out.2.1 3 rfl, ltOfQ hR.out.2.1⟩
        by_cases hlt2 : k < ln
        · have hkl : k < b.ls.length := by rw [← H.out.2.2.2.1]; exact hlt2
          obtain ⟨t, ht⟩ : ∃ t, t = loA b k := ⟨_, rfl⟩
          have HC : Hid (Calls Try.prog 65 #[.agg #[.int .i64 st, .slice wa j wc, .slice la ln lc, .slice xa xn xc], .int .i64 k] wr fun e w' => e = .returned (.int .i64 t) ∧ Below wr.heap.size wr w') := by
            rw [ht]; exact spec_lot H.out.2.2.2.2.2.1 H.out.2.1 (H.out.1.rd.below hR.out.2.2) k hkl
          have HS : Hid ((t ≠ 0 → K2 = t) ∧ (t = 0 → frm (loA b) (k + 1) (ln - (k + 1)) = K2)) := ⟨fun h => by rw [← hR.out.1]; exact frm_hit hlt2 ht.symm h, fun h => by rw [← hR.out.1]; exact (frm_miss hlt2 (ht.symm.trans h)).symm⟩
          clear ht hkl
          have b0 : (0 : Int) ≤ (k : Int) := by omega
          have b1 : (k : Int) < (ln : Int) := by omega
          go_wp2_with (fail)
          refine HC.out.mono ?_
          rintro e w3 ⟨rfl, hb3⟩
          have HN : Hid (w3.heap[w.heap.size]? = some (.cells #[.int .i64 st, .slice wa j wc, .slice la ln lc, .slice xa xn xc] 31) ∧ Below w.heap.size w w3) :=
            ⟨(hb3.block _ (ltOfQ hR.out.2.1)).trans hR.out.2.1, hR.out.2.2.trans (hb3.mono hR.out.2.2.size)⟩
          clear hb3 HC hR p0 p1 p2 p3 pl
          by_cases ht0 : t = 0
          · have HQ : Hid (frm (loA b) (k + 1) (ln - (k + 1)) = K2) := HS.out.2 ht0
            subst ht0
            clear HS
            go_wp2
            go_roundw
            case rel => exact ⟨k + 1, by omega, by go_num, HQ.out, HN.out⟩
            case measure => simp [intOf]; omega
          · have HR : Hid (K = t) := by
              have h9 := HS.out.1 ht0
              exact (HK.out.a4 HA.out HB.out HK1.out (by rw [h9]; exact ht0)).trans h9
            have ht1 : (t == 0) = false := beq_eq_false_iff_ne.2 ht0
            clear HS HK
            go_wp2
            go_returns
            exact ⟨by rw [HR.out]; rfl, HN.out.2⟩
        · obtain rfl : k = ln := by omega
          have HK2 : Hid (K2 = 0) := by have e := hR.out.1; rw [frm_end] at e; exact e.symm
          by_cases h4 : (200 : Int) < (xn : Int)
          · have HR : Hid (K = 2) := HK.out.a5 HA.out HB.out HK1.out HK2.out (by omega)
            clear HK
            go_wp2
            go_returns
            exact ⟨by rw [HR.out]; rfl, hR.out.2.2⟩
          · have HR : Hid (K = wfC [] (alL b)) := HK.out.a6 HA.out HB.out HK1.out HK2.out (by omega)
            have hwb : WBk b := wbk_of (by rw [← H.out.2.2.2.1]; have := HB.out; omega) (by rw [← H.out.2.2.2.1]; exact H.out.2.2.2.2.2.2.symm.trans HK2.out) (by rw [← H.out.2.2.2.2.1]; omega)
            have HC : Hid (Calls Try.prog 37 #[.agg #[.int .i64 st, .slice wa j wc, .slice la k lc, .slice xa xn xc]] wr fun e w' => ∃ v, e = .returned v ∧ IS w' wr.heap.size v (alL b) ∧ Below wr.heap.size wr w') := spec_all st hwb.ls hwb.ws hwb.sc (H.out.1.below hR.out.2.2)
            have HW9 : Hid (∀ V v, RdI V v (alL b) → Calls Try.prog 38 #[v, .int .i64 0] V fun e w' => e = .returned (.int .i64 K) ∧ w' = V) := fun V v hv => by
              rw [HR.out]
              have hle : (alL b).length ≤ 1000 := by
                unfold alL
                rw [List.length_append, ← preL_all]
                have h1 := preL_len hwb.ws b.ls.length (Nat.le_refl _)
                have h2 := hwb.ls
                have h3 := hwb.sc
                omega
              have := spec_waf (pre := []) (ys := alL b) (by simp only [List.nil_append]; omega) (by simpa using hv) 0 rfl
              simpa using this
            have HB9 : Hid (Below w.heap.size w wr) := hR.out.2.2
            clear HK HR hR hwb
            go_wp2_with (fail)
            refine HC.out.mono ?_
            rintro e w3 ⟨v, rfl, hv, hb3⟩
            have HN : Hid (Below w.heap.size w w3 ∧ RdI w3 v (alL b)) := ⟨HB9.out.trans (hb3.mono HB9.out.size), hv.rg⟩
            clear hb3 hv HC p0 p1 p2 p3 pl
            go_wp2_with (fail)
            refine (HW9.out w3 v HN.out.2).mono ?_
            rintro e w4 ⟨rfl, hw4⟩
            subst w4
            go_wp2
            go_returns
            exact ⟨rfl, HN.out.1⟩

end Go.Proofs.Ytcfjanignfbidaa
