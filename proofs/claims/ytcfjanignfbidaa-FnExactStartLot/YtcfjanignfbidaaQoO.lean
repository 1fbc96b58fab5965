/- Proved here: openFor of the program: a book that has no fault, and lots of all these ids, is opened. -/
import Derived.Test.YtcfjanignfbidaaQoP
import Derived.Test.YtcfjanignfbidaaQoA
import Derived.Deep.Cut
namespace Go.Proofs.Ytcfjanignfbidaa
open Go.RowKit Go.Maps
set_option linter.unusedVariables false
set_option linter.unusedSimpArgs false

/-- Why a book can't be opened. -/
def ofC (b : Bk) (ids : List Int) : Int := if bkF b ≠ 0 then bkF b else if ∀ x ∈ ids, 0 ≤ fdI (idA b.ls) x b.ls.length then 0 else 4
theorem lw_make (w : World) : (Instr.makeMap 69 none).run Try.prog w = .ok (.map (some w.heap.size)) (w.alloc (.map #[] 0)) := by
  have h := run_underlying Try.underlying69 w
  simp [Instr.makeMap, h]
/-- An open book, wherever it lies. -/
def OBx (V : World) (B K : Nat) (b : Bk) : Prop := ∃ bp bm vw vl vs f rs m, OB V B K bp bm vw vl vs f b rs ∧ m ≤ b.ls.length ∧ TM V 2 bm m f

set_option maxRecDepth 20000 in
set_option maxHeartbeats 12800000 in
theorem impl_opf {st : Int} {w : World} {vw vl vs vi : Value} {b : Bk} {ids : List Int} (hst : b.st = st) (hs : smBk 1048576 b) (h : RdX w vw vl vs b) (hi : RdI w vi ids) (hi3 : ids.length ≤ 3) (hiw : ∀ x ∈ ids, (Lit.int .i64 x).wf = true) :
    Calls Try.prog 42 #[.agg #[.int .i64 st, vw, vl, vs], vi] w fun e w' => ∃ p, e = .returned (.tuple #[.pointer p, .int .i64 (ofC b ids)]) ∧ (ofC b ids ≠ 0 → p = none) ∧ (ofC b ids = 0 → ∃ K, p = some ⟨K, 0, none⟩ ∧ OBx w' w.heap.size K b) ∧ Below w.heap.size w w' := by
  obtain ⟨wa, wc, e1⟩ := h.wn.form
  obtain ⟨la, lc, e2⟩ := h.ls.rlo.form
  obtain ⟨xa, xc, e3⟩ := h.sc.form
  obtain ⟨ia, ic, e4⟩ := hi.form
  subst e1 e2 e3 e4
  obtain ⟨wn, hwn⟩ : ∃ n, n = b.wn.length := ⟨_, rfl⟩
  obtain ⟨ln, hln⟩ : ∃ n, n = b.ls.length := ⟨_, rfl⟩
  obtain ⟨xn, hxn⟩ : ∃ n, n = b.sc.length := ⟨_, rfl⟩
  obtain ⟨idn, hin⟩ : ∃ n, n = ids.length := ⟨_, rfl⟩
  obtain ⟨K, hK⟩ : ∃ K, K = bkF b := ⟨_, rfl⟩
  obtain ⟨C, hC⟩ : ∃ C, C = ofC b ids := ⟨_, rfl⟩
  rw [← hwn, ← hln, ← hxn] at h ⊢
  rw [← hin] at hi ⊢
  rw [← hC]
  have H : Hid (RdX w (.slice wa wn wc) (.slice la ln lc) (.slice xa xn xc) b ∧ smBk 1048576 b ∧ RdI w (.slice ia idn ic) ids ∧ (∀ x ∈ ids, (Lit.int .i64 x).wf = true) ∧ K = bkF b ∧ C = ofC b ids ∧ ln = b.ls.length ∧ idn = ids.length ∧ b.st = st) := ⟨h, hs, hi, hiw, hK, hC, hln, hin, hst⟩
  have hid3 : idn ≤ 3 := by omega
  obtain ⟨W, hW⟩ : ∃ W, W = w.alloc (.cells #[.int .i64 st, .slice wa wn wc, .slice la ln lc, .slice xa xn xc] 31) := ⟨_, rfl⟩
  have HW : Hid (Below w.heap.size w W ∧ W.heap[w.heap.size]? = some (.cells #[.int .i64 st, .slice wa wn wc, .slice la ln lc, .slice xa xn xc] 31)) := by rw [hW]; exact ⟨by (repeat' (first | (with_reducible exact Below.refl _ _) | (with_reducible assumption) | (with_reducible refine Below.setCell ?_ ?_ _) | (with_reducible refine Below.alloc ?_ ?_ _) | (with_reducible refine below_drewN ?_ _) | (with_reducible refine Below.drew ?_) | (with_reducible exact Nat.le_refl _) | omega | (simp; done) | (simp; omega))), heap_alloc_new _ _⟩
  have HB : Hid (Calls Try.prog 70 #[.agg #[.int .i64 st, .slice wa wn wc, .slice la ln lc, .slice xa xn xc]] W fun e w' => e = .returned (.int .i64 K) ∧ Below W.heap.size W w') := by rw [hK]; exact impl_bf hst hs (h.rd.below HW.out.1)
  clear h hs hst hi hiw hK hC hwn hln hxn hin hi3
  go_enter Try.func42, Try.ntmps42
  go_wp2_with (fail)
  rw [← hW]
  clear hW
  refine HB.out.mono ?_
  rintro e V ⟨rfl, hb1⟩
  have m0 := (hb1.block _ (ltOfQ HW.out.2)).trans HW.out.2
  have HV : Hid (Below w.heap.size w V ∧ V.heap[w.heap.size]? = some (.cells #[.int .i64 st, .slice wa wn wc, .slice la ln lc, .slice xa xn xc] 31)) := ⟨HW.out.1.trans (hb1.mono HW.out.1.size), m0⟩
  clear hb1 HB HW m0
  by_cases hK0 : K = 0
  case neg =>
    have HCK : Hid (C = K ∧ C ≠ 0) := by
      have e : C = K := by rw [H.out.2.2.2.2.2.1, ofC, ← H.out.2.2.2.2.1, if_pos hK0]
      exact ⟨e, by rw [e]; exact hK0⟩
    have hKb : (K == 0) = false := beq_eq_false_iff_ne.2 hK0
    go_wp2
    go_returns
    exact ⟨none, by rw [HCK.out.1]; rfl, fun _ => rfl, fun e => absurd e HCK.out.2, HV.out.1⟩
  have HG : Hid (GBk b) := bkF_zero (by rw [← H.out.2.2.2.2.1]; exact hK0)
  have HCZ : Hid (C = if ∀ x ∈ ids, 0 ≤ fdI (idA b.ls) x b.ls.length then 0 else 4) := by
    unfold Hid
    rw [H.out.2.2.2.2.2.1, ofC, ← H.out.2.2.2.2.1, if_neg (fun e => e hK0)]
  subst hK0
  have HRD : Hid (RdX V (.slice wa wn wc) (.slice la ln lc) (.slice xa xn xc) b ∧ RdI V (.slice ia idn ic) ids ∧ b.wn.length ≤ 1048576 ∧ NC (.slice wa wn wc) ∧ b.sc.length ≤ 1048576 ∧ NC (.slice xa xn xc)) := ⟨H.out.1.below HV.out.1, H.out.2.2.1.below HV.out.1, by have := HG.out.wn; omega, H.out.1.nw, by have := HG.out.sc; omega, H.out.1.ns⟩
  have hmk1 := lp_make
  have hmk2 := lw_make
  obtain ⟨p0, p1, p2, p3, pl⟩ : V.cell? ⟨w.heap.size, 0, none⟩ = some (.int .i64 st) ∧ V.cell? ⟨w.heap.size, 1, none⟩ = some (.slice wa wn wc) ∧ V.cell? ⟨w.heap.size, 2, none⟩ = some (.slice la ln lc) ∧ V.cell? ⟨w.heap.size, 3, none⟩ = some (.slice xa xn xc) ∧ w.heap.size < V.heap.size := ⟨cellOf HV.out.2 0 rfl, cellOf HV.out.2 1 rfl, cellOf HV.out.2 2 rfl, cellOf HV.out.2 3 rfl, ltOf HV.out.2⟩
  go_upto_region 4 with fail
  go_cut [7] from 12 (fun r7 wx => ∃ K bp bm vw vs, r7 = .pointer (some ⟨K, 0, none⟩) ∧ Hid (OB wx V.heap.size K bp bm vw (.slice none 0 0) vs (fun _ => none) ⟨st, b.wn, [], b.sc⟩ [] ∧ Below V.heap.size V wx ∧ TM wx 2 bm 0 (fun _ => none)))
  case first =>
    refine wp_region_float (by kernel_rfl) (fun hS => ?_)
    refine fl_take (i := 0) (d := 17) (v := .pointer (some ⟨w.heap.size, 0, none⟩)) rfl rfl rfl (by kernel_rfl) (by kernel_rfl) (by kernel_rfl) hS ?_ ?_
    · intro w' hk; go_simp
    simp only [Act.put, List.setIfInBounds_toArray, List.set_cons_zero, List.set_cons_succ]
    refine fl_take (i := 1) (d := 18) (v := .int .i64 st) rfl rfl rfl (by kernel_rfl) (by kernel_rfl) (by kernel_rfl) hS ?_ ?_
    · intro w' hk; go_simp
    simp only [Act.put, List.setIfInBounds_toArray, List.set_cons_zero, List.set_cons_succ]
    refine fl_take (i := 2) (d := 19) (v := .pointer (some ⟨w.heap.size, 1, none⟩)) rfl rfl rfl (by kernel_rfl) (by kernel_rfl) (by kernel_rfl) hS ?_ ?_
    · intro w' hk; go_simp
    simp only [Act.put, List.setIfInBounds_toArray, List.set_cons_zero, List.set_cons_succ]
    refine fl_take (i := 3) (d := 20) (v := .slice wa wn wc) rfl rfl rfl (by kernel_rfl) (by kernel_rfl) (by kernel_rfl) hS ?_ ?_
    · intro w' hk; go_simp
    simp only [Act.put, List.setIfInBounds_toArray, List.set_cons_zero, List.set_cons_succ]
    refine fl_take (i := 5) (d := 22) (v := .pointer (some ⟨w.heap.size, 3, none⟩)) rfl rfl rfl (by kernel_rfl) (by kernel_rfl) (by kernel_rfl) hS ?_ ?_
    · intro w' hk; go_simp
    simp only [Act.put, List.setIfInBounds_toArray, List.set_cons_zero, List.set_cons_succ]
    refine fl_take (i := 6) (d := 23) (v := .slice xa xn xc) rfl rfl rfl (by kernel_rfl) (by kernel_rfl) (by kernel_rfl) hS ?_ ?_
    · intro w' hk; go_simp
    simp only [Act.put, List.setIfInBounds_toArray, List.set_cons_zero, List.set_cons_succ]
    have hF : O4 V V.drew b.wn b.sc none none none none := O4.start V _ _
    refine wpAnyH_all (rs := [4, 9, 10]) (by kernel_rfl) (by simp) ?_
    intro i hi
    rcases (by simpa using hi : i = 4 ∨ i = 9 ∨ i = 10) with rfl | rfl | rfl
    · clear hi
      refine op_call (d := 21) rfl rfl rfl (by go_simp) ((cl_wd HRD.out.2.2.1 HRD.out.2.2.2.1 (HRD.out.1.wn.below hF.bl)).mono ?_)
      rintro e y_4 ⟨v_4, rfl, hv, hb⟩
      obtain ⟨av_4, cv_4, rfl⟩ := (OG.rg wdC_len hv).form
      have hF := hF.win hb hv
      refine ⟨_, rfl, KS.of hF.bl, ?_⟩
      simp only [Act.put, List.setIfInBounds_toArray, List.set_cons_zero, List.set_cons_succ]
      clear hv hb
      refine wpAnyH_all (rs := [7, 9, 10]) (by kernel_rfl) (by simp) ?_
      intro i hi
      rcases (by simpa using hi : i = 7 ∨ i = 9 ∨ i = 10) with rfl | rfl | rfl
      · clear hi
        refine op_call (d := 24) rfl rfl rfl (by go_simp) ((cl_int HRD.out.2.2.2.2.1 HRD.out.2.2.2.2.2 (HRD.out.1.sc.below hF.bl)).mono ?_)
        rintro e y_4_7 ⟨v_4_7, rfl, hv, hb⟩
        obtain ⟨av_4_7, cv_4_7, rfl⟩ := hv.form
        have hF := hF.scr hb hv
        refine ⟨_, rfl, KS.of hF.bl, ?_⟩
        simp only [Act.put, List.setIfInBounds_toArray, List.set_cons_zero, List.set_cons_succ]
        clear hv hb
        refine fl_take (i := 8) (d := 25) (v := .agg #[.int .i64 st, (.slice av_4 b.wn.length cv_4), .slice none 0 0, (.slice av_4_7 b.sc.length cv_4_7)]) rfl rfl rfl (by kernel_rfl) (by kernel_rfl) (by kernel_rfl) (KS.of hF.bl) ?_ ?_
        · intro w' hk; go_simp
        simp only [Act.put, List.setIfInBounds_toArray, List.set_cons_zero, List.set_cons_succ]
        refine wpAnyH_all (rs := [9, 10]) (by kernel_rfl) (by simp) ?_
        intro i hi
        rcases (by simpa using hi : i = 9 ∨ i = 10) with rfl | rfl
        · clear hi
          refine op_val (d := 26) (v := .map (some (y_4_7).heap.size)) (w' := (y_4_7).alloc (.map #[] 0)) rfl rfl rfl (by go_simp; try rfl) ?_
          simp only [Act.put, List.setIfInBounds_toArray, List.set_cons_zero, List.set_cons_succ]
          have hF := hF.mkP
          refine ⟨KS.of hF.bl, ?_⟩
          obtain ⟨g_4_7_9, hg_4_7_9⟩ : ∃ x, x = (y_4_7).heap.size := ⟨_, rfl⟩
          rw [← hg_4_7_9] at hF ⊢
          generalize (y_4_7).alloc (.map #[] 0) = y_4_7_9 at hF ⊢
          clear hg_4_7_9
          refine wpAnyH_all (rs := [10]) (by kernel_rfl) (by simp) ?_
          intro i hi
          obtain rfl : i = 10 := by simpa using hi
          clear hi
          refine op_val (d := 27) (v := .map (some (y_4_7_9).heap.size)) (w' := (y_4_7_9).alloc (.map #[] 0)) rfl rfl rfl (by go_simp; try rfl) ?_
          simp only [Act.put, List.setIfInBounds_toArray, List.set_cons_zero, List.set_cons_succ]
          have hF := hF.mkM
          refine ⟨KS.of hF.bl, ?_⟩
          obtain ⟨g_4_7_9_10, hg_4_7_9_10⟩ : ∃ x, x = (y_4_7_9).heap.size := ⟨_, rfl⟩
          rw [← hg_4_7_9_10] at hF ⊢
          generalize (y_4_7_9).alloc (.map #[] 0) = y_4_7_9_10 at hF ⊢
          clear hg_4_7_9_10
          refine fl_take (i := 11) (d := 28) (v := .agg #[.int .i64 st, (.slice av_4 b.wn.length cv_4), .slice none 0 0, (.slice av_4_7 b.sc.length cv_4_7), .map (some g_4_7_9), .map (some g_4_7_9_10)]) rfl rfl rfl (by kernel_rfl) (by kernel_rfl) (by kernel_rfl) (KS.of hF.bl) ?_ ?_
          · intro w' hk; go_simp
          simp only [Act.put, List.setIfInBounds_toArray, List.set_cons_zero, List.set_cons_succ]
          have hG := hF.ob (st := st)
          refine wpAnyH_all (rs := [12]) (by kernel_rfl) (by simp) ?_
          intro i hi
          obtain rfl : i = 12 := by simpa using hi
          clear hi
          refine op_val (d := 29) (v := .pointer (some ⟨(y_4_7_9_10).heap.size, 0, none⟩)) (w' := (y_4_7_9_10).alloc (.cells #[.int .i64 st, (.slice av_4 b.wn.length cv_4), .slice none 0 0, (.slice av_4_7 b.sc.length cv_4_7), .map (some g_4_7_9), .map (some g_4_7_9_10)] 71)) rfl rfl rfl (by go_simp; try rfl) ?_
          simp only [Act.put, List.setIfInBounds_toArray, List.set_cons_zero, List.set_cons_succ]
          refine ⟨KS.of hG.2.1, ?_⟩
          refine fl_take (i := 13) (d := 7) (v := .pointer (some ⟨(y_4_7_9_10).heap.size, 0, none⟩)) rfl rfl rfl (by kernel_rfl) (by kernel_rfl) (by kernel_rfl) (KS.of hG.2.1) ?_ ?_
          · intro w' hk; go_simp
          simp only [Act.put, List.setIfInBounds_toArray, List.set_cons_zero, List.set_cons_succ]
          refine wpAnyH_done (by kernel_rfl) (NoPanic.normal ?_) _
          go_wp2_with (fail)
          go_meet
          exact ⟨_, _, _, _, _, rfl, hG⟩
        · clear hi
          refine op_val (d := 27) (v := .map (some (y_4_7).heap.size)) (w' := (y_4_7).alloc (.map #[] 0)) rfl rfl rfl (by go_simp; try rfl) ?_
          simp only [Act.put, List.setIfInBounds_toArray, List.set_cons_zero, List.set_cons_succ]
          have hF := hF.mkM
          refine ⟨KS.of hF.bl, ?_⟩
          obtain ⟨g_4_7_10, hg_4_7_10⟩ : ∃ x, x = (y_4_7).heap.size := ⟨_, rfl⟩
          rw [← hg_4_7_10] at hF ⊢
          generalize (y_4_7).alloc (.map #[] 0) = y_4_7_10 at hF ⊢
          clear hg_4_7_10
          refine wpAnyH_all (rs := [9]) (by kernel_rfl) (by simp) ?_
          intro i hi
          obtain rfl : i = 9 := by simpa using hi
          clear hi
          refine op_val (d := 26) (v := .map (some (y_4_7_10).heap.size)) (w' := (y_4_7_10).alloc (.map #[] 0)) rfl rfl rfl (by go_simp; try rfl) ?_
          simp only [Act.put, List.setIfInBounds_toArray, List.set_cons_zero, List.set_cons_succ]
          have hF := hF.mkP
          refine ⟨KS.of hF.bl, ?_⟩
          obtain ⟨g_4_7_10_9, hg_4_7_10_9⟩ : ∃ x, x = (y_4_7_10).heap.size := ⟨_, rfl⟩
          rw [← hg_4_7_10_9] at hF ⊢
          generalize (y_4_7_10).alloc (.map #[] 0) = y_4_7_10_9 at hF ⊢
          clear hg_4_7_10_9
          refine fl_take (i := 11) (d := 28) (v := .agg #[.int .i64 st, (.slice av_4 b.wn.length cv_4), .slice none 0 0, (.slice av_4_7 b.sc.length cv_4_7), .map (some g_4_7_10_9), .map (some g_4_7_10)]) rfl rfl rfl (by kernel_rfl) (by kernel_rfl) (by kernel_rfl) (KS.of hF.bl) ?_ ?_
          · intro w' hk; go_simp
          simp only [Act.put, List.setIfInBounds_toArray, List.set_cons_zero, List.set_cons_succ]
          have hG := hF.ob (st := st)
          refine wpAnyH_all (rs := [12]) (by kernel_rfl) (by simp) ?_
          intro i hi
          obtain rfl : i = 12 := by simpa using hi
          clear hi
          refine op_val (d := 29) (v := .pointer (some ⟨(y_4_7_10_9).heap.size, 0, none⟩)) (w' := (y_4_7_10_9).alloc (.cells #[.int .i64 st, (.slice av_4 b.wn.length cv_4), .slice none 0 0, (.slice av_4_7 b.sc.length cv_4_7), .map (some g_4_7_10_9), .map (some g_4_7_10)] 71)) rfl rfl rfl (by go_simp; try rfl) ?_
          simp only [Act.put, List.setIfInBounds_toArray, List.set_cons_zero, List.set_cons_succ]
          refine ⟨KS.of hG.2.1, ?_⟩
          refine fl_take (i := 13) (d := 7) (v := .pointer (some ⟨(y_4_7_10_9).heap.size, 0, none⟩)) rfl rfl rfl (by kernel_rfl) (by kernel_rfl) (by kernel_rfl) (KS.of hG.2.1) ?_ ?_
          · intro w' hk; go_simp
          simp only [Act.put, List.setIfInBounds_toArray, List.set_cons_zero, List.set_cons_succ]
          refine wpAnyH_done (by kernel_rfl) (NoPanic.normal ?_) _
          go_wp2_with (fail)
          go_meet
          exact ⟨_, _, _, _, _, rfl, hG⟩
      · clear hi
        refine op_val (d := 26) (v := .map (some (y_4).heap.size)) (w' := (y_4).alloc (.map #[] 0)) rfl rfl rfl (by go_simp; try rfl) ?_
        simp only [Act.put, List.setIfInBounds_toArray, List.set_cons_zero, List.set_cons_succ]
        have hF := hF.mkP
        refine ⟨KS.of hF.bl, ?_⟩
        obtain ⟨g_4_9, hg_4_9⟩ : ∃ x, x = (y_4).heap.size := ⟨_, rfl⟩
        rw [← hg_4_9] at hF ⊢
        generalize (y_4).alloc (.map #[] 0) = y_4_9 at hF ⊢
        clear hg_4_9
        refine wpAnyH_all (rs := [7, 10]) (by kernel_rfl) (by simp) ?_
        intro i hi
        rcases (by simpa using hi : i = 7 ∨ i = 10) with rfl | rfl
        · clear hi
          refine op_call (d := 24) rfl rfl rfl (by go_simp) ((cl_int HRD.out.2.2.2.2.1 HRD.out.2.2.2.2.2 (HRD.out.1.sc.below hF.bl)).mono ?_)
          rintro e y_4_9_7 ⟨v_4_9_7, rfl, hv, hb⟩
          obtain ⟨av_4_9_7, cv_4_9_7, rfl⟩ := hv.form
          have hF := hF.scr hb hv
          refine ⟨_, rfl, KS.of hF.bl, ?_⟩
          simp only [Act.put, List.setIfInBounds_toArray, List.set_cons_zero, List.set_cons_succ]
          clear hv hb
          refine fl_take (i := 8) (d := 25) (v := .agg #[.int .i64 st, (.slice av_4 b.wn.length cv_4), .slice none 0 0, (.slice av_4_9_7 b.sc.length cv_4_9_7)]) rfl rfl rfl (by kernel_rfl) (by kernel_rfl) (by kernel_rfl) (KS.of hF.bl) ?_ ?_
          · intro w' hk; go_simp
          simp only [Act.put, List.setIfInBounds_toArray, List.set_cons_zero, List.set_cons_succ]
          refine wpAnyH_all (rs := [10]) (by kernel_rfl) (by simp) ?_
          intro i hi
          obtain rfl : i = 10 := by simpa using hi
          clear hi
          refine op_val (d := 27) (v := .map (some (y_4_9_7).heap.size)) (w' := (y_4_9_7).alloc (.map #[] 0)) rfl rfl rfl (by go_simp; try rfl) ?_
          simp only [Act.put, List.setIfInBounds_toArray, List.set_cons_zero, List.set_cons_succ]
          have hF := hF.mkM
          refine ⟨KS.of hF.bl, ?_⟩
          obtain ⟨g_4_9_7_10, hg_4_9_7_10⟩ : ∃ x, x = (y_4_9_7).heap.size := ⟨_, rfl⟩
          rw [← hg_4_9_7_10] at hF ⊢
          generalize (y_4_9_7).alloc (.map #[] 0) = y_4_9_7_10 at hF ⊢
          clear hg_4_9_7_10
          refine fl_take (i := 11) (d := 28) (v := .agg #[.int .i64 st, (.slice av_4 b.wn.length cv_4), .slice none 0 0, (.slice av_4_9_7 b.sc.length cv_4_9_7), .map (some g_4_9), .map (some g_4_9_7_10)]) rfl rfl rfl (by kernel_rfl) (by kernel_rfl) (by kernel_rfl) (KS.of hF.bl) ?_ ?_
          · intro w' hk; go_simp
          simp only [Act.put, List.setIfInBounds_toArray, List.set_cons_zero, List.set_cons_succ]
          have hG := hF.ob (st := st)
          refine wpAnyH_all (rs := [12]) (by kernel_rfl) (by simp) ?_
          intro i hi
          obtain rfl : i = 12 := by simpa using hi
          clear hi
          refine op_val (d := 29) (v := .pointer (some ⟨(y_4_9_7_10).heap.size, 0, none⟩)) (w' := (y_4_9_7_10).alloc (.cells #[.int .i64 st, (.slice av_4 b.wn.length cv_4), .slice none 0 0, (.slice av_4_9_7 b.sc.length cv_4_9_7), .map (some g_4_9), .map (some g_4_9_7_10)] 71)) rfl rfl rfl (by go_simp; try rfl) ?_
          simp only [Act.put, List.setIfInBounds_toArray, List.set_cons_zero, List.set_cons_succ]
          refine ⟨KS.of hG.2.1, ?_⟩
          refine fl_take (i := 13) (d := 7) (v := .pointer (some ⟨(y_4_9_7_10).heap.size, 0, none⟩)) rfl rfl rfl (by kernel_rfl) (by kernel_rfl) (by kernel_rfl) (KS.of hG.2.1) ?_ ?_
          · intro w' hk; go_simp
          simp only [Act.put, List.setIfInBounds_toArray, List.set_cons_zero, List.set_cons_succ]
          refine wpAnyH_done (by kernel_rfl) (NoPanic.normal ?_) _
          go_wp2_with (fail)
          go_meet
          exact ⟨_, _, _, _, _, rfl, hG⟩
        · clear hi
          refine op_val (d := 27) (v := .map (some (y_4_9).heap.size)) (w' := (y_4_9).alloc (.map #[] 0)) rfl rfl rfl (by go_simp; try rfl) ?_
          simp only [Act.put, List.setIfInBounds_toArray, List.set_cons_zero, List.set_cons_succ]
          have hF := hF.mkM
          refine ⟨KS.of hF.bl, ?_⟩
          obtain ⟨g_4_9_10, hg_4_9_10⟩ : ∃ x, x = (y_4_9).heap.size := ⟨_, rfl⟩
          rw [← hg_4_9_10] at hF ⊢
          generalize (y_4_9).alloc (.map #[] 0) = y_4_9_10 at hF ⊢
          clear hg_4_9_10
          refine wpAnyH_all (rs := [7]) (by kernel_rfl) (by simp) ?_
          intro i hi
          obtain rfl : i = 7 := by simpa using hi
          clear hi
          refine op_call (d := 24) rfl rfl rfl (by go_simp) ((cl_int HRD.out.2.2.2.2.1 HRD.out.2.2.2.2.2 (HRD.out.1.sc.below hF.bl)).mono ?_)
          rintro e y_4_9_10_7 ⟨v_4_9_10_7, rfl, hv, hb⟩
          obtain ⟨av_4_9_10_7, cv_4_9_10_7, rfl⟩ := hv.form
          have hF := hF.scr hb hv
          refine ⟨_, rfl, KS.of hF.bl, ?_⟩
          simp only [Act.put, List.setIfInBounds_toArray, List.set_cons_zero, List.set_cons_succ]
          clear hv hb
          refine fl_take (i := 8) (d := 25) (v := .agg #[.int .i64 st, (.slice av_4 b.wn.length cv_4), .slice none 0 0, (.slice av_4_9_10_7 b.sc.length cv_4_9_10_7)]) rfl rfl rfl (by kernel_rfl) (by kernel_rfl) (by kernel_rfl) (KS.of hF.bl) ?_ ?_
          · intro w' hk; go_simp
          simp only [Act.put, List.setIfInBounds_toArray, List.set_cons_zero, List.set_cons_succ]
          refine fl_take (i := 11) (d := 28) (v := .agg #[.int .i64 st, (.slice av_4 b.wn.length cv_4), .slice none 0 0, (.slice av_4_9_10_7 b.sc.length cv_4_9_10_7), .map (some g_4_9), .map (some g_4_9_10)]) rfl rfl rfl (by kernel_rfl) (by kernel_rfl) (by kernel_rfl) (KS.of hF.bl) ?_ ?_
          · intro w' hk; go_simp
          simp only [Act.put, List.setIfInBounds_toArray, List.set_cons_zero, List.set_cons_succ]
          have hG := hF.ob (st := st)
          refine wpAnyH_all (rs := [12]) (by kernel_rfl) (by simp) ?_
          intro i hi
          obtain rfl : i = 12 := by simpa using hi
          clear hi
          refine op_val (d := 29) (v := .pointer (some ⟨(y_4_9_10_7).heap.size, 0, none⟩)) (w' := (y_4_9_10_7).alloc (.cells #[.int .i64 st, (.slice av_4 b.wn.length cv_4), .slice none 0 0, (.slice av_4_9_10_7 b.sc.length cv_4_9_10_7), .map (some g_4_9), .map (some g_4_9_10)] 71)) rfl rfl rfl (by go_simp; try rfl) ?_
          simp only [Act.put, List.setIfInBounds_toArray, List.set_cons_zero, List.set_cons_succ]
          refine ⟨KS.of hG.2.1, ?_⟩
          refine fl_take (i := 13) (d := 7) (v := .pointer (some ⟨(y_4_9_10_7).heap.size, 0, none⟩)) rfl rfl rfl (by kernel_rfl) (by kernel_rfl) (by kernel_rfl) (KS.of hG.2.1) ?_ ?_
          · intro w' hk; go_simp
          simp only [Act.put, List.setIfInBounds_toArray, List.set_cons_zero, List.set_cons_succ]
          refine wpAnyH_done (by kernel_rfl) (NoPanic.normal ?_) _
          go_wp2_with (fail)
          go_meet
          exact ⟨_, _, _, _, _, rfl, hG⟩
      · clear hi
        refine op_val (d := 27) (v := .map (some (y_4).heap.size)) (w' := (y_4).alloc (.map #[] 0)) rfl rfl rfl (by go_simp; try rfl) ?_
        simp only [Act.put, List.setIfInBounds_toArray, List.set_cons_zero, List.set_cons_succ]
        have hF := hF.mkM
        refine ⟨KS.of hF.bl, ?_⟩
        obtain ⟨g_4_10, hg_4_10⟩ : ∃ x, x = (y_4).heap.size := ⟨_, rfl⟩
        rw [← hg_4_10] at hF ⊢
        generalize (y_4).alloc (.map #[] 0) = y_4_10 at hF ⊢
        clear hg_4_10
        refine wpAnyH_all (rs := [7, 9]) (by kernel_rfl) (by simp) ?_
        intro i hi
        rcases (by simpa using hi : i = 7 ∨ i = 9) with rfl | rfl
        · clear hi
          refine op_call (d := 24) rfl rfl rfl (by go_simp) ((cl_int HRD.out.2.2.2.2.1 HRD.out.2.2.2.2.2 (HRD.out.1.sc.below hF.bl)).mono ?_)
          rintro e y_4_10_7 ⟨v_4_10_7, rfl, hv, hb⟩
          obtain ⟨av_4_10_7, cv_4_10_7, rfl⟩ := hv.form
          have hF := hF.scr hb hv
          refine ⟨_, rfl, KS.of hF.bl, ?_⟩
          simp only [Act.put, List.setIfInBounds_toArray, List.set_cons_zero, List.set_cons_succ]
          clear hv hb
          refine fl_take (i := 8) (d := 25) (v := .agg #[.int .i64 st, (.slice av_4 b.wn.length cv_4), .slice none 0 0, (.slice av_4_10_7 b.sc.length cv_4_10_7)]) rfl rfl rfl (by kernel_rfl) (by kernel_rfl) (by kernel_rfl) (KS.of hF.bl) ?_ ?_
          · intro w' hk; go_simp
          simp only [Act.put, List.setIfInBounds_toArray, List.set_cons_zero, List.set_cons_succ]
          refine wpAnyH_all (rs := [9]) (by kernel_rfl) (by simp) ?_
          intro i hi
          obtain rfl : i = 9 := by simpa using hi
          clear hi
          refine op_val (d := 26) (v := .map (some (y_4_10_7).heap.size)) (w' := (y_4_10_7).alloc (.map #[] 0)) rfl rfl rfl (by go_simp; try rfl) ?_
          simp only [Act.put, List.setIfInBounds_toArray, List.set_cons_zero, List.set_cons_succ]
          have hF := hF.mkP
          refine ⟨KS.of hF.bl, ?_⟩
          obtain ⟨g_4_10_7_9, hg_4_10_7_9⟩ : ∃ x, x = (y_4_10_7).heap.size := ⟨_, rfl⟩
          rw [← hg_4_10_7_9] at hF ⊢
          generalize (y_4_10_7).alloc (.map #[] 0) = y_4_10_7_9 at hF ⊢
          clear hg_4_10_7_9
          refine fl_take (i := 11) (d := 28) (v := .agg #[.int .i64 st, (.slice av_4 b.wn.length cv_4), .slice none 0 0, (.slice av_4_10_7 b.sc.length cv_4_10_7), .map (some g_4_10_7_9), .map (some g_4_10)]) rfl rfl rfl (by kernel_rfl) (by kernel_rfl) (by kernel_rfl) (KS.of hF.bl) ?_ ?_
          · intro w' hk; go_simp
          simp only [Act.put, List.setIfInBounds_toArray, List.set_cons_zero, List.set_cons_succ]
          have hG := hF.ob (st := st)
          refine wpAnyH_all (rs := [12]) (by kernel_rfl) (by simp) ?_
          intro i hi
          obtain rfl : i = 12 := by simpa using hi
          clear hi
          refine op_val (d := 29) (v := .pointer (some ⟨(y_4_10_7_9).heap.size, 0, none⟩)) (w' := (y_4_10_7_9).alloc (.cells #[.int .i64 st, (.slice av_4 b.wn.length cv_4), .slice none 0 0, (.slice av_4_10_7 b.sc.length cv_4_10_7), .map (some g_4_10_7_9), .map (some g_4_10)] 71)) rfl rfl rfl (by go_simp; try rfl) ?_
          simp only [Act.put, List.setIfInBounds_toArray, List.set_cons_zero, List.set_cons_succ]
          refine ⟨KS.of hG.2.1, ?_⟩
          refine fl_take (i := 13) (d := 7) (v := .pointer (some ⟨(y_4_10_7_9).heap.size, 0, none⟩)) rfl rfl rfl (by kernel_rfl) (by kernel_rfl) (by kernel_rfl) (KS.of hG.2.1) ?_ ?_
          · intro w' hk; go_simp
          simp only [Act.put, List.setIfInBounds_toArray, List.set_cons_zero, List.set_cons_succ]
          refine wpAnyH_done (by kernel_rfl) (NoPanic.normal ?_) _
          go_wp2_with (fail)
          go_meet
          exact ⟨_, _, _, _, _, rfl, hG⟩
        · clear hi
          refine op_val (d := 26) (v := .map (some (y_4_10).heap.size)) (w' := (y_4_10).alloc (.map #[] 0)) rfl rfl rfl (by go_simp; try rfl) ?_
          simp only [Act.put, List.setIfInBounds_toArray, List.set_cons_zero, List.set_cons_succ]
          have hF := hF.mkP
          refine ⟨KS.of hF.bl, ?_⟩
          obtain ⟨g_4_10_9, hg_4_10_9⟩ : ∃ x, x = (y_4_10).heap.size := ⟨_, rfl⟩
          rw [← hg_4_10_9] at hF ⊢
          generalize (y_4_10).alloc (.map #[] 0) = y_4_10_9 at hF ⊢
          clear hg_4_10_9
          refine wpAnyH_all (rs := [7]) (by kernel_rfl) (by simp) ?_
          intro i hi
          obtain rfl : i = 7 := by simpa using hi
          clear hi
          refine op_call (d := 24) rfl rfl rfl (by go_simp) ((cl_int HRD.out.2.2.2.2.1 HRD.out.2.2.2.2.2 (HRD.out.1.sc.below hF.bl)).mono ?_)
          rintro e y_4_10_9_7 ⟨v_4_10_9_7, rfl, hv, hb⟩
          obtain ⟨av_4_10_9_7, cv_4_10_9_7, rfl⟩ := hv.form
          have hF := hF.scr hb hv
          refine ⟨_, rfl, KS.of hF.bl, ?_⟩
          simp only [Act.put, List.setIfInBounds_toArray, List.set_cons_zero, List.set_cons_succ]
          clear hv hb
          refine fl_take (i := 8) (d := 25) (v := .agg #[.int .i64 st, (.slice av_4 b.wn.length cv_4), .slice none 0 0, (.slice av_4_10_9_7 b.sc.length cv_4_10_9_7)]) rfl rfl rfl (by kernel_rfl) (by kernel_rfl) (by kernel_rfl) (KS.of hF.bl) ?_ ?_
          · intro w' hk; go_simp
          simp only [Act.put, List.setIfInBounds_toArray, List.set_cons_zero, List.set_cons_succ]
          refine fl_take (i := 11) (d := 28) (v := .agg #[.int .i64 st, (.slice av_4 b.wn.length cv_4), .slice none 0 0, (.slice av_4_10_9_7 b.sc.length cv_4_10_9_7), .map (some g_4_10_9), .map (some g_4_10)]) rfl rfl rfl (by kernel_rfl) (by kernel_rfl) (by kernel_rfl) (KS.of hF.bl) ?_ ?_
          · intro w' hk; go_simp
          simp only [Act.put, List.setIfInBounds_toArray, List.set_cons_zero, List.set_cons_succ]
          have hG := hF.ob (st := st)
          refine wpAnyH_all (rs := [12]) (by kernel_rfl) (by simp) ?_
          intro i hi
          obtain rfl : i = 12 := by simpa using hi
          clear hi
          refine op_val (d := 29) (v := .pointer (some ⟨(y_4_10_9_7).heap.size, 0, none⟩)) (w' := (y_4_10_9_7).alloc (.cells #[.int .i64 st, (.slice av_4 b.wn.length cv_4), .slice none 0 0, (.slice av_4_10_9_7 b.sc.length cv_4_10_9_7), .map (some g_4_10_9), .map (some g_4_10)] 71)) rfl rfl rfl (by go_simp; try rfl) ?_
          simp only [Act.put, List.setIfInBounds_toArray, List.set_cons_zero, List.set_cons_succ]
          refine ⟨KS.of hG.2.1, ?_⟩
          refine fl_take (i := 13) (d := 7) (v := .pointer (some ⟨(y_4_10_9_7).heap.size, 0, none⟩)) rfl rfl rfl (by kernel_rfl) (by kernel_rfl) (by kernel_rfl) (KS.of hG.2.1) ?_ ?_
          · intro w' hk; go_simp
          simp only [Act.put, List.setIfInBounds_toArray, List.set_cons_zero, List.set_cons_succ]
          refine wpAnyH_done (by kernel_rfl) (NoPanic.normal ?_) _
          go_wp2_with (fail)
          go_meet
          exact ⟨_, _, _, _, _, rfl, hG⟩
    · clear hi
      refine op_val (d := 26) (v := .map (some (V.drew).heap.size)) (w' := (V.drew).alloc (.map #[] 0)) rfl rfl rfl (by go_simp; try rfl) ?_
      simp only [Act.put, List.setIfInBounds_toArray, List.set_cons_zero, List.set_cons_succ]
      have hF := hF.mkP
      refine ⟨KS.of hF.bl, ?_⟩
      obtain ⟨g_9, hg_9⟩ : ∃ x, x = (V.drew).heap.size := ⟨_, rfl⟩
      rw [← hg_9] at hF ⊢
      generalize (V.drew).alloc (.map #[] 0) = y_9 at hF ⊢
      clear hg_9
      refine wpAnyH_all (rs := [4, 10]) (by kernel_rfl) (by simp) ?_
      intro i hi
      rcases (by simpa using hi : i = 4 ∨ i = 10) with rfl | rfl
      · clear hi
        refine op_call (d := 21) rfl rfl rfl (by go_simp) ((cl_wd HRD.out.2.2.1 HRD.out.2.2.2.1 (HRD.out.1.wn.below hF.bl)).mono ?_)
        rintro e y_9_4 ⟨v_9_4, rfl, hv, hb⟩
        obtain ⟨av_9_4, cv_9_4, rfl⟩ := (OG.rg wdC_len hv).form
        have hF := hF.win hb hv
        refine ⟨_, rfl, KS.of hF.bl, ?_⟩
        simp only [Act.put, List.setIfInBounds_toArray, List.set_cons_zero, List.set_cons_succ]
        clear hv hb
        refine wpAnyH_all (rs := [7, 10]) (by kernel_rfl) (by simp) ?_
        intro i hi
        rcases (by simpa using hi : i = 7 ∨ i = 10) with rfl | rfl
        · clear hi
          refine op_call (d := 24) rfl rfl rfl (by go_simp) ((cl_int HRD.out.2.2.2.2.1 HRD.out.2.2.2.2.2 (HRD.out.1.sc.below hF.bl)).mono ?_)
          rintro e y_9_4_7 ⟨v_9_4_7, rfl, hv, hb⟩
          obtain ⟨av_9_4_7, cv_9_4_7, rfl⟩ := hv.form
          have hF := hF.scr hb hv
          refine ⟨_, rfl, KS.of hF.bl, ?_⟩
          simp only [Act.put, List.setIfInBounds_toArray, List.set_cons_zero, List.set_cons_succ]
          clear hv hb
          refine fl_take (i := 8) (d := 25) (v := .agg #[.int .i64 st, (.slice av_9_4 b.wn.length cv_9_4), .slice none 0 0, (.slice av_9_4_7 b.sc.length cv_9_4_7)]) rfl rfl rfl (by kernel_rfl) (by kernel_rfl) (by kernel_rfl) (KS.of hF.bl) ?_ ?_
          · intro w' hk; go_simp
          simp only [Act.put, List.setIfInBounds_toArray, List.set_cons_zero, List.set_cons_succ]
          refine wpAnyH_all (rs := [10]) (by kernel_rfl) (by simp) ?_
          intro i hi
          obtain rfl : i = 10 := by simpa using hi
          clear hi
          refine op_val (d := 27) (v := .map (some (y_9_4_7).heap.size)) (w' := (y_9_4_7).alloc (.map #[] 0)) rfl rfl rfl (by go_simp; try rfl) ?_
          simp only [Act.put, List.setIfInBounds_toArray, List.set_cons_zero, List.set_cons_succ]
          have hF := hF.mkM
          refine ⟨KS.of hF.bl, ?_⟩
          obtain ⟨g_9_4_7_10, hg_9_4_7_10⟩ : ∃ x, x = (y_9_4_7).heap.size := ⟨_, rfl⟩
          rw [← hg_9_4_7_10] at hF ⊢
          generalize (y_9_4_7).alloc (.map #[] 0) = y_9_4_7_10 at hF ⊢
          clear hg_9_4_7_10
          refine fl_take (i := 11) (d := 28) (v := .agg #[.int .i64 st, (.slice av_9_4 b.wn.length cv_9_4), .slice none 0 0, (.slice av_9_4_7 b.sc.length cv_9_4_7), .map (some g_9), .map (some g_9_4_7_10)]) rfl rfl rfl (by kernel_rfl) (by kernel_rfl) (by kernel_rfl) (KS.of hF.bl) ?_ ?_
          · intro w' hk; go_simp
          simp only [Act.put, List.setIfInBounds_toArray, List.set_cons_zero, List.set_cons_succ]
          have hG := hF.ob (st := st)
          refine wpAnyH_all (rs := [12]) (by kernel_rfl) (by simp) ?_
          intro i hi
          obtain rfl : i = 12 := by simpa using hi
          clear hi
          refine op_val (d := 29) (v := .pointer (some ⟨(y_9_4_7_10).heap.size, 0, none⟩)) (w' := (y_9_4_7_10).alloc (.cells #[.int .i64 st, (.slice av_9_4 b.wn.length cv_9_4), .slice none 0 0, (.slice av_9_4_7 b.sc.length cv_9_4_7), .map (some g_9), .map (some g_9_4_7_10)] 71)) rfl rfl rfl (by go_simp; try rfl) ?_
          simp only [Act.put, List.setIfInBounds_toArray, List.set_cons_zero, List.set_cons_succ]
          refine ⟨KS.of hG.2.1, ?_⟩
          refine fl_take (i := 13) (d := 7) (v := .pointer (some ⟨(y_9_4_7_10).heap.size, 0, none⟩)) rfl rfl rfl (by kernel_rfl) (by kernel_rfl) (by kernel_rfl) (KS.of hG.2.1) ?_ ?_
          · intro w' hk; go_simp
          simp only [Act.put, List.setIfInBounds_toArray, List.set_cons_zero, List.set_cons_succ]
          refine wpAnyH_done (by kernel_rfl) (NoPanic.normal ?_) _
          go_wp2_with (fail)
          go_meet
          exact ⟨_, _, _, _, _, rfl, hG⟩
        · clear hi
          refine op_val (d := 27) (v := .map (some (y_9_4).heap.size)) (w' := (y_9_4).alloc (.map #[] 0)) rfl rfl rfl (by go_simp; try rfl) ?_
          simp only [Act.put, List.setIfInBounds_toArray, List.set_cons_zero, List.set_cons_succ]
          have hF := hF.mkM
          refine ⟨KS.of hF.bl, ?_⟩
          obtain ⟨g_9_4_10, hg_9_4_10⟩ : ∃ x, x = (y_9_4).heap.size := ⟨_, rfl⟩
          rw [← hg_9_4_10] at hF ⊢
          generalize (y_9_4).alloc (.map #[] 0) = y_9_4_10 at hF ⊢
          clear hg_9_4_10
          refine wpAnyH_all (rs := [7]) (by kernel_rfl) (by simp) ?_
          intro i hi
          obtain rfl : i = 7 := by simpa using hi
          clear hi
          refine op_call (d := 24) rfl rfl rfl (by go_simp) ((cl_int HRD.out.2.2.2.2.1 HRD.out.2.2.2.2.2 (HRD.out.1.sc.below hF.bl)).mono ?_)
          rintro e y_9_4_10_7 ⟨v_9_4_10_7, rfl, hv, hb⟩
          obtain ⟨av_9_4_10_7, cv_9_4_10_7, rfl⟩ := hv.form
          have hF := hF.scr hb hv
          refine ⟨_, rfl, KS.of hF.bl, ?_⟩
          simp only [Act.put, List.setIfInBounds_toArray, List.set_cons_zero, List.set_cons_succ]
          clear hv hb
          refine fl_take (i := 8) (d := 25) (v := .agg #[.int .i64 st, (.slice av_9_4 b.wn.length cv_9_4), .slice none 0 0, (.slice av_9_4_10_7 b.sc.length cv_9_4_10_7)]) rfl rfl rfl (by kernel_rfl) (by kernel_rfl) (by kernel_rfl) (KS.of hF.bl) ?_ ?_
          · intro w' hk; go_simp
          simp only [Act.put, List.setIfInBounds_toArray, List.set_cons_zero, List.set_cons_succ]
          refine fl_take (i := 11) (d := 28) (v := .agg #[.int .i64 st, (.slice av_9_4 b.wn.length cv_9_4), .slice none 0 0, (.slice av_9_4_10_7 b.sc.length cv_9_4_10_7), .map (some g_9), .map (some g_9_4_10)]) rfl rfl rfl (by kernel_rfl) (by kernel_rfl) (by kernel_rfl) (KS.of hF.bl) ?_ ?_
          · intro w' hk; go_simp
          simp only [Act.put, List.setIfInBounds_toArray, List.set_cons_zero, List.set_cons_succ]
          have hG := hF.ob (st := st)
          refine wpAnyH_all (rs := [12]) (by kernel_rfl) (by simp) ?_
          intro i hi
          obtain rfl : i = 12 := by simpa using hi
          clear hi
          refine op_val (d := 29) (v := .pointer (some ⟨(y_9_4_10_7).heap.size, 0, none⟩)) (w' := (y_9_4_10_7).alloc (.cells #[.int .i64 st, (.slice av_9_4 b.wn.length cv_9_4), .slice none 0 0, (.slice av_9_4_10_7 b.sc.length cv_9_4_10_7), .map (some g_9), .map (some g_9_4_10)] 71)) rfl rfl rfl (by go_simp; try rfl) ?_
          simp only [Act.put, List.setIfInBounds_toArray, List.set_cons_zero, List.set_cons_succ]
          refine ⟨KS.of hG.2.1, ?_⟩
          refine fl_take (i := 13) (d := 7) (v := .pointer (some ⟨(y_9_4_10_7).heap.size, 0, none⟩)) rfl rfl rfl (by kernel_rfl) (by kernel_rfl) (by kernel_rfl) (KS.of hG.2.1) ?_ ?_
          · intro w' hk; go_simp
          simp only [Act.put, List.setIfInBounds_toArray, List.set_cons_zero, List.set_cons_succ]
          refine wpAnyH_done (by kernel_rfl) (NoPanic.normal ?_) _
          go_wp2_with (fail)
          go_meet
          exact ⟨_, _, _, _, _, rfl, hG⟩
      · clear hi
        refine op_val (d := 27) (v := .map (some (y_9).heap.size)) (w' := (y_9).alloc (.map #[] 0)) rfl rfl rfl (by go_simp; try rfl) ?_
        simp only [Act.put, List.setIfInBounds_toArray, List.set_cons_zero, List.set_cons_succ]
        have hF := hF.mkM
        refine ⟨KS.of hF.bl, ?_⟩
        obtain ⟨g_9_10, hg_9_10⟩ : ∃ x, x = (y_9).heap.size := ⟨_, rfl⟩
        rw [← hg_9_10] at hF ⊢
        generalize (y_9).alloc (.map #[] 0) = y_9_10 at hF ⊢
        clear hg_9_10
        refine wpAnyH_all (rs := [4]) (by kernel_rfl) (by simp) ?_
        intro i hi
        obtain rfl : i = 4 := by simpa using hi
        clear hi
        refine op_call (d := 21) rfl rfl rfl (by go_simp) ((cl_wd HRD.out.2.2.1 HRD.out.2.2.2.1 (HRD.out.1.wn.below hF.bl)).mono ?_)
        rintro e y_9_10_4 ⟨v_9_10_4, rfl, hv, hb⟩
        obtain ⟨av_9_10_4, cv_9_10_4, rfl⟩ := (OG.rg wdC_len hv).form
        have hF := hF.win hb hv
        refine ⟨_, rfl, KS.of hF.bl, ?_⟩
        simp only [Act.put, List.setIfInBounds_toArray, List.set_cons_zero, List.set_cons_succ]
        clear hv hb
        refine wpAnyH_all (rs := [7]) (by kernel_rfl) (by simp) ?_
        intro i hi
        obtain rfl : i = 7 := by simpa using hi
        clear hi
        refine op_call (d := 24) rfl rfl rfl (by go_simp) ((cl_int HRD.out.2.2.2.2.1 HRD.out.2.2.2.2.2 (HRD.out.1.sc.below hF.bl)).mono ?_)
        rintro e y_9_10_4_7 ⟨v_9_10_4_7, rfl, hv, hb⟩
        obtain ⟨av_9_10_4_7, cv_9_10_4_7, rfl⟩ := hv.form
        have hF := hF.scr hb hv
        refine ⟨_, rfl, KS.of hF.bl, ?_⟩
        simp only [Act.put, List.setIfInBounds_toArray, List.set_cons_zero, List.set_cons_succ]
        clear hv hb
        refine fl_take (i := 8) (d := 25) (v := .agg #[.int .i64 st, (.slice av_9_10_4 b.wn.length cv_9_10_4), .slice none 0 0, (.slice av_9_10_4_7 b.sc.length cv_9_10_4_7)]) rfl rfl rfl (by kernel_rfl) (by kernel_rfl) (by kernel_rfl) (KS.of hF.bl) ?_ ?_
        · intro w' hk; go_simp
        simp only [Act.put, List.setIfInBounds_toArray, List.set_cons_zero, List.set_cons_succ]
        refine fl_take (i := 11) (d := 28) (v := .agg #[.int .i64 st, (.slice av_9_10_4 b.wn.length cv_9_10_4), .slice none 0 0, (.slice av_9_10_4_7 b.sc.length cv_9_10_4_7), .map (some g_9), .map (some g_9_10)]) rfl rfl rfl (by kernel_rfl) (by kernel_rfl) (by kernel_rfl) (KS.of hF.bl) ?_ ?_
        · intro w' hk; go_simp
        simp only [Act.put, List.setIfInBounds_toArray, List.set_cons_zero, List.set_cons_succ]
        have hG := hF.ob (st := st)
        refine wpAnyH_all (rs := [12]) (by kernel_rfl) (by simp) ?_
        intro i hi
        obtain rfl : i = 12 := by simpa using hi
        clear hi
        refine op_val (d := 29) (v := .pointer (some ⟨(y_9_10_4_7).heap.size, 0, none⟩)) (w' := (y_9_10_4_7).alloc (.cells #[.int .i64 st, (.slice av_9_10_4 b.wn.length cv_9_10_4), .slice none 0 0, (.slice av_9_10_4_7 b.sc.length cv_9_10_4_7), .map (some g_9), .map (some g_9_10)] 71)) rfl rfl rfl (by go_simp; try rfl) ?_
        simp only [Act.put, List.setIfInBounds_toArray, List.set_cons_zero, List.set_cons_succ]
        refine ⟨KS.of hG.2.1, ?_⟩
        refine fl_take (i := 13) (d := 7) (v := .pointer (some ⟨(y_9_10_4_7).heap.size, 0, none⟩)) rfl rfl rfl (by kernel_rfl) (by kernel_rfl) (by kernel_rfl) (KS.of hG.2.1) ?_ ?_
        · intro w' hk; go_simp
        simp only [Act.put, List.setIfInBounds_toArray, List.set_cons_zero, List.set_cons_succ]
        refine wpAnyH_done (by kernel_rfl) (NoPanic.normal ?_) _
        go_wp2_with (fail)
        go_meet
        exact ⟨_, _, _, _, _, rfl, hG⟩
    · clear hi
      refine op_val (d := 27) (v := .map (some (V.drew).heap.size)) (w' := (V.drew).alloc (.map #[] 0)) rfl rfl rfl (by go_simp; try rfl) ?_
      simp only [Act.put, List.setIfInBounds_toArray, List.set_cons_zero, List.set_cons_succ]
      have hF := hF.mkM
      refine ⟨KS.of hF.bl, ?_⟩
      obtain ⟨g_10, hg_10⟩ : ∃ x, x = (V.drew).heap.size := ⟨_, rfl⟩
      rw [← hg_10] at hF ⊢
      generalize (V.drew).alloc (.map #[] 0) = y_10 at hF ⊢
      clear hg_10
      refine wpAnyH_all (rs := [4, 9]) (by kernel_rfl) (by simp) ?_
      intro i hi
      rcases (by simpa using hi : i = 4 ∨ i = 9) with rfl | rfl
      · clear hi
        refine op_call (d := 21) rfl rfl rfl (by go_simp) ((cl_wd HRD.out.2.2.1 HRD.out.2.2.2.1 (HRD.out.1.wn.below hF.bl)).mono ?_)
        rintro e y_10_4 ⟨v_10_4, rfl, hv, hb⟩
        obtain ⟨av_10_4, cv_10_4, rfl⟩ := (OG.rg wdC_len hv).form
        have hF := hF.win hb hv
        refine ⟨_, rfl, KS.of hF.bl, ?_⟩
        simp only [Act.put, List.setIfInBounds_toArray, List.set_cons_zero, List.set_cons_succ]
        clear hv hb
        refine wpAnyH_all (rs := [7, 9]) (by kernel_rfl) (by simp) ?_
        intro i hi
        rcases (by simpa using hi : i = 7 ∨ i = 9) with rfl | rfl
        · clear hi
          refine op_call (d := 24) rfl rfl rfl (by go_simp) ((cl_int HRD.out.2.2.2.2.1 HRD.out.2.2.2.2.2 (HRD.out.1.sc.below hF.bl)).mono ?_)
          rintro e y_10_4_7 ⟨v_10_4_7, rfl, hv, hb⟩
          obtain ⟨av_10_4_7, cv_10_4_7, rfl⟩ := hv.form
          have hF := hF.scr hb hv
          refine ⟨_, rfl, KS.of hF.bl, ?_⟩
          simp only [Act.put, List.setIfInBounds_toArray, List.set_cons_zero, List.set_cons_succ]
          clear hv hb
          refine fl_take (i := 8) (d := 25) (v := .agg #[.int .i64 st, (.slice av_10_4 b.wn.length cv_10_4), .slice none 0 0, (.slice av_10_4_7 b.sc.length cv_10_4_7)]) rfl rfl rfl (by kernel_rfl) (by kernel_rfl) (by kernel_rfl) (KS.of hF.bl) ?_ ?_
          · intro w' hk; go_simp
          simp only [Act.put, List.setIfInBounds_toArray, List.set_cons_zero, List.set_cons_succ]
          refine wpAnyH_all (rs := [9]) (by kernel_rfl) (by simp) ?_
          intro i hi
          obtain rfl : i = 9 := by simpa using hi
          clear hi
          refine op_val (d := 26) (v := .map (some (y_10_4_7).heap.size)) (w' := (y_10_4_7).alloc (.map #[] 0)) rfl rfl rfl (by go_simp; try rfl) ?_
          simp only [Act.put, List.setIfInBounds_toArray, List.set_cons_zero, List.set_cons_succ]
          have hF := hF.mkP
          refine ⟨KS.of hF.bl, ?_⟩
          obtain ⟨g_10_4_7_9, hg_10_4_7_9⟩ : ∃ x, x = (y_10_4_7).heap.size := ⟨_, rfl⟩
          rw [← hg_10_4_7_9] at hF ⊢
          generalize (y_10_4_7).alloc (.map #[] 0) = y_10_4_7_9 at hF ⊢
          clear hg_10_4_7_9
          refine fl_take (i := 11) (d := 28) (v := .agg #[.int .i64 st, (.slice av_10_4 b.wn.length cv_10_4), .slice none 0 0, (.slice av_10_4_7 b.sc.length cv_10_4_7), .map (some g_10_4_7_9), .map (some g_10)]) rfl rfl rfl (by kernel_rfl) (by kernel_rfl) (by kernel_rfl) (KS.of hF.bl) ?_ ?_
          · intro w' hk; go_simp
          simp only [Act.put, List.setIfInBounds_toArray, List.set_cons_zero, List.set_cons_succ]
          have hG := hF.ob (st := st)
          refine wpAnyH_all (rs := [12]) (by kernel_rfl) (by simp) ?_
          intro i hi
          obtain rfl : i = 12 := by simpa using hi
          clear hi
          refine op_val (d := 29) (v := .pointer (some ⟨(y_10_4_7_9).heap.size, 0, none⟩)) (w' := (y_10_4_7_9).alloc (.cells #[.int .i64 st, (.slice av_10_4 b.wn.length cv_10_4), .slice none 0 0, (.slice av_10_4_7 b.sc.length cv_10_4_7), .map (some g_10_4_7_9), .map (some g_10)] 71)) rfl rfl rfl (by go_simp; try rfl) ?_
          simp only [Act.put, List.setIfInBounds_toArray, List.set_cons_zero, List.set_cons_succ]
          refine ⟨KS.of hG.2.1, ?_⟩
          refine fl_take (i := 13) (d := 7) (v := .pointer (some ⟨(y_10_4_7_9).heap.size, 0, none⟩)) rfl rfl rfl (by kernel_rfl) (by kernel_rfl) (by kernel_rfl) (KS.of hG.2.1) ?_ ?_
          · intro w' hk; go_simp
          simp only [Act.put, List.setIfInBounds_toArray, List.set_cons_zero, List.set_cons_succ]
          refine wpAnyH_done (by kernel_rfl) (NoPanic.normal ?_) _
          go_wp2_with (fail)
          go_meet
          exact ⟨_, _, _, _, _, rfl, hG⟩
        · clear hi
          refine op_val (d := 26) (v := .map (some (y_10_4).heap.size)) (w' := (y_10_4).alloc (.map #[] 0)) rfl rfl rfl (by go_simp; try rfl) ?_
          simp only [Act.put, List.setIfInBounds_toArray, List.set_cons_zero, List.set_cons_succ]
          have hF := hF.mkP
          refine ⟨KS.of hF.bl, ?_⟩
          obtain ⟨g_10_4_9, hg_10_4_9⟩ : ∃ x, x = (y_10_4).heap.size := ⟨_, rfl⟩
          rw [← hg_10_4_9] at hF ⊢
          generalize (y_10_4).alloc (.map #[] 0) = y_10_4_9 at hF ⊢
          clear hg_10_4_9
          refine wpAnyH_all (rs := [7]) (by kernel_rfl) (by simp) ?_
          intro i hi
          obtain rfl : i = 7 := by simpa using hi
          clear hi
          refine op_call (d := 24) rfl rfl rfl (by go_simp) ((cl_int HRD.out.2.2.2.2.1 HRD.out.2.2.2.2.2 (HRD.out.1.sc.below hF.bl)).mono ?_)
          rintro e y_10_4_9_7 ⟨v_10_4_9_7, rfl, hv, hb⟩
          obtain ⟨av_10_4_9_7, cv_10_4_9_7, rfl⟩ := hv.form
          have hF := hF.scr hb hv
          refine ⟨_, rfl, KS.of hF.bl, ?_⟩
          simp only [Act.put, List.setIfInBounds_toArray, List.set_cons_zero, List.set_cons_succ]
          clear hv hb
          refine fl_take (i := 8) (d := 25) (v := .agg #[.int .i64 st, (.slice av_10_4 b.wn.length cv_10_4), .slice none 0 0, (.slice av_10_4_9_7 b.sc.length cv_10_4_9_7)]) rfl rfl rfl (by kernel_rfl) (by kernel_rfl) (by kernel_rfl) (KS.of hF.bl) ?_ ?_
          · intro w' hk; go_simp
          simp only [Act.put, List.setIfInBounds_toArray, List.set_cons_zero, List.set_cons_succ]
          refine fl_take (i := 11) (d := 28) (v := .agg #[.int .i64 st, (.slice av_10_4 b.wn.length cv_10_4), .slice none 0 0, (.slice av_10_4_9_7 b.sc.length cv_10_4_9_7), .map (some g_10_4_9), .map (some g_10)]) rfl rfl rfl (by kernel_rfl) (by kernel_rfl) (by kernel_rfl) (KS.of hF.bl) ?_ ?_
          · intro w' hk; go_simp
          simp only [Act.put, List.setIfInBounds_toArray, List.set_cons_zero, List.set_cons_succ]
          have hG := hF.ob (st := st)
          refine wpAnyH_all (rs := [12]) (by kernel_rfl) (by simp) ?_
          intro i hi
          obtain rfl : i = 12 := by simpa using hi
          clear hi
          refine op_val (d := 29) (v := .pointer (some ⟨(y_10_4_9_7).heap.size, 0, none⟩)) (w' := (y_10_4_9_7).alloc (.cells #[.int .i64 st, (.slice av_10_4 b.wn.length cv_10_4), .slice none 0 0, (.slice av_10_4_9_7 b.sc.length cv_10_4_9_7), .map (some g_10_4_9), .map (some g_10)] 71)) rfl rfl rfl (by go_simp; try rfl) ?_
          simp only [Act.put, List.setIfInBounds_toArray, List.set_cons_zero, List.set_cons_succ]
          refine ⟨KS.of hG.2.1, ?_⟩
          refine fl_take (i := 13) (d := 7) (v := .pointer (some ⟨(y_10_4_9_7).heap.size, 0, none⟩)) rfl rfl rfl (by kernel_rfl) (by kernel_rfl) (by kernel_rfl) (KS.of hG.2.1) ?_ ?_
          · intro w' hk; go_simp
          simp only [Act.put, List.setIfInBounds_toArray, List.set_cons_zero, List.set_cons_succ]
          refine wpAnyH_done (by kernel_rfl) (NoPanic.normal ?_) _
          go_wp2_with (fail)
          go_meet
          exact ⟨_, _, _, _, _, rfl, hG⟩
      · clear hi
        refine op_val (d := 26) (v := .map (some (y_10).heap.size)) (w' := (y_10).alloc (.map #[] 0)) rfl rfl rfl (by go_simp; try rfl) ?_
        simp only [Act.put, List.setIfInBounds_toArray, List.set_cons_zero, List.set_cons_succ]
        have hF := hF.mkP
        refine ⟨KS.of hF.bl, ?_⟩
        obtain ⟨g_10_9, hg_10_9⟩ : ∃ x, x = (y_10).heap.size := ⟨_, rfl⟩
        rw [← hg_10_9] at hF ⊢
        generalize (y_10).alloc (.map #[] 0) = y_10_9 at hF ⊢
        clear hg_10_9
        refine wpAnyH_all (rs := [4]) (by kernel_rfl) (by simp) ?_
        intro i hi
        obtain rfl : i = 4 := by simpa using hi
        clear hi
        refine op_call (d := 21) rfl rfl rfl (by go_simp) ((cl_wd HRD.out.2.2.1 HRD.out.2.2.2.1 (HRD.out.1.wn.below hF.bl)).mono ?_)
        rintro e y_10_9_4 ⟨v_10_9_4, rfl, hv, hb⟩
        obtain ⟨av_10_9_4, cv_10_9_4, rfl⟩ := (OG.rg wdC_len hv).form
        have hF := hF.win hb hv
        refine ⟨_, rfl, KS.of hF.bl, ?_⟩
        simp only [Act.put, List.setIfInBounds_toArray, List.set_cons_zero, List.set_cons_succ]
        clear hv hb
        refine wpAnyH_all (rs := [7]) (by kernel_rfl) (by simp) ?_
        intro i hi
        obtain rfl : i = 7 := by simpa using hi
        clear hi
        refine op_call (d := 24) rfl rfl rfl (by go_simp) ((cl_int HRD.out.2.2.2.2.1 HRD.out.2.2.2.2.2 (HRD.out.1.sc.below hF.bl)).mono ?_)
        rintro e y_10_9_4_7 ⟨v_10_9_4_7, rfl, hv, hb⟩
        obtain ⟨av_10_9_4_7, cv_10_9_4_7, rfl⟩ := hv.form
        have hF := hF.scr hb hv
        refine ⟨_, rfl, KS.of hF.bl, ?_⟩
        simp only [Act.put, List.setIfInBounds_toArray, List.set_cons_zero, List.set_cons_succ]
        clear hv hb
        refine fl_take (i := 8) (d := 25) (v := .agg #[.int .i64 st, (.slice av_10_9_4 b.wn.length cv_10_9_4), .slice none 0 0, (.slice av_10_9_4_7 b.sc.length cv_10_9_4_7)]) rfl rfl rfl (by kernel_rfl) (by kernel_rfl) (by kernel_rfl) (KS.of hF.bl) ?_ ?_
        · intro w' hk; go_simp
        simp only [Act.put, List.setIfInBounds_toArray, List.set_cons_zero, List.set_cons_succ]
        refine fl_take (i := 11) (d := 28) (v := .agg #[.int .i64 st, (.slice av_10_9_4 b.wn.length cv_10_9_4), .slice none 0 0, (.slice av_10_9_4_7 b.sc.length cv_10_9_4_7), .map (some g_10_9), .map (some g_10)]) rfl rfl rfl (by kernel_rfl) (by kernel_rfl) (by kernel_rfl) (KS.of hF.bl) ?_ ?_
        · intro w' hk; go_simp
        simp only [Act.put, List.setIfInBounds_toArray, List.set_cons_zero, List.set_cons_succ]
        have hG := hF.ob (st := st)
        refine wpAnyH_all (rs := [12]) (by kernel_rfl) (by simp) ?_
        intro i hi
        obtain rfl : i = 12 := by simpa using hi
        clear hi
        refine op_val (d := 29) (v := .pointer (some ⟨(y_10_9_4_7).heap.size, 0, none⟩)) (w' := (y_10_9_4_7).alloc (.cells #[.int .i64 st, (.slice av_10_9_4 b.wn.length cv_10_9_4), .slice none 0 0, (.slice av_10_9_4_7 b.sc.length cv_10_9_4_7), .map (some g_10_9), .map (some g_10)] 71)) rfl rfl rfl (by go_simp; try rfl) ?_
        simp only [Act.put, List.setIfInBounds_toArray, List.set_cons_zero, List.set_cons_succ]
        refine ⟨KS.of hG.2.1, ?_⟩
        refine fl_take (i := 13) (d := 7) (v := .pointer (some ⟨(y_10_9_4_7).heap.size, 0, none⟩)) rfl rfl rfl (by kernel_rfl) (by kernel_rfl) (by kernel_rfl) (KS.of hG.2.1) ?_ ?_
        · intro w' hk; go_simp
        simp only [Act.put, List.setIfInBounds_toArray, List.set_cons_zero, List.set_cons_succ]
        refine wpAnyH_done (by kernel_rfl) (NoPanic.normal ?_) _
        go_wp2_with (fail)
        go_meet
        exact ⟨_, _, _, _, _, rfl, hG⟩
  case rest =>
  obtain ⟨KK, bp, bm, vw, vs, rfl, hR0⟩ := hcut
  clear p0 p1 p2 p3 pl
  have HR1 : Hid (OB wc V.heap.size KK bp bm vw (.slice none 0 0) vs (fun _ => none) { b with ls := b.ls.take 0 } [] ∧ Below V.heap.size V wc ∧ TM wc 2 bm 0 (fun _ => none)) := by
    have e : ({ b with ls := b.ls.take 0 } : Bk) = ⟨st, b.wn, [], b.sc⟩ := by rw [← H.out.2.2.2.2.2.2.2.2]; rfl
    rw [e]; exact hR0.out
  clear hR0
  have q2 := cellOf ((HR1.out.2.1.block _ (ltOf HV.out.2)).trans HV.out.2) 2 rfl
  have ql := ltOf ((HR1.out.2.1.block _ (ltOf HV.out.2)).trans HV.out.2)
  have hl30 : ln ≤ 30 := by rw [H.out.2.2.2.2.2.2.1]; exact HG.out.ls
  go_wp2
  clear q2 ql
  go_loopw [33] (fun i wr => ∃ j : Nat, j ≤ ln ∧ i = .int .i64 j ∧ Hid (∃ vl f rs, OB wr V.heap.size KK bp bm vw vl vs f { b with ls := b.ls.take j } rs ∧ Below V.heap.size V wr ∧ TM wr 2 bm j f)) (fun i _ => ln - (intOf i).toNat)
  case atStart => exact ⟨0, Nat.zero_le _, rfl, _, _, _, HR1.out⟩
  case round =>
    clear HR1
    obtain ⟨j, hjn, rfl, hR⟩ := hrel
    obtain ⟨vl, f, rs, hob, hbl, htm⟩ := hR.out
    clear hR
    have HR : Hid (OB wr V.heap.size KK bp bm vw vl vs f { b with ls := b.ls.take j } rs ∧ Below V.heap.size V wr ∧ TM wr 2 bm j f) := ⟨hob, hbl, htm⟩
    clear hob hbl htm
    by_cases hlt : j < ln
    · have hjl : j < b.ls.length := by rw [← H.out.2.2.2.2.2.2.1]; exact hlt
      obtain ⟨g, o, c2, he, hg, x, hx, hnc, c0, c1, c2', c3, c4⟩ := (HRD.out.1.ls.below HR.out.2.1).at hjl
      simp only [Value.slice.injEq] at he
      obtain ⟨rfl, hx1, hx2⟩ := he
      clear hx1 hx2
      have HXX : Hid (Lr1 wr x b.ls[j] ∧ (NC x.wv ∧ NC x.dv)) := ⟨hx, hnc⟩
      clear hx hnc
      have b0 : (0 : Int) ≤ (j : Int) := by omega
      have b1 : (j : Int) < (ln : Int) := by omega
      go_wp2_with (fail)
      obtain ⟨V8, hV8⟩ : ∃ X, X = wr.alloc (.cells #[.int .i64 x.id, .int .i64 x.pa, .slice x.wa x.wn x.wc, .bool x.hd, .slice x.da x.dn x.dc] 61) := ⟨_, rfl⟩
      have HV8 : Hid (Below wr.heap.size wr V8) := by unfold Hid; rw [hV8]; (repeat' (first | (with_reducible exact Below.refl _ _) | (with_reducible assumption) | (with_reducible refine Below.setCell ?_ ?_ _) | (with_reducible refine Below.alloc ?_ ?_ _) | (with_reducible refine below_drewN ?_ _) | (with_reducible refine Below.drew ?_) | (with_reducible exact Nat.le_refl _) | omega | (simp; done) | (simp; omega)))
      rw [← hV8]
      clear hV8 c0 c1 c2' c3 c4
      refine (impl_add (b := { b with ls := b.ls.take j }) (l := b.ls[j]) (HR.out.1.below HV8.out) (HXX.out.1.below HV8.out) HXX.out.2 ⟨by have := HG.out.ws j hjl; omega, by have := HG.out.dn j hjl; have := HG.out.st; omega⟩ (HG.out.id j hjl) ?_ (by simp; omega) j (by omega) (HR.out.2.2.below HV8.out)).mono ?_
      · intro i hi
        have hij : i < j := by simp at hi; omega
        have e : (b.ls.take j)[i]'hi = b.ls[i]'(by omega) := by simp
        show ((b.ls.take j)[i]'hi).id ≠ _
        rw [e]
        exact HG.out.ne i j (by omega) hjl hij
      rintro e w3 ⟨⟨vv, rfl⟩, vl', f', rs', ho3, ht3, hb3⟩
      have HN : Hid (∃ vl f rs, OB w3 V.heap.size KK bp bm vw vl vs f { b with ls := b.ls.take (j + 1) } rs ∧ Below V.heap.size V w3 ∧ TM w3 2 bm (j + 1) f) := by
        refine ⟨vl', f', rs', ?_, HR.out.2.1.trans ((HV8.out.mono HR.out.2.1.size).trans hb3), ht3⟩
        rw [← List.take_append_getElem hjl]
        exact ho3
      clear ho3 ht3 hb3 HV8 HR HXX
      go_wp2
      go_roundw
      case rel => exact ⟨j + 1, by omega, by go_num, HN.out⟩
      case measure => simp [intOf]; omega
    · obtain rfl : j = ln := by omega
      have HO : Hid (OB wr V.heap.size KK bp bm vw vl vs f b rs ∧ Below V.heap.size V wr ∧ TM wr 2 bm j f) := by
        have e : ({ b with ls := b.ls.take j } : Bk) = b := by rw [H.out.2.2.2.2.2.2.1, List.take_length]
        have h9 := HR.out
        rw [e] at h9
        exact h9
      clear HR hlt
      have k4 := (six_of HO.out.1.bx).2.2.2.2.1
      have kl := ltOf HO.out.1.bx
      obtain ⟨W9, hW9⟩ : ∃ X, X = wr := ⟨_, rfl⟩
      rw [← hW9] at HO k4 kl ⊢
      clear hW9
      go_wp2
      go_loopw [43] (fun i wr => ∃ k : Nat, k ≤ idn ∧ i = .int .i64 k ∧ Hid (∀ i, i < k → 0 ≤ fdI (idA b.ls) (ids.getD i 0) b.ls.length) ∧ wr = W9) (fun i _ => idn - (intOf i).toNat)
      case atStart => exact ⟨0, Nat.zero_le _, rfl, (fun i hi => by omega), rfl⟩
      case round =>
        obtain ⟨k, hkn, rfl, hR, rfl⟩ := hrel
        by_cases hlt2 : k < idn
        · obtain ⟨g, o, rfl, hg, hc⟩ := rd_at (HRD.out.2.1.below HO.out.2.1) hlt2
          obtain ⟨y, hy⟩ : ∃ y, y = ids.getD k 0 := ⟨_, rfl⟩
          rw [← hy] at hc
          have hkl : k < ids.length := by rw [← H.out.2.2.2.2.2.2.2.1]; exact hlt2
          have hym : y ∈ ids := by rw [hy]; simp [List.getD, hkl]
          have hyw : (Lit.int .i64 y).wf = true := H.out.2.2.2.1 y hym
          obtain ⟨q, hq⟩ : ∃ q, q = decide (0 ≤ fdI (idA b.ls) y b.ls.length) := ⟨_, rfl⟩
          have HH : Hid (Calls Try.prog 73 #[.map (some bp), .int .i64 y] wr fun e w' => e = .returned (.bool q) ∧ w' = wr) := by
            rw [hq, ← plF_some]; exact impl_has hyw HO.out.1.ip
          have HQ : Hid (q = decide (0 ≤ fdI (idA b.ls) y b.ls.length) ∧ y = ids.getD k 0 ∧ y ∈ ids) := ⟨hq, hy, hym⟩
          clear hq hy hym hyw
          have b0 : (0 : Int) ≤ (k : Int) := by omega
          have b1 : (k : Int) < (idn : Int) := by omega
          cases q
          · have HD : Hid (C = 4) := by
              unfold Hid
              rw [HCZ.out, if_neg (fun e => absurd (e y HQ.out.2.2) (of_decide_eq_false HQ.out.1.symm))]
            clear hR
            go_wp2_with (fail)
            refine HH.out.mono ?_
            rintro e w2 ⟨rfl, hw2⟩
            subst w2
            go_wp2
            go_returns
            exact ⟨none, by rw [HD.out]; rfl, fun _ => rfl, fun e => (by rw [HD.out] at e; cases e), HV.out.1.trans (HO.out.2.1.mono HV.out.1.size)⟩
          · have HN : Hid (∀ i, i < k + 1 → 0 ≤ fdI (idA b.ls) (ids.getD i 0) b.ls.length) := fun i hi => by
              rcases (by omega : i < k ∨ i = k) with e | e
              · exact hR.out i e
              · subst e; rw [← HQ.out.2.1]; exact of_decide_eq_true HQ.out.1.symm
            clear hR
            go_wp2_with (fail)
            refine HH.out.mono ?_
            rintro e w2 ⟨rfl, hw2⟩
            subst w2
            go_wp2
            go_roundw
            case rel => exact ⟨k + 1, by omega, by go_num, HN.out, trivial⟩
            case measure => simp [intOf]; omega
        · obtain rfl : k = idn := by omega
          have HD : Hid (C = 0) := by
            unfold Hid
            rw [HCZ.out, if_pos]
            intro x hx
            obtain ⟨i, hi, e⟩ := List.getElem_of_mem hx
            have := hR.out i (by rw [H.out.2.2.2.2.2.2.2.1]; exact hi)
            rw [show ids.getD i 0 = x from by simp [List.getD, hi, e]] at this
            exact this
          clear hR
          go_wp2
          go_returns
          exact ⟨some ⟨KK, 0, none⟩, by rw [HD.out]; rfl, fun e => absurd HD.out e, fun _ => ⟨KK, rfl, bp, bm, vw, vl, vs, f, rs, j, HO.out.1.low HV.out.1.size, by rw [H.out.2.2.2.2.2.2.1]; exact Nat.le_refl _, HO.out.2.2⟩, HV.out.1.trans (HO.out.2.1.mono HV.out.1.size)⟩

end Go.Proofs.Ytcfjanignfbidaa
