/- Proved here: CheckWindow of the program. -/
import Derived.Test.YthmddnachancfaaWkI
import Derived.Test.YthmddnachancfaaWkG
import Derived.Test.YthmddnachancfaaWnL
import Derived.Test.YthmddnachancfaaRegG
namespace Go.Proofs.Ythmddnachancfaa
open Go.RowKit
set_option linter.unusedVariables false
set_option linter.unusedSimpArgs false

set_option maxRecDepth 10000 in
set_option maxHeartbeats 25600000 in
theorem impl_ck (C A x0 y0 x1 y1 : Int) {w : World} {v : Value} {ls : List (List Int)} (hn : SmR ls) (h : RdR w v ls) :
    Calls Try.prog 25 #[v, .agg #[.int .i64 C, .int .i64 A, .int .i64 x0, .int .i64 y0, .int .i64 x1, .int .i64 y1]] w fun e w' => e = .returned (.bool (ckW ls C A x0 y0 x1 y1)) ∧ Below w.heap.size w w' := by
  obtain ⟨a, c, rfl⟩ := h.form
  obtain ⟨n, hnn⟩ : ∃ n, n = ls.length := ⟨_, rfl⟩
  obtain ⟨R, hR⟩ : ∃ R, R = ckW ls C A x0 y0 x1 y1 := ⟨_, rfl⟩
  obtain ⟨D, hD⟩ : ∃ C, C = lwC ls := ⟨_, rfl⟩
  obtain ⟨E, hE⟩ : ∃ C, C = lwW ls := ⟨_, rfl⟩
  rw [← hR]
  rw [← hnn] at h ⊢
  have hn' : n ≤ 1048576 := by rw [hnn]; exact hn.len
  have HF : Hid (∀ W, Below w.heap.size w W → Calls Try.prog 21 #[.slice a n c] W fun e w' => e = .returned (.agg #[.int .i64 D, .int .i64 E.a, .int .i64 E.x0, .int .i64 E.y0, .int .i64 E.x1, .int .i64 E.y1]) ∧ Below W.heap.size W w') := fun W hW => by rw [hD, hE]; exact impl_lw hn (h.below hW)
  have H : Hid (RdR w (.slice a n c) ls ∧ n = ls.length ∧ R = ckW ls C A x0 y0 x1 y1 ∧ D = lwC ls ∧ E = lwW ls) := ⟨h, hnn, hR, hD, hE⟩
  clear h hn hnn hR hD hE
  obtain ⟨V0, hV0⟩ : ∃ V, V = w.alloc (.cells #[.int .i64 C, .int .i64 A, .int .i64 x0, .int .i64 y0, .int .i64 x1, .int .i64 y1] 36) := ⟨_, rfl⟩
  have HV0 : Hid (V0.heap[w.heap.size]? = some (.cells #[.int .i64 C, .int .i64 A, .int .i64 x0, .int .i64 y0, .int .i64 x1, .int .i64 y1] 36) ∧ Below w.heap.size w V0) := by
    rw [hV0]; exact ⟨heap_alloc_new w _, by (repeat' (first | (with_reducible exact Below.refl _ _) | (with_reducible assumption) | (with_reducible refine Below.setCell ?_ ?_ _) | (with_reducible refine Below.alloc ?_ ?_ _) | (with_reducible refine below_drewN ?_ _) | (with_reducible refine Below.drew ?_) | (with_reducible exact Nat.le_refl _) | omega | (simp; done) | (simp; omega)))⟩
  go_enter Try.func25, Try.ntmps25
  go_wp2_with (fail)
  rw [← hV0]
  clear hV0
  refine (HF.out _ HV0.out.2).mono ?_
  rintro e w1 ⟨rfl, hb1⟩
  have HV1 : Hid (w1.heap[w.heap.size]? = some (.cells #[.int .i64 C, .int .i64 A, .int .i64 x0, .int .i64 y0, .int .i64 x1, .int .i64 y1] 36) ∧ Below w.heap.size w w1) := ⟨(hb1.block _ (ltOf HV0.out.1)).trans HV0.out.1, HV0.out.2.trans (hb1.mono HV0.out.2.size)⟩
  clear HF HV0 hb1
  obtain ⟨V, hV⟩ : ∃ V, V = w1.alloc (.cells #[.int .i64 D, .int .i64 E.a, .int .i64 E.x0, .int .i64 E.y0, .int .i64 E.x1, .int .i64 E.y1] 36) := ⟨_, rfl⟩
  have HV : Hid (V.heap[w.heap.size]? = some (.cells #[.int .i64 C, .int .i64 A, .int .i64 x0, .int .i64 y0, .int .i64 x1, .int .i64 y1] 36) ∧ V.heap[w1.heap.size]? = some (.cells #[.int .i64 D, .int .i64 E.a, .int .i64 E.x0, .int .i64 E.y0, .int .i64 E.x1, .int .i64 E.y1] 36) ∧ Below w.heap.size w V) := by
    have hbV : Below w1.heap.size w1 V := by rw [hV]; (repeat' (first | (with_reducible exact Below.refl _ _) | (with_reducible assumption) | (with_reducible refine Below.setCell ?_ ?_ _) | (with_reducible refine Below.alloc ?_ ?_ _) | (with_reducible refine below_drewN ?_ _) | (with_reducible refine Below.drew ?_) | (with_reducible exact Nat.le_refl _) | omega | (simp; done) | (simp; omega)))
    exact ⟨(hbV.block _ (ltOf HV1.out.1)).trans HV1.out.1, by rw [hV]; exact heap_alloc_new w1 _, HV1.out.2.trans (hbV.mono HV1.out.2.size)⟩
  obtain ⟨p0, p1, p2, p3, p4, p5, _, pl⟩ := sixS HV.out.1
  obtain ⟨q0, q1, q2, q3, q4, q5, _, ql⟩ := sixS HV.out.2.1
  go_upto_region 2 with fail
  rw [← hV]
  clear hV HV1
  by_cases hD0 : D = 0
  case neg =>
    obtain rfl : R = false := by rw [H.out.2.2.1]; exact ck_no1 (by rw [← H.out.2.2.2.1]; exact hD0)
    have hA1 : (D != 0) = true := by simpa using hD0
    go_wp2
    go_returns
    exact ⟨rfl, HV.out.2.2⟩
  by_cases hC0 : C = 0
  case neg =>
    obtain rfl : R = false := by rw [H.out.2.2.1]; exact ck_no2 hC0
    have hA1 : (C != 0) = true := by simpa using hC0
    subst hD0
    go_wp2
    go_returns
    exact ⟨rfl, HV.out.2.2⟩
  have hEl : E = lwB ls := by rw [H.out.2.2.2.2]; unfold lwW; rw [if_pos (H.out.2.2.2.1.symm.trans hD0)]
  have hpm := lwC_ok (H.out.2.2.2.1.symm.trans hD0)
  by_cases hAE : A = E.a
  case neg =>
    obtain rfl : R = false := by rw [H.out.2.2.1]; exact ck_no3 (by rw [← hEl]; exact hAE)
    have hA1 : (A != E.a) = true := by simpa using hAE
    clear hEl
    subst hD0 hC0
    go_wp2
    go_returns
    exact ⟨rfl, HV.out.2.2⟩
  have hG := pmC_good hpm
  obtain ⟨wd, hwd⟩ : ∃ n, n = (ls.getD 0 []).length := ⟨_, rfl⟩
  have hn16 : n ≤ 16 := by rw [H.out.2.1]; exact hG.h1
  have hn0 : 0 < n := by rw [H.out.2.1]; exact hG.h0
  have hw16 : wd ≤ 16 := by rw [hwd]; exact hG.w1
  have HC : Hid (C = 0 ∧ A = (lwB ls).a ∧ pmC ls = 0 ∧ wd = (ls.getD 0 []).length) := ⟨hC0, by rw [← hEl]; exact hAE, hpm, hwd⟩
  have HEND : Hid (∀ V, Below w.heap.size w V → Calls Try.prog 40 #[.agg #[.slice a n c, .slice none 0 0, .int .i64 0, .int .i64 0]] V fun e w' => e = .returned (.agg #[.int .i64 wd, .int .i64 n]) ∧ Below V.heap.size V w') := fun V hV => by
    rw [hwd]; exact impl_end hn0 (by omega) (H.out.1.below hV)
  have HKD : Hid (∀ V, Below w.heap.size w V → Kd 50 (.agg #[.slice a n c, .slice none 0 0, .int .i64 0, .int .i64 0]) n wd (oneP ls) V) := fun V hV => by
    have := kd_one (oa := none) (on := 0) (oc := 0) (lo := 0) (hi := 0) hG (H.out.1.below hV)
    rw [← hwd] at this
    exact this
  have hA2 : (A != E.a) = false := by rw [hAE]; simp
  clear hG hwd hpm hEl hAE
  subst hD0
  have hC2 : (C != 0) = false := by rw [hC0]; simp
  clear hC0
  go_upto_region 5 with fail
  obtain ⟨U, hU⟩ : ∃ U, U = V.alloc (.cells #[.slice a n c, .slice none 0 0, .int .i64 0, .int .i64 0] 58) := ⟨_, rfl⟩
  have HU : Hid (U.heap[w.heap.size]? = some (.cells #[.int .i64 C, .int .i64 A, .int .i64 x0, .int .i64 y0, .int .i64 x1, .int .i64 y1] 36) ∧ U.heap[V.heap.size]? = some (.cells #[.slice a n c, .slice none 0 0, .int .i64 0, .int .i64 0] 58) ∧ Below w.heap.size w U) := by
    have hbU : Below V.heap.size V U := by rw [hU]; (repeat' (first | (with_reducible exact Below.refl _ _) | (with_reducible assumption) | (with_reducible refine Below.setCell ?_ ?_ _) | (with_reducible refine Below.alloc ?_ ?_ _) | (with_reducible refine below_drewN ?_ _) | (with_reducible refine Below.drew ?_) | (with_reducible exact Nat.le_refl _) | omega | (simp; done) | (simp; omega)))
    exact ⟨(hbU.block _ (ltOf HV.out.1)).trans HV.out.1, by rw [hU]; exact heap_alloc_new V _, HV.out.2.2.trans (hbU.mono HV.out.2.2.size)⟩
  rw [← hU]
  clear hU p0 p1 p2 p3 p4 p5 pl q0 q1 q2 q3 q4 q5 ql
  obtain ⟨p0, p1, p2, p3, p4, p5, _, pl⟩ := sixS HU.out.1
  obtain ⟨e0, e1, e2, e3, el⟩ := four_of HU.out.2.1
  have hb := HU.out.2.2
  clear HU HV
  by_cases hin : 0 ≤ x0 ∧ x0 < x1 ∧ x1 ≤ (wd : Int) ∧ 0 ≤ y0 ∧ y0 < y1 ∧ y1 ≤ (n : Int)
  case neg =>
    obtain rfl : R = false := by
      rw [H.out.2.2.1]; refine ck_no4 ?_; rw [← HC.out.2.2.2, ← H.out.2.1]; exact hin
    have HIN : Hid (∀ W, Calls Try.prog 55 #[.agg #[.int .i64 x0, .int .i64 y0, .int .i64 x1, .int .i64 y1], .agg #[.int .i64 wd, .int .i64 n]] W fun e w' => e = .returned (.bool false) ∧ Below W.heap.size W w') := fun W => by
      have := impl_within x0 y0 x1 y1 wd n (by omega) (by omega) W
      rw [decide_eq_false hin] at this; exact this
    clear hin
    refine wp_region_float (by kernel_rfl) (fun hS => ?_)
    refine fl_take (i := 0) (d := 26) (v := .pointer (some ⟨w.heap.size, 2, none⟩)) rfl rfl rfl (by kernel_rfl) (by kernel_rfl) (by kernel_rfl) hS ?_ ?_
    · intro w' hk; go_simp
    simp only [Act.put, List.setIfInBounds_toArray, List.set_cons_zero, List.set_cons_succ]
    refine fl_take (i := 1) (d := 27) (v := .agg #[.int .i64 x0, .int .i64 y0, .int .i64 x1, .int .i64 y1]) rfl rfl rfl (by kernel_rfl) (by kernel_rfl) (by kernel_rfl) hS ?_ ?_
    · intro w' hk; go_simp
    simp only [Act.put, List.setIfInBounds_toArray, List.set_cons_zero, List.set_cons_succ]
    refine fl_take (i := 2) (d := 28) (v := .agg #[.slice a n c, .slice none 0 0, .int .i64 0, .int .i64 0]) rfl rfl rfl (by kernel_rfl) (by kernel_rfl) (by kernel_rfl) hS ?_ ?_
    · intro w' hk; go_simp
    simp only [Act.put, List.setIfInBounds_toArray, List.set_cons_zero, List.set_cons_succ]
    refine wpAnyH_all (rs := [3]) (by kernel_rfl) (by simp) ?_
    intro i hi9; obtain rfl := List.mem_singleton.1 hi9; clear hi9
    refine op_call (d := 29) rfl rfl rfl (by go_simp) ((HEND.out _ (hb.trans (hS.2.mono hb.size))).mono ?_)
    rintro e y1_ ⟨rfl, hy1⟩
    have hS1 := hS.call hy1
    clear hS hy1
    have hS := hS1
    clear hS1
    refine ⟨_, rfl, hS, ?_⟩
    simp only [Act.put, List.setIfInBounds_toArray, List.set_cons_zero, List.set_cons_succ]
    refine wpAnyH_all (rs := [4]) (by kernel_rfl) (by simp) ?_
    intro i hi9; obtain rfl := List.mem_singleton.1 hi9; clear hi9
    refine op_call (d := 30) rfl rfl rfl (by go_simp) ((HIN.out _).mono ?_)
    rintro e y2_ ⟨rfl, hy2⟩
    have hS1 := hS.call hy2
    clear hS hy2
    have hS := hS1
    clear hS1
    refine ⟨_, rfl, hS, ?_⟩
    simp only [Act.put, List.setIfInBounds_toArray, List.set_cons_zero, List.set_cons_succ]
    refine fl_take (i := 5) (d := 31) (v := .bool false) rfl rfl rfl (by kernel_rfl) (by kernel_rfl) (by kernel_rfl) hS ?_ ?_
    · intro w' hk; go_simp
    simp only [Act.put, List.setIfInBounds_toArray, List.set_cons_zero, List.set_cons_succ]
    refine fl_skipW (i := 6) (d := 32) rfl rfl rfl (by kernel_rfl) (by kernel_rfl) (by kernel_rfl) hS ?_
    simp only [Act.put, List.setIfInBounds_toArray, List.set_cons_zero, List.set_cons_succ]
    refine fl_skipW (i := 7) (d := 33) rfl rfl rfl (by kernel_rfl) (by kernel_rfl) (by kernel_rfl) hS ?_
    simp only [Act.put, List.setIfInBounds_toArray, List.set_cons_zero, List.set_cons_succ]
    refine fl_skipW (i := 8) (d := 34) rfl rfl rfl (by kernel_rfl) (by kernel_rfl) (by kernel_rfl) hS ?_
    simp only [Act.put, List.setIfInBounds_toArray, List.set_cons_zero, List.set_cons_succ]
    refine fl_skipW (i := 9) (d := 35) rfl rfl rfl (by kernel_rfl) (by kernel_rfl) (by kernel_rfl) hS ?_
    simp only [Act.put, List.setIfInBounds_toArray, List.set_cons_zero, List.set_cons_succ]
    refine fl_skipW (i := 10) (d := 36) rfl rfl rfl (by kernel_rfl) (by kernel_rfl) (by kernel_rfl) hS ?_
    simp only [Act.put, List.setIfInBounds_toArray, List.set_cons_zero, List.set_cons_succ]
    refine fl_skipW (i := 11) (d := 37) rfl rfl rfl (by kernel_rfl) (by kernel_rfl) (by kernel_rfl) hS ?_
    simp only [Act.put, List.setIfInBounds_toArray, List.set_cons_zero, List.set_cons_succ]
    refine fl_skipW (i := 12) (d := 38) rfl rfl rfl (by kernel_rfl) (by kernel_rfl) (by kernel_rfl) hS ?_
    simp only [Act.put, List.setIfInBounds_toArray, List.set_cons_zero, List.set_cons_succ]
    refine fl_take (i := 13) (d := 39) (v := .bool false) rfl rfl rfl (by kernel_rfl) (by kernel_rfl) (by kernel_rfl) hS ?_ ?_
    · intro w' hk; go_simp
    simp only [Act.put, List.setIfInBounds_toArray, List.set_cons_zero, List.set_cons_succ]
    refine fl_take (i := 14) (d := 40) (v := .bool false) rfl rfl rfl (by kernel_rfl) (by kernel_rfl) (by kernel_rfl) hS ?_ ?_
    · intro w' hk; go_simp
    simp only [Act.put, List.setIfInBounds_toArray, List.set_cons_zero, List.set_cons_succ]
    refine fl_skipW (i := 15) (d := 41) rfl rfl rfl (by kernel_rfl) (by kernel_rfl) (by kernel_rfl) hS ?_
    simp only [Act.put, List.setIfInBounds_toArray, List.set_cons_zero, List.set_cons_succ]
    refine fl_skipW (i := 16) (d := 42) rfl rfl rfl (by kernel_rfl) (by kernel_rfl) (by kernel_rfl) hS ?_
    simp only [Act.put, List.setIfInBounds_toArray, List.set_cons_zero, List.set_cons_succ]
    refine fl_skipW (i := 17) (d := 43) rfl rfl rfl (by kernel_rfl) (by kernel_rfl) (by kernel_rfl) hS ?_
    simp only [Act.put, List.setIfInBounds_toArray, List.set_cons_zero, List.set_cons_succ]
    refine fl_skipW (i := 18) (d := 44) rfl rfl rfl (by kernel_rfl) (by kernel_rfl) (by kernel_rfl) hS ?_
    simp only [Act.put, List.setIfInBounds_toArray, List.set_cons_zero, List.set_cons_succ]
    refine fl_skipW (i := 19) (d := 45) rfl rfl rfl (by kernel_rfl) (by kernel_rfl) (by kernel_rfl) hS ?_
    simp only [Act.put, List.setIfInBounds_toArray, List.set_cons_zero, List.set_cons_succ]
    refine fl_take (i := 20) (d := 46) (v := .bool false) rfl rfl rfl (by kernel_rfl) (by kernel_rfl) (by kernel_rfl) hS ?_ ?_
    · intro w' hk; go_simp
    simp only [Act.put, List.setIfInBounds_toArray, List.set_cons_zero, List.set_cons_succ]
    refine fl_take (i := 21) (d := 4) (v := .bool false) rfl rfl rfl (by kernel_rfl) (by kernel_rfl) (by kernel_rfl) hS ?_ ?_
    · intro w' hk; go_simp
    simp only [Act.put, List.setIfInBounds_toArray, List.set_cons_zero, List.set_cons_succ]
    refine wpAnyH_done (by kernel_rfl) (NoPanic.normal ?_) _
    have HBE : Hid (Below w.heap.size w y2_) := hb.trans (hS.2.mono hb.size)
    clear hS
    go_wp2
    go_returns
    exact ⟨rfl, HBE.out⟩
  have HIN : Hid (∀ W, Calls Try.prog 55 #[.agg #[.int .i64 x0, .int .i64 y0, .int .i64 x1, .int .i64 y1], .agg #[.int .i64 wd, .int .i64 n]] W fun e w' => e = .returned (.bool true) ∧ Below W.heap.size W w') := fun W => by
    have := impl_within x0 y0 x1 y1 wd n (by omega) (by omega) W
    rw [decide_eq_true hin] at this; exact this
  obtain ⟨S, hSS⟩ : ∃ S, S = (x1 - x0) * (y1 - y0) := ⟨_, rfl⟩
  have HCEL : Hid (∀ (W : World) (g : Nat), W.heap[g]? = some (.cells #[.int .i64 x0, .int .i64 y0, .int .i64 x1, .int .i64 y1] 34) → Calls Try.prog 56 #[.slice (some ⟨g, 0, none⟩) 1 1] W fun e w' => e = .returned (.int .i64 S) ∧ Below W.heap.size W w') := fun W g hg => by
    rw [hSS]; exact impl_cells1 x0 y0 x1 y1 (by omega) (by omega) hg
  by_cases hSA : S = A
  case neg =>
    obtain rfl : R = false := by
      rw [H.out.2.2.1]; exact ck_no5 (by rw [← hSS]; exact fun e => hSA e.symm)
    have hq : (S == A) = false := by simpa using hSA
    clear hin hSS hSA
    refine wp_region_float (by kernel_rfl) (fun hS => ?_)
    refine fl_take (i := 0) (d := 26) (v := .pointer (some ⟨w.heap.size, 2, none⟩)) rfl rfl rfl (by kernel_rfl) (by kernel_rfl) (by kernel_rfl) hS ?_ ?_
    · intro w' hk; go_simp
    simp only [Act.put, List.setIfInBounds_toArray, List.set_cons_zero, List.set_cons_succ]
    refine fl_take (i := 1) (d := 27) (v := .agg #[.int .i64 x0, .int .i64 y0, .int .i64 x1, .int .i64 y1]) rfl rfl rfl (by kernel_rfl) (by kernel_rfl) (by kernel_rfl) hS ?_ ?_
    · intro w' hk; go_simp
    simp only [Act.put, List.setIfInBounds_toArray, List.set_cons_zero, List.set_cons_succ]
    refine fl_take (i := 2) (d := 28) (v := .agg #[.slice a n c, .slice none 0 0, .int .i64 0, .int .i64 0]) rfl rfl rfl (by kernel_rfl) (by kernel_rfl) (by kernel_rfl) hS ?_ ?_
    · intro w' hk; go_simp
    simp only [Act.put, List.setIfInBounds_toArray, List.set_cons_zero, List.set_cons_succ]
    refine wpAnyH_all (rs := [3]) (by kernel_rfl) (by simp) ?_
    intro i hi9; obtain rfl := List.mem_singleton.1 hi9; clear hi9
    refine op_call (d := 29) rfl rfl rfl (by go_simp) ((HEND.out _ (hb.trans (hS.2.mono hb.size))).mono ?_)
    rintro e y1_ ⟨rfl, hy1⟩
    have hS1 := hS.call hy1
    clear hS hy1
    have hS := hS1
    clear hS1
    refine ⟨_, rfl, hS, ?_⟩
    simp only [Act.put, List.setIfInBounds_toArray, List.set_cons_zero, List.set_cons_succ]
    refine wpAnyH_all (rs := [4]) (by kernel_rfl) (by simp) ?_
    intro i hi9; obtain rfl := List.mem_singleton.1 hi9; clear hi9
    refine op_call (d := 30) rfl rfl rfl (by go_simp) ((HIN.out _).mono ?_)
    rintro e y2_ ⟨rfl, hy2⟩
    have hS1 := hS.call hy2
    clear hS hy2
    have hS := hS1
    clear hS1
    refine ⟨_, rfl, hS, ?_⟩
    simp only [Act.put, List.setIfInBounds_toArray, List.set_cons_zero, List.set_cons_succ]
    refine fl_take (i := 5) (d := 31) (v := .bool true) rfl rfl rfl (by kernel_rfl) (by kernel_rfl) (by kernel_rfl) hS ?_ ?_
    · intro w' hk; go_simp
    simp only [Act.put, List.setIfInBounds_toArray, List.set_cons_zero, List.set_cons_succ]
    refine fl_takeW (i := 6) (d := 32) (v := .pointer (some ⟨w.heap.size, 2, none⟩)) rfl rfl rfl (by kernel_rfl) (by kernel_rfl) (by kernel_rfl) hS ?_ ?_
    · intro w' hk; go_simp
    simp only [Act.put, List.setIfInBounds_toArray, List.set_cons_zero, List.set_cons_succ]
    refine fl_takeW (i := 7) (d := 33) (v := .agg #[.int .i64 x0, .int .i64 y0, .int .i64 x1, .int .i64 y1]) rfl rfl rfl (by kernel_rfl) (by kernel_rfl) (by kernel_rfl) hS ?_ ?_
    · intro w' hk; go_simp
    simp only [Act.put, List.setIfInBounds_toArray, List.set_cons_zero, List.set_cons_succ]
    refine fl_takeW (i := 10) (d := 36) (v := .pointer (some ⟨w.heap.size, 1, none⟩)) rfl rfl rfl (by kernel_rfl) (by kernel_rfl) (by kernel_rfl) hS ?_ ?_
    · intro w' hk; go_simp
    simp only [Act.put, List.setIfInBounds_toArray, List.set_cons_zero, List.set_cons_succ]
    refine fl_takeW (i := 11) (d := 37) (v := .int .i64 A) rfl rfl rfl (by kernel_rfl) (by kernel_rfl) (by kernel_rfl) hS ?_ ?_
    · intro w' hk; go_simp
    simp only [Act.put, List.setIfInBounds_toArray, List.set_cons_zero, List.set_cons_succ]
    refine wpAnyH_all (rs := [8]) (by kernel_rfl) (by simp) ?_
    intro i hi9; obtain rfl := List.mem_singleton.1 hi9; clear hi9
    refine op_valW (d := 34) (v := .slice (some ⟨y2_.heap.size, 0, none⟩) 1 1) (w' := y2_.alloc (.cells #[.int .i64 x0, .int .i64 y0, .int .i64 x1, .int .i64 y1] 34)) rfl rfl rfl (by go_simp; try rfl) ?_
    simp only [Act.put, List.setIfInBounds_toArray, List.set_cons_zero, List.set_cons_succ]
    have hS1 := hS.alloc (.cells #[.int .i64 x0, .int .i64 y0, .int .i64 x1, .int .i64 y1] 34)
    clear hS
    have hS := hS1
    clear hS1
    refine ⟨hS, ?_⟩
    refine wpAnyH_all (rs := [9]) (by kernel_rfl) (by simp) ?_
    intro i hi9; obtain rfl := List.mem_singleton.1 hi9; clear hi9
    refine op_callW (d := 35) rfl rfl rfl (by go_simp) ((HCEL.out _ _ (heap_alloc_new y2_ _)).mono ?_)
    rintro e y3_ ⟨rfl, hy3⟩
    have hS1 := hS.call hy3
    clear hS hy3
    have hS := hS1
    clear hS1
    refine ⟨_, rfl, hS, ?_⟩
    simp only [Act.put, List.setIfInBounds_toArray, List.set_cons_zero, List.set_cons_succ]
    refine fl_takeW (i := 12) (d := 38) (v := .bool false) rfl rfl rfl (by kernel_rfl) (by kernel_rfl) (by kernel_rfl) hS ?_ ?_
    · intro w' hk; go_simp
    simp only [Act.put, List.setIfInBounds_toArray, List.set_cons_zero, List.set_cons_succ]
    refine fl_take (i := 13) (d := 39) (v := .bool false) rfl rfl rfl (by kernel_rfl) (by kernel_rfl) (by kernel_rfl) hS ?_ ?_
    · intro w' hk; go_simp
    simp only [Act.put, List.setIfInBounds_toArray, List.set_cons_zero, List.set_cons_succ]
    refine fl_take (i := 14) (d := 40) (v := .bool false) rfl rfl rfl (by kernel_rfl) (by kernel_rfl) (by kernel_rfl) hS ?_ ?_
    · intro w' hk; go_simp
    simp only [Act.put, List.setIfInBounds_toArray, List.set_cons_zero, List.set_cons_succ]
    refine fl_skipW (i := 15) (d := 41) rfl rfl rfl (by kernel_rfl) (by kernel_rfl) (by kernel_rfl) hS ?_
    simp only [Act.put, List.setIfInBounds_toArray, List.set_cons_zero, List.set_cons_succ]
    refine fl_skipW (i := 16) (d := 42) rfl rfl rfl (by kernel_rfl) (by kernel_rfl) (by kernel_rfl) hS ?_
    simp only [Act.put, List.setIfInBounds_toArray, List.set_cons_zero, List.set_cons_succ]
    refine fl_skipW (i := 17) (d := 43) rfl rfl rfl (by kernel_rfl) (by kernel_rfl) (by kernel_rfl) hS ?_
    simp only [Act.put, List.setIfInBounds_toArray, List.set_cons_zero, List.set_cons_succ]
    refine fl_skipW (i := 18) (d := 44) rfl rfl rfl (by kernel_rfl) (by kernel_rfl) (by kernel_rfl) hS ?_
    simp only [Act.put, List.setIfInBounds_toArray, List.set_cons_zero, List.set_cons_succ]
    refine fl_skipW (i := 19) (d := 45) rfl rfl rfl (by kernel_rfl) (by kernel_rfl) (by kernel_rfl) hS ?_
    simp only [Act.put, List.setIfInBounds_toArray, List.set_cons_zero, List.set_cons_succ]
    refine fl_take (i := 20) (d := 46) (v := .bool false) rfl rfl rfl (by kernel_rfl) (by kernel_rfl) (by kernel_rfl) hS ?_ ?_
    · intro w' hk; go_simp
    simp only [Act.put, List.setIfInBounds_toArray, List.set_cons_zero, List.set_cons_succ]
    refine fl_take (i := 21) (d := 4) (v := .bool false) rfl rfl rfl (by kernel_rfl) (by kernel_rfl) (by kernel_rfl) hS ?_ ?_
    · intro w' hk; go_simp
    simp only [Act.put, List.setIfInBounds_toArray, List.set_cons_zero, List.set_cons_succ]
    refine wpAnyH_done (by kernel_rfl) (NoPanic.normal ?_) _
    have HBE : Hid (Below w.heap.size w y3_) := hb.trans (hS.2.mono hb.size)
    clear hS
    go_wp2
    go_returns
    exact ⟨rfl, HBE.out⟩
  have hq : (S == A) = true := by simpa using hSA
  have HALL : Hid (∀ W, Below w.heap.size w W → Calls Try.prog 57 #[.agg #[.int .i64 x0, .int .i64 y0, .int .i64 x1, .int .i64 y1], .func (.func 50) #[.agg #[.slice a n c, .slice none 0 0, .int .i64 0, .int .i64 0]] #[]] W fun e w' => e = .returned (.bool R) ∧ Below W.heap.size W w') := fun W hW => by
    have hR : R = agB (oneP ls) x0.toNat x1.toNat y0.toNat (y1 - y0).toNat := by
      rw [H.out.2.2.1, HC.out.1]
      exact ck_yes HC.out.2.2.1 (by rw [← HC.out.2.2.2, ← H.out.2.1]; exact hin) (by rw [← hSA, hSS]) HC.out.2.1
    obtain ⟨X0, hX0⟩ : ∃ X : Nat, (X : Int) = x0 := ⟨x0.toNat, by omega⟩
    obtain ⟨X1, hX1⟩ : ∃ X : Nat, (X : Int) = x1 := ⟨x1.toNat, by omega⟩
    obtain ⟨Y0, hY0⟩ : ∃ X : Nat, (X : Int) = y0 := ⟨y0.toNat, by omega⟩
    obtain ⟨Y1, hY1⟩ : ∃ X : Nat, (X : Int) = y1 := ⟨y1.toNat, by omega⟩
    rw [hR, ← hX0, ← hX1, ← hY0, ← hY1, show ((Y1 : Int) - (Y0 : Int)).toNat = Y1 - Y0 by omega]
    simp only [Int.toNat_natCast]
    exact impl_allGood X0 Y0 X1 Y1 (by omega) (by omega) (by omega) (by omega) hn16 hw16 (HKD.out W hW)
  clear hin hSS hSA
  refine wp_region_float (by kernel_rfl) (fun hS => ?_)
  refine fl_take (i := 0) (d := 26) (v := .pointer (some ⟨w.heap.size, 2, none⟩)) rfl rfl rfl (by kernel_rfl) (by kernel_rfl) (by kernel_rfl) hS ?_ ?_
  · intro w' hk; go_simp
  simp only [Act.put, List.setIfInBounds_toArray, List.set_cons_zero, List.set_cons_succ]
  refine fl_take (i := 1) (d := 27) (v := .agg #[.int .i64 x0, .int .i64 y0, .int .i64 x1, .int .i64 y1]) rfl rfl rfl (by kernel_rfl) (by kernel_rfl) (by kernel_rfl) hS ?_ ?_
  · intro w' hk; go_simp
  simp only [Act.put, List.setIfInBounds_toArray, List.set_cons_zero, List.set_cons_succ]
  refine fl_take (i := 2) (d := 28) (v := .agg #[.slice a n c, .slice none 0 0, .int .i64 0, .int .i64 0]) rfl rfl rfl (by kernel_rfl) (by kernel_rfl) (by kernel_rfl) hS ?_ ?_
  · intro w' hk; go_simp
  simp only [Act.put, List.setIfInBounds_toArray, List.set_cons_zero, List.set_cons_succ]
  refine wpAnyH_all (rs := [3]) (by kernel_rfl) (by simp) ?_
  intro i hi9; obtain rfl := List.mem_singleton.1 hi9; clear hi9
  refine op_call (d := 29) rfl rfl rfl (by go_simp) ((HEND.out _ (hb.trans (hS.2.mono hb.size))).mono ?_)
  rintro e y1_ ⟨rfl, hy1⟩
  have hS1 := hS.call hy1
  clear hS hy1
  have hS := hS1
  clear hS1
  refine ⟨_, rfl, hS, ?_⟩
  simp only [Act.put, List.setIfInBounds_toArray, List.set_cons_zero, List.set_cons_succ]
  refine wpAnyH_all (rs := [4]) (by kernel_rfl) (by simp) ?_
  intro i hi9; obtain rfl := List.mem_singleton.1 hi9; clear hi9
  refine op_call (d := 30) rfl rfl rfl (by go_simp) ((HIN.out _).mono ?_)
  rintro e y2_ ⟨rfl, hy2⟩
  have hS1 := hS.call hy2
  clear hS hy2
  have hS := hS1
  clear hS1
  refine ⟨_, rfl, hS, ?_⟩
  simp only [Act.put, List.setIfInBounds_toArray, List.set_cons_zero, List.set_cons_succ]
  refine fl_take (i := 5) (d := 31) (v := .bool true) rfl rfl rfl (by kernel_rfl) (by kernel_rfl) (by kernel_rfl) hS ?_ ?_
  · intro w' hk; go_simp
  simp only [Act.put, List.setIfInBounds_toArray, List.set_cons_zero, List.set_cons_succ]
  refine fl_takeW (i := 6) (d := 32) (v := .pointer (some ⟨w.heap.size, 2, none⟩)) rfl rfl rfl (by kernel_rfl) (by kernel_rfl) (by kernel_rfl) hS ?_ ?_
  · intro w' hk; go_simp
  simp only [Act.put, List.setIfInBounds_toArray, List.set_cons_zero, List.set_cons_succ]
  refine fl_takeW (i := 7) (d := 33) (v := .agg #[.int .i64 x0, .int .i64 y0, .int .i64 x1, .int .i64 y1]) rfl rfl rfl (by kernel_rfl) (by kernel_rfl) (by kernel_rfl) hS ?_ ?_
  · intro w' hk; go_simp
  simp only [Act.put, List.setIfInBounds_toArray, List.set_cons_zero, List.set_cons_succ]
  refine fl_takeW (i := 10) (d := 36) (v := .pointer (some ⟨w.heap.size, 1, none⟩)) rfl rfl rfl (by kernel_rfl) (by kernel_rfl) (by kernel_rfl) hS ?_ ?_
  · intro w' hk; go_simp
  simp only [Act.put, List.setIfInBounds_toArray, List.set_cons_zero, List.set_cons_succ]
  refine fl_takeW (i := 11) (d := 37) (v := .int .i64 A) rfl rfl rfl (by kernel_rfl) (by kernel_rfl) (by kernel_rfl) hS ?_ ?_
  · intro w' hk; go_simp
  simp only [Act.put, List.setIfInBounds_toArray, List.set_cons_zero, List.set_cons_succ]
  refine wpAnyH_all (rs := [8]) (by kernel_rfl) (by simp) ?_
  intro i hi9; obtain rfl := List.mem_singleton.1 hi9; clear hi9
  refine op_valW (d := 34) (v := .slice (some ⟨y2_.heap.size, 0, none⟩) 1 1) (w' := y2_.alloc (.cells #[.int .i64 x0, .int .i64 y0, .int .i64 x1, .int .i64 y1] 34)) rfl rfl rfl (by go_simp; try rfl) ?_
  simp only [Act.put, List.setIfInBounds_toArray, List.set_cons_zero, List.set_cons_succ]
  have hS1 := hS.alloc (.cells #[.int .i64 x0, .int .i64 y0, .int .i64 x1, .int .i64 y1] 34)
  clear hS
  have hS := hS1
  clear hS1
  refine ⟨hS, ?_⟩
  refine wpAnyH_all (rs := [9]) (by kernel_rfl) (by simp) ?_
  intro i hi9; obtain rfl := List.mem_singleton.1 hi9; clear hi9
  refine op_callW (d := 35) rfl rfl rfl (by go_simp) ((HCEL.out _ _ (heap_alloc_new y2_ _)).mono ?_)
  rintro e y3_ ⟨rfl, hy3⟩
  have hS1 := hS.call hy3
  clear hS hy3
  have hS := hS1
  clear hS1
  refine ⟨_, rfl, hS, ?_⟩
  simp only [Act.put, List.setIfInBounds_toArray, List.set_cons_zero, List.set_cons_succ]
  refine fl_takeW (i := 12) (d := 38) (v := .bool true) rfl rfl rfl (by kernel_rfl) (by kernel_rfl) (by kernel_rfl) hS ?_ ?_
  · intro w' hk; go_simp
  simp only [Act.put, List.setIfInBounds_toArray, List.set_cons_zero, List.set_cons_succ]
  refine fl_take (i := 13) (d := 39) (v := .bool true) rfl rfl rfl (by kernel_rfl) (by kernel_rfl) (by kernel_rfl) hS ?_ ?_
  · intro w' hk; go_simp
  simp only [Act.put, List.setIfInBounds_toArray, List.set_cons_zero, List.set_cons_succ]
  refine fl_take (i := 14) (d := 40) (v := .bool true) rfl rfl rfl (by kernel_rfl) (by kernel_rfl) (by kernel_rfl) hS ?_ ?_
  · intro w' hk; go_simp
  simp only [Act.put, List.setIfInBounds_toArray, List.set_cons_zero, List.set_cons_succ]
  refine fl_takeW (i := 15) (d := 41) (v := .pointer (some ⟨w.heap.size, 2, none⟩)) rfl rfl rfl (by kernel_rfl) (by kernel_rfl) (by kernel_rfl) hS ?_ ?_
  · intro w' hk; go_simp
  simp only [Act.put, List.setIfInBounds_toArray, List.set_cons_zero, List.set_cons_succ]
  refine fl_takeW (i := 16) (d := 42) (v := .agg #[.int .i64 x0, .int .i64 y0, .int .i64 x1, .int .i64 y1]) rfl rfl rfl (by kernel_rfl) (by kernel_rfl) (by kernel_rfl) hS ?_ ?_
  · intro w' hk; go_simp
  simp only [Act.put, List.setIfInBounds_toArray, List.set_cons_zero, List.set_cons_succ]
  refine fl_takeW (i := 17) (d := 43) (v := .agg #[.slice a n c, .slice none 0 0, .int .i64 0, .int .i64 0]) rfl rfl rfl (by kernel_rfl) (by kernel_rfl) (by kernel_rfl) hS ?_ ?_
  · intro w' hk; go_simp
  simp only [Act.put, List.setIfInBounds_toArray, List.set_cons_zero, List.set_cons_succ]
  refine fl_takeW (i := 18) (d := 44) (v := .func (.func 50) #[.agg #[.slice a n c, .slice none 0 0, .int .i64 0, .int .i64 0]] #[]) rfl rfl rfl (by kernel_rfl) (by kernel_rfl) (by kernel_rfl) hS ?_ ?_
  · intro w' hk; go_simp
  simp only [Act.put, List.setIfInBounds_toArray, List.set_cons_zero, List.set_cons_succ]
  refine wpAnyH_all (rs := [19]) (by kernel_rfl) (by simp) ?_
  intro i hi9; obtain rfl := List.mem_singleton.1 hi9; clear hi9
  refine op_callW (d := 45) rfl rfl rfl (by go_simp) ((HALL.out _ (hb.trans (hS.2.mono hb.size))).mono ?_)
  rintro e y4_ ⟨rfl, hy4⟩
  have hS1 := hS.call hy4
  clear hS hy4
  have hS := hS1
  clear hS1
  refine ⟨_, rfl, hS, ?_⟩
  simp only [Act.put, List.setIfInBounds_toArray, List.set_cons_zero, List.set_cons_succ]
  refine fl_take (i := 20) (d := 46) (v := .bool R) rfl rfl rfl (by kernel_rfl) (by kernel_rfl) (by kernel_rfl) hS ?_ ?_
  · intro w' hk; go_simp
  simp only [Act.put, List.setIfInBounds_toArray, List.set_cons_zero, List.set_cons_succ]
  refine fl_take (i := 21) (d := 4) (v := .bool R) rfl rfl rfl (by kernel_rfl) (by kernel_rfl) (by kernel_rfl) hS ?_ ?_
  · intro w' hk; go_simp
  simp only [Act.put, List.setIfInBounds_toArray, List.set_cons_zero, List.set_cons_succ]
  refine wpAnyH_done (by kernel_rfl) (NoPanic.normal ?_) _
  have HBE : Hid (Below w.heap.size w y4_) := hb.trans (hS.2.mono hb.size)
  clear hS
  go_wp2
  go_returns
  exact ⟨rfl, HBE.out⟩

end Go.Proofs.Ythmddnachancfaa
