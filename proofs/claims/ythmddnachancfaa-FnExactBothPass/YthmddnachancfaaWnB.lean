/- Proved here: BothPass of the program. -/
import Derived.Test.YthmddnachancfaaWnA
import Derived.Laws.StructEq
import Derived.Deep.DeepCutAuto
namespace Go.Proofs.Ythmddnachancfaa
open Go.RowKit
set_option linter.unusedVariables false
set_option linter.unusedSimpArgs false

theorem pt_guard : Try.prog.eqGuardType Try.prog.depth 61 = false := by kernel_rfl
theorem pt_neq (a b c d : Int) (w : World) : (binOp .neq 61 (.agg #[.int .i64 a, .int .i64 b]) (.agg #[.int .i64 c, .int .i64 d])).run Try.prog w = .ok (.bool (!(a == c && b == d))) w := by
  have u3 := Try.underlying3
  have a3 := Try.isAgg3
  have z3 := Try.sizeOf3
  have hS : Try.prog.underlying 61 = some (.struct (Try.prog.fieldsOf 61)) := by kernel_rfl
  have hp : Try.prog.stoodInHeld 61 = false := by kernel_rfl
  rw [run_neq_struct, show (10000 : Nat) = 9999 + 1 from rfl, run_equalIn_agg w 9999 61 _ _ hS hp]
  simp only [Program.fieldsOf, Try.underlying61]
  go_simp
  by_cases h1 : a = c <;> by_cases h2 : b = d <;> simp [h1, h2]

set_option maxRecDepth 10000 in
set_option maxHeartbeats 12800000 in
theorem impl_bp {w : World} {v u : Value} {ls ms : List (List Int)} (hn : SmR ls) (hm : SmR ms) (h : RdR w v ls) (h' : RdR w u ms) :
    Calls Try.prog 19 #[v, u] w fun e w' => ∃ v' vs, e = .returned (.agg #[.int .i64 (bpC ls ms), v', .int .i64 (psV (bpL ls ms))]) ∧ RI w' w.heap.size v' (bpL ls ms) vs ∧ Below w.heap.size w w' := by
  obtain ⟨a, c, rfl⟩ := h.form
  obtain ⟨b, d, rfl⟩ := h'.form
  obtain ⟨n, hnn⟩ : ∃ n, n = ls.length := ⟨_, rfl⟩
  obtain ⟨m, hmm⟩ : ∃ n, n = ms.length := ⟨_, rfl⟩
  obtain ⟨wd, hwd⟩ : ∃ n, n = (ls.getD 0 []).length := ⟨_, rfl⟩
  obtain ⟨wm, hwm⟩ : ∃ n, n = (ms.getD 0 []).length := ⟨_, rfl⟩
  obtain ⟨C, hC⟩ : ∃ C, C = gfC ls 1000000 := ⟨_, rfl⟩
  obtain ⟨E, hE⟩ : ∃ C, C = gfC ms 1000000 := ⟨_, rfl⟩
  obtain ⟨C1, hC1⟩ : ∃ C, C = pmC ls := ⟨_, rfl⟩
  obtain ⟨E1, hE1⟩ : ∃ C, C = pmC ms := ⟨_, rfl⟩
  obtain ⟨D, hD⟩ : ∃ C, C = bpC ls ms := ⟨_, rfl⟩
  obtain ⟨L, hL⟩ : ∃ C, C = bpL ls ms := ⟨_, rfl⟩
  rw [← hD, ← hL]
  have HDE : Hid (D = (if C = 0 then (if E = 0 then (if n = m ∧ wd = wm ∧ C1 = 0 ∧ E1 = 0 then 0 else 1) else E) else C) ∧ L = if D = 0 then mpL n wd (fun y x => oneP ls y x && oneP ms y x) else []) := ⟨by rw [hD, hC, hE, hnn, hmm, hwd, hwm, hC1, hE1]; rfl, by rw [hL, hD, hnn, hwd]; rfl⟩
  rw [← hnn] at h ⊢
  rw [← hmm] at h' ⊢
  have HF : Hid (∀ W, Below w.heap.size w W → Calls Try.prog 38 #[.slice a n c] W fun e w' => e = .returned (.int .i64 C) ∧ w' = W) := fun W hW => by rw [hC]; exact impl_gf hn (h.below hW)
  have HF2 : Hid (∀ W, Below w.heap.size w W → Calls Try.prog 38 #[.slice b m d] W fun e w' => e = .returned (.int .i64 E) ∧ w' = W) := fun W hW => by rw [hE]; exact impl_gf hm (h'.below hW)
  have HP : Hid (∀ W, Below w.heap.size w W → Calls Try.prog 46 #[.slice a n c] W fun e w' => e = .returned (.int .i64 C1) ∧ w' = W) := fun W hW => by rw [hC1]; exact impl_pm hn (h.below hW)
  have HP2 : Hid (∀ W, Below w.heap.size w W → Calls Try.prog 46 #[.slice b m d] W fun e w' => e = .returned (.int .i64 E1) ∧ w' = W) := fun W hW => by rw [hE1]; exact impl_pm hm (h'.below hW)
  have H : Hid (RdR w (.slice a n c) ls ∧ RdR w (.slice b m d) ms ∧ n = ls.length ∧ m = ms.length ∧ C = gfC ls 1000000 ∧ E = gfC ms 1000000 ∧ wd = (ls.getD 0 []).length ∧ wm = (ms.getD 0 []).length) := ⟨h, h', hnn, hmm, hC, hE, hwd, hwm⟩
  clear h h' hn hm hC hE hC1 hE1 hnn hmm hwd hwm hD hL
  go_enter Try.func19, Try.ntmps19
  go_wp2_with (fail)
  refine (HF.out _ (by (repeat' (first | (with_reducible exact Below.refl _ _) | (with_reducible assumption) | (with_reducible refine Below.setCell ?_ ?_ _) | (with_reducible refine Below.alloc ?_ ?_ _) | (with_reducible refine below_drewN ?_ _) | (with_reducible refine Below.drew ?_) | (with_reducible exact Nat.le_refl _) | omega | (simp; done) | (simp; omega))))).mono ?_
  rintro e w1 ⟨rfl, hw⟩
  subst hw
  clear HF
  by_cases hA0 : C = 0
  case neg =>
    have HV : Hid (D = C ∧ L = []) := by
      have := HDE.out; rw [if_neg hA0] at this; refine ⟨this.1, ?_⟩; rw [this.2, if_neg (by rw [this.1]; exact hA0)]
    have hA1 : (C != 0) = true := by simpa using hA0
    go_wp2
    go_returns
    exact ⟨.slice none 0 0, [], by rw [HV.out.1, HV.out.2]; rfl, by rw [HV.out.2]; exact RI.nil _ _, by (repeat' (first | (with_reducible exact Below.refl _ _) | (with_reducible assumption) | (with_reducible refine Below.setCell ?_ ?_ _) | (with_reducible refine Below.alloc ?_ ?_ _) | (with_reducible refine below_drewN ?_ _) | (with_reducible refine Below.drew ?_) | (with_reducible exact Nat.le_refl _) | omega | (simp; done) | (simp; omega)))⟩
  have HDE1 : Hid (D = (if E = 0 then (if n = m ∧ wd = wm ∧ C1 = 0 ∧ E1 = 0 then 0 else 1) else E) ∧ L = if D = 0 then mpL n wd (fun y x => oneP ls y x && oneP ms y x) else []) := by
    have := HDE.out; rw [if_pos hA0] at this; exact this
  have HCG : Hid (gfC ls 1000000 = 0) := H.out.2.2.2.2.1.symm.trans hA0
  clear HDE
  subst hA0
  go_wp2_with (fail)
  refine (HF2.out _ (by (repeat' (first | (with_reducible exact Below.refl _ _) | (with_reducible assumption) | (with_reducible refine Below.setCell ?_ ?_ _) | (with_reducible refine Below.alloc ?_ ?_ _) | (with_reducible refine below_drewN ?_ _) | (with_reducible refine Below.drew ?_) | (with_reducible exact Nat.le_refl _) | omega | (simp; done) | (simp; omega))))).mono ?_
  rintro e w1 ⟨rfl, hw⟩
  subst hw
  clear HF2
  by_cases hE0 : E = 0
  case neg =>
    have HV : Hid (D = E ∧ L = []) := by
      have := HDE1.out; rw [if_neg hE0] at this; refine ⟨this.1, ?_⟩; rw [this.2, if_neg (by rw [this.1]; exact hE0)]
    have hA1 : (E != 0) = true := by simpa using hE0
    go_wp2
    go_returns
    exact ⟨.slice none 0 0, [], by rw [HV.out.1, HV.out.2]; rfl, by rw [HV.out.2]; exact RI.nil _ _, by (repeat' (first | (with_reducible exact Below.refl _ _) | (with_reducible assumption) | (with_reducible refine Below.setCell ?_ ?_ _) | (with_reducible refine Below.alloc ?_ ?_ _) | (with_reducible refine below_drewN ?_ _) | (with_reducible refine Below.drew ?_) | (with_reducible exact Nat.le_refl _) | omega | (simp; done) | (simp; omega)))⟩
  have hG := gfC_good HCG.out
  have hG' := gfC_good (H.out.2.2.2.2.2.1.symm.trans hE0)
  have hn16 : n ≤ 16 := by rw [H.out.2.2.1]; exact hG.h1
  have hn0 : 0 < n := by rw [H.out.2.2.1]; exact hG.h0
  have hw16 : wd ≤ 16 := by rw [H.out.2.2.2.2.2.2.1]; exact hG.w1
  have hw0 : 0 < wd := by rw [H.out.2.2.2.2.2.2.1]; exact hG.w0
  have hm16 : m ≤ 16 := by rw [H.out.2.2.2.1]; exact hG'.h1
  have hm0 : 0 < m := by rw [H.out.2.2.2.1]; exact hG'.h0
  have HZ0 : Hid (D = (if n = m ∧ wd = wm ∧ C1 = 0 ∧ E1 = 0 then 0 else 1) ∧ L = if D = 0 then mpL n wd (fun y x => oneP ls y x && oneP ms y x) else []) := by
    have := HDE1.out; rw [if_pos hE0] at this; exact this
  have HEND : Hid (∀ V, Below w.heap.size w V → Calls Try.prog 40 #[.agg #[.slice a n c, .slice b m d, .int .i64 0, .int .i64 0]] V fun e w' => e = .returned (.agg #[.int .i64 wd, .int .i64 n]) ∧ Below V.heap.size V w') := fun V hV => by
    rw [H.out.2.2.2.2.2.2.1]; exact impl_end hn0 (by omega) (H.out.1.below hV)
  have HEND2 : Hid (∀ V, Below w.heap.size w V → Calls Try.prog 40 #[.agg #[.slice b m d, .slice none 0 0, .int .i64 0, .int .i64 0]] V fun e w' => e = .returned (.agg #[.int .i64 wm, .int .i64 m]) ∧ Below V.heap.size V w') := fun V hV => by
    rw [H.out.2.2.2.2.2.2.2]; exact impl_end hm0 (by omega) (H.out.2.1.below hV)
  have HG : Hid (GG 1000000 ls ∧ GG 1000000 ms) := ⟨hG, hG'⟩
  clear HDE1 hG hG' HCG
  subst hE0
  go_upto_region 8 with fail
  obtain ⟨V, hV⟩ : ∃ V, V = (w.alloc (.cells #[.int .i64 0, .slice none 0 0, .int .i64 0] 25)).alloc (.cells #[.slice a n c, .slice b m d, .int .i64 0, .int .i64 0] 58) := ⟨_, rfl⟩
  rw [← hV]
  obtain ⟨k0, k1, hb, hs⟩ := al2 hV
  obtain ⟨e0, e1, e2, e3, el⟩ := four_of k1
  have HV0 : Hid (V.heap[w.heap.size]? = some (.cells #[.int .i64 0, .slice none 0 0, .int .i64 0] 25) ∧ V.heap[w.heap.size + 1]? = some (.cells #[.slice a n c, .slice b m d, .int .i64 0, .int .i64 0] 58) ∧ Below w.heap.size w V) := ⟨k0, k1, hb⟩
  clear hV k0 k1 hb hs
  have hq := pt_neq (wd : Int) n wm m
  have hpg := pt_guard
  go_wp2_with (fail)
  refine (HEND.out _ HV0.out.2.2).mono ?_
  rintro e w5 ⟨rfl, hb5⟩
  have HB5 : Hid (Below w.heap.size w w5 ∧ Below V.heap.size V w5) := ⟨HV0.out.2.2.trans (hb5.mono HV0.out.2.2.size), hb5⟩
  clear e0 e1 e2 e3 el hb5
  go_wp2_with (fail)
  refine (HEND2.out _ HB5.out.1).mono ?_
  rintro e w6 ⟨rfl, hb6⟩
  have hb56 : Below w.heap.size w w6 := HB5.out.1.trans (hb6.mono HB5.out.1.size)
  have hbV6 : Below V.heap.size V w6 := HB5.out.2.trans (hb6.mono HB5.out.2.size)
  have HB6 : Hid (Below w.heap.size w w6 ∧ w6.heap[w.heap.size]? = some (.cells #[.int .i64 0, .slice none 0 0, .int .i64 0] 25) ∧ w6.heap[w.heap.size + 1]? = some (.cells #[.slice a n c, .slice b m d, .int .i64 0, .int .i64 0] 58)) := ⟨hb56, (hbV6.block _ (ltOf HV0.out.1)).trans HV0.out.1, (hbV6.block _ (ltOf HV0.out.2.1)).trans HV0.out.2.1⟩
  obtain ⟨r0, r1, r2, rf0, rf1, rf2, rl⟩ := three_of HB6.out.2.1
  clear HB5 hb56 hbV6 hb6 HEND2
  by_cases hsame : n = m ∧ wd = wm
  case neg =>
    have hq1 : (!(((wd : Int) == wm) && ((n : Int) == m))) = true := by
      rw [Bool.not_eq_true', Bool.and_eq_false_iff]
      by_cases e : wd = wm
      · right
        have : ¬ n = m := fun e2 => hsame ⟨e2, e⟩
        simp; omega
      · left; simp; omega
    rw [hq1] at hq
    have HV : Hid (D = 1 ∧ L = []) := by
      have hno : ¬ (n = m ∧ wd = wm ∧ C1 = 0 ∧ E1 = 0) := fun e => hsame ⟨e.1, e.2.1⟩
      have := HZ0.out; rw [if_neg hno] at this; refine ⟨this.1, ?_⟩; rw [this.2, if_neg (by rw [this.1]; decide)]
    clear hq1 hsame
    go_wp2
    try simp only [Exit.inBlock, Exit.then]
    refine bodyPost_ret (by simp [results, Try.results19, go_sem, r0, r1, r2, rl]; try rfl) rfl ⟨.slice none 0 0, [], by rw [HV.out.1, HV.out.2]; rfl, by rw [HV.out.2]; exact RI.nil _ _, ?_⟩
    have hb := HB6.out.1
    (repeat' (first | (with_reducible exact Below.refl _ _) | (with_reducible assumption) | (with_reducible refine Below.setCell ?_ ?_ _) | (with_reducible refine Below.alloc ?_ ?_ _) | (with_reducible refine below_drewN ?_ _) | (with_reducible refine Below.drew ?_) | (with_reducible exact Nat.le_refl _) | omega | (simp; done) | (simp; omega)))
  have hq1 : (!(((wd : Int) == wm) && ((n : Int) == m))) = false := by rw [hsame.1, hsame.2]; simp
  rw [hq1] at hq
  have HSM : Hid (n = m ∧ wd = wm) := hsame
  clear hq1 hsame
  go_wp2_with (fail)
  refine (HP.out _ HB6.out.1).mono ?_
  rintro e w7 ⟨rfl, hw7⟩
  subst hw7
  clear HP
  by_cases hC1 : C1 = 0
  case neg =>
    have HV : Hid (D = 1 ∧ L = []) := by
      have hno : ¬ (n = m ∧ wd = wm ∧ C1 = 0 ∧ E1 = 0) := fun e => hC1 e.2.2.1
      have := HZ0.out; rw [if_neg hno] at this; refine ⟨this.1, ?_⟩; rw [this.2, if_neg (by rw [this.1]; decide)]
    have hA1 : (C1 != 0) = true := by simpa using hC1
    go_wp2
    try simp only [Exit.inBlock, Exit.then]
    refine bodyPost_ret (by simp [results, Try.results19, go_sem, r0, r1, r2, rl]; try rfl) rfl ⟨.slice none 0 0, [], by rw [HV.out.1, HV.out.2]; rfl, by rw [HV.out.2]; exact RI.nil _ _, ?_⟩
    have hb := HB6.out.1
    (repeat' (first | (with_reducible exact Below.refl _ _) | (with_reducible assumption) | (with_reducible refine Below.setCell ?_ ?_ _) | (with_reducible refine Below.alloc ?_ ?_ _) | (with_reducible refine below_drewN ?_ _) | (with_reducible refine Below.drew ?_) | (with_reducible exact Nat.le_refl _) | omega | (simp; done) | (simp; omega)))
  have HC1 : Hid (n = m ∧ wd = wm ∧ True) := ⟨HSM.out.1, HSM.out.2, trivial⟩
  have HZ1 : Hid (D = (if E1 = 0 then 0 else 1) ∧ L = if D = 0 then mpL n wd (fun y x => oneP ls y x && oneP ms y x) else []) := by
    have := HZ0.out
    by_cases hE1 : E1 = 0
    · have hall : n = m ∧ wd = wm ∧ C1 = 0 ∧ E1 = 0 := ⟨HSM.out.1, HSM.out.2, hC1, hE1⟩
      rw [if_pos hall] at this
      rw [if_pos hE1]; exact this
    · have hno : ¬ (n = m ∧ wd = wm ∧ C1 = 0 ∧ E1 = 0) := fun e => hE1 e.2.2.2
      rw [if_neg hno] at this
      rw [if_neg hE1]; exact this
  clear HSM HZ0
  subst hC1
  go_wp2_with (fail)
  refine (HP2.out _ HB6.out.1).mono ?_
  rintro e w8 ⟨rfl, hw8⟩
  subst hw8
  clear HP2
  by_cases hE1 : E1 = 0
  case neg =>
    have HV : Hid (D = 1 ∧ L = []) := by
      have := HZ1.out; rw [if_neg hE1] at this; refine ⟨this.1, ?_⟩; rw [this.2, if_neg (by rw [this.1]; decide)]
    have hA1 : (E1 != 0) = true := by simpa using hE1
    go_wp2
    try simp only [Exit.inBlock, Exit.then]
    refine bodyPost_ret (by simp [results, Try.results19, go_sem, r0, r1, r2, rl]; try rfl) rfl ⟨.slice none 0 0, [], by rw [HV.out.1, HV.out.2]; rfl, by rw [HV.out.2]; exact RI.nil _ _, ?_⟩
    have hb := HB6.out.1
    (repeat' (first | (with_reducible exact Below.refl _ _) | (with_reducible assumption) | (with_reducible refine Below.setCell ?_ ?_ _) | (with_reducible refine Below.alloc ?_ ?_ _) | (with_reducible refine below_drewN ?_ _) | (with_reducible refine Below.drew ?_) | (with_reducible exact Nat.le_refl _) | omega | (simp; done) | (simp; omega)))
  have HV : Hid (D = 0 ∧ L = mpL n wd (fun y x => oneP ls y x && oneP ms y x)) := by
    have := HZ1.out; rw [if_pos hE1] at this; refine ⟨this.1, ?_⟩; rw [this.2, if_pos this.1]
  obtain ⟨Q, hQ⟩ : ∃ Q, Q = totV L n := ⟨_, rfl⟩
  have HZ : Hid (D = 0 ∧ psV L = Q) := ⟨HV.out.1, by rw [hQ]; unfold psV; rw [show L.length = n by rw [HV.out.2]; exact (mpL_sh _ _ _).len]⟩
  have HMAP : Hid (∀ V, Below w.heap.size w V → Calls Try.prog 39 #[.agg #[.int .i64 wd, .int .i64 n], .func (.func 47) #[.agg #[.slice a n c, .slice b m d, .int .i64 0, .int .i64 0]] #[]] V fun e w' => ∃ v' vs, e = .returned (.agg #[.int .i64 0, v', .int .i64 Q]) ∧ RI w' V.heap.size v' L vs ∧ Below V.heap.size V w') := fun V hV => by
    have hW : (ls.getD 0 []).length = (ms.getD 0 []).length := by have := HC1.out.2.1; have h1 := H.out.2.2.2.2.2.2; rw [← h1.1, ← h1.2]; exact this
    have h' := H.out.2.1.below hV
    rw [← HC1.out.1] at h'
    have := kd_both (lo := 0) (hi := 0) HG.out.1 HG.out.2 (H.out.1.below hV) h' hW
    rw [← H.out.2.2.2.2.2.2.1] at this
    rw [hQ, HV.out.2, ← HC1.out.1]
    exact impl_mapOf hn0 hn16 hw0 hw16 this
  clear HZ1 HV hQ r0 r1 r2 rf0 rf1 rf2 rl HV0
  subst hE1
  go_wp2_with (fail)
  obtain ⟨KR, hKR⟩ : ∃ K, K = w.heap.size + 1 := ⟨_, rfl⟩
  have k0 := HB6.out.2.1
  have k1 := HB6.out.2.2
  have hb := HB6.out.1
  rw [← hKR] at k1 ⊢
  have HKR : Hid (w.heap.size < KR) := by unfold Hid; omega
  clear hKR HB6 hq
  refine wp_region_holdsA (S := fun w' => w'.heap[KR]? = some (.cells #[.slice a n c, .slice b m d, .int .i64 0, .int .i64 0] 58)) (by kernel_rfl) k1 (fun hS => ?_)
  refine fl_takeA (i := 0) (d := 40) (v := .agg #[.slice a n c, .slice b m d, .int .i64 0, .int .i64 0]) rfl rfl rfl (by kernel_rfl) (by kernel_rfl) (by kernel_rfl) hS ?_ ?_
  · intro w' hk; obtain ⟨hk0, hk1, hk2, hk3, hkl⟩ := four_of hk; go_simp
  simp only [Act.put, List.setIfInBounds_toArray, List.set_cons_zero, List.set_cons_succ]
  refine fl_takeA (i := 2) (d := 42) (v := .agg #[.slice a n c, .slice b m d, .int .i64 0, .int .i64 0]) rfl rfl rfl (by kernel_rfl) (by kernel_rfl) (by kernel_rfl) hS ?_ ?_
  · intro w' hk; obtain ⟨hk0, hk1, hk2, hk3, hkl⟩ := four_of hk; go_simp
  simp only [Act.put, List.setIfInBounds_toArray, List.set_cons_zero, List.set_cons_succ]
  refine fl_takeA (i := 3) (d := 43) (v := .func (.func 47) #[.agg #[.slice a n c, .slice b m d, .int .i64 0, .int .i64 0]] #[]) rfl rfl rfl (by kernel_rfl) (by kernel_rfl) (by kernel_rfl) hS ?_ ?_
  · intro w' hk; obtain ⟨hk0, hk1, hk2, hk3, hkl⟩ := four_of hk; go_simp
  simp only [Act.put, List.setIfInBounds_toArray, List.set_cons_zero, List.set_cons_succ]
  refine wpAnyH_all (rs := [1]) (by kernel_rfl) (by simp) ?_
  intro i hi; obtain rfl := List.mem_singleton.1 hi; clear hi
  refine op_call (d := 41) rfl rfl rfl (by go_simp) ((HEND.out _ hb.drew).mono ?_)
  rintro e y1 ⟨rfl, hy1⟩
  have hb1 : Below w.heap.size w y1 := hb.drew.trans (hy1.mono hb.size)
  have s1 := (hy1.block _ (show KR < w8.heap.size from ltOf k1)).trans k1
  have r1 := (hy1.block _ (show w.heap.size < w8.heap.size from ltOf k0)).trans k0
  refine ⟨_, rfl, s1, ?_⟩
  simp only [Act.put, List.setIfInBounds_toArray, List.set_cons_zero, List.set_cons_succ]
  refine wpAnyH_all (rs := [4]) (by kernel_rfl) (by simp) ?_
  intro i hi; obtain rfl := List.mem_singleton.1 hi; clear hi
  refine op_call (d := 44) rfl rfl rfl (by go_simp) ((HMAP.out _ hb1).mono ?_)
  rintro e y2 ⟨v2, vs, rfl, hri, hy2⟩
  obtain ⟨va, vc, rfl⟩ := hri.form
  obtain ⟨nn, hnn⟩ : ∃ x, x = L.length := ⟨_, rfl⟩
  rw [← hnn] at hri ⊢
  clear hnn
  have hb2 : Below w.heap.size w y2 := hb1.trans (hy2.mono hb1.size)
  have s2 := (hy2.block _ (ltOf s1)).trans s1
  have r2 := (hy2.block _ (ltOf r1)).trans r1
  refine ⟨_, rfl, s2, ?_⟩
  simp only [Act.put, List.setIfInBounds_toArray, List.set_cons_zero, List.set_cons_succ]
  refine wpAnyH_all (rs := [5]) (by kernel_rfl) (by simp) ?_
  intro i hi; obtain rfl := List.mem_singleton.1 hi; clear hi
  refine op_store rfl rfl rfl _ _ _ rfl w.heap.size #[.int .i64 0, .slice va nn vc, .int .i64 Q] rfl rfl (there_n r2 rfl) (by kernel_rfl) (by simp [Value.oneCell']) ?_
  obtain ⟨q0, q1, q2, qf0, qf1, qf2, ql⟩ := three_of (st_same3 (a' := .int .i64 0) (b' := .slice va nn vc) (c' := .int .i64 Q) r2)
  have HB : Hid (Below w.heap.size w (y2.setCells w.heap.size 0 [.int .i64 0, .slice va nn vc, .int .i64 Q]) ∧ RI (y2.setCells w.heap.size 0 [.int .i64 0, .slice va nn vc, .int .i64 Q]) w.heap.size (.slice va nn vc) L vs) := ⟨st_below (Nat.le_refl _) _ _ hb2, (ri_under (ltOf r1) _ _ hri).low (Nat.le_of_lt (ltOf r1))⟩
  refine ⟨(setCells_other _ _ _ _ _ (by have := HKR.out; omega)).trans s2, wpAnyH_done (by kernel_rfl) (NoPanic.normal ?_) _⟩
  generalize y2.setCells w.heap.size 0 [.int .i64 0, .slice va nn vc, .int .i64 Q] = V' at HB q0 q1 q2 qf0 qf1 qf2 ql ⊢
  clear k0 k1 hb hS hy1 hb1 s1 r1 hy2 hb2 s2 r2 HEND HMAP hri
  go_wp2
  try simp only [Exit.inBlock, Exit.then]
  refine bodyPost_ret (by simp [results, Try.results19, go_sem, q0, q1, q2, ql]; try rfl) rfl ⟨.slice va nn vc, vs, by rw [HZ.out.1, HZ.out.2], HB.out.2, HB.out.1⟩

end Go.Proofs.Ythmddnachancfaa
