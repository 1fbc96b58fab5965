/- Proved here: Oxidise of the program. -/
import Derived.Test.YtceljakmjddgbabOxI
import Derived.Test.YtceljakmjddgbabGwG
import Derived.Test.YtceljakmjddgbabOpA
namespace Go.Proofs.Ytceljakmjddgbab
open Go.RowKit
set_option linter.unusedVariables false
set_option linter.unusedSimpArgs false

theorem et_at1 (w : World) (a b : Obj) : ((w.alloc a).alloc b).heap[w.heap.size + 1]? = some b := by have := heap_alloc_new (w.alloc a) b; simpa using this
theorem et_at2 (w : World) (a b c : Obj) : (((w.alloc a).alloc b).alloc c).heap[w.heap.size + 2]? = some c := by have := heap_alloc_new ((w.alloc a).alloc b) c; simpa using this

set_option maxHeartbeats 1600000 in
theorem impl_oxide1 {W : World} {i : Nat} {ua : Option Addr} {un uc k1 : Nat} {c : List Flm} {lv : Int} (hc : GC c) (hlv : 1 ≤ lv ∧ lv ≤ 100000) (hk1 : k1 < W.heap.size) (h1 : W.cell? ⟨k1, 0, none⟩ = some (.int .i64 lv)) (h : RG 2 flC W (.slice ua un uc) c) :
    Calls Try.prog 62 #[.int .i64 i, .slice ua un uc, .pointer (some ⟨k1, 0, none⟩)] W fun e w' => ∃ u, e = .returned u ∧ OG 88 1 layC w' W.heap.size u (oxL c lv) ∧ Below W.heap.size W w' := by
  have HC : Hid (Calls Try.prog 63 #[.slice ua un uc, .int .i64 lv] W fun e w' => ∃ u, e = .returned u ∧ OG 88 1 layC w' W.heap.size u (oxL c lv) ∧ Below W.heap.size W w') := impl_oxidised hc hlv h
  clear h hc hlv
  go_enter Try.func62, Try.ntmps62
  go_wp2_with (fail)
  refine HC.out.mono ?_
  rintro e w1 ⟨u, rfl, ho, hb⟩
  have HO : Hid _ := And.intro ho hb
  clear ho hb HC
  go_wp2
  go_returns
  exact ⟨_, rfl, HO.out.1, HO.out.2⟩

set_option maxRecDepth 10000 in
set_option maxHeartbeats 12800000 in
theorem impl_oxidise {w : World} {v : Value} {s : List (List Flm)} (m : Int) (hn : SmF s) (h : RsF w v s) :
    Calls Try.prog 26 #[.agg #[v], .int .i64 m] w fun e w' => ∃ u vs, e = .returned (.agg #[.int .i64 (oxC s m), u]) ∧ RoF w' w.heap.size u (oxS s m) vs ∧ Below w.heap.size w w' := by
  obtain ⟨a, c, rfl⟩ := h.form
  obtain ⟨n, hnn⟩ : ∃ n, n = s.length := ⟨_, rfl⟩
  obtain ⟨F, hF0⟩ : ∃ F, F = secF s := ⟨_, rfl⟩
  obtain ⟨A, hA⟩ : ∃ A : Int, A = if 1 ≤ m ∧ m ≤ 100000 then 0 else 3 := ⟨_, rfl⟩
  obtain ⟨P, hP⟩ : ∃ P, P = ofC s m := ⟨_, rfl⟩
  obtain ⟨C, hC⟩ : ∃ C, C = oxC s m := ⟨_, rfl⟩
  obtain ⟨L, hL⟩ : ∃ L, L = oxS s m := ⟨_, rfl⟩
  rw [← hnn] at h ⊢
  rw [← hC, ← hL]
  have HOR : Hid (orL [F, A] = P) := by
    unfold Hid; rw [hP, ofC, hA, ← hF0]
    simp only [orL]
    by_cases h1 : F = 0
    · rw [if_pos h1, if_pos h1]
      split
      · rw [if_pos rfl]
      · rw [if_neg (by decide)]
    · rw [if_neg h1, if_neg h1]
  have HS : Hid (∀ W, Below w.heap.size w W → Calls Try.prog 43 #[.agg #[.slice a n c]] W fun e w' => e = .returned (.int .i64 F) ∧ Below W.heap.size W w') := fun W hW => by rw [hF0]; exact impl_secF hn (h.below hW)
  have HM : Hid (∀ W, Calls Try.prog 56 #[.int .i64 m, .int .i64 1] W fun e w' => e = .returned (.int .i64 A) ∧ w' = W) := fun W => by rw [hA]; exact impl_byT m 1 W
  have H : Hid (RsF w (.slice a n c) s ∧ n = s.length ∧ P = ofC s m ∧ C = oxC s m ∧ L = oxS s m) := ⟨h, hnn, hP, hC, hL⟩
  clear h hnn hn hF0 hA hP hC hL
  obtain ⟨V, hV⟩ : ∃ V, V = ((w.alloc (.cells #[.slice a n c] 30)).alloc (.cells #[.int .i64 m] 2)).alloc (.cells #[.int .i64 0, .slice none 0 0] 49) := ⟨_, rfl⟩
  have k0 : V.heap[w.heap.size]? = some (.cells #[.slice a n c] 30) := by rw [hV]; exact (Below.heap_alloc _ _ _ (by simp <;> omega)).trans ((Below.heap_alloc _ _ _ (by simp)).trans (heap_alloc_new w _))
  have k1 : V.heap[w.heap.size + 1]? = some (.cells #[.int .i64 m] 2) := by rw [hV]; exact (Below.heap_alloc _ _ _ (by simp)).trans (et_at1 w _ _)
  have k2 : V.heap[w.heap.size + 2]? = some (.cells #[.int .i64 0, .slice none 0 0] 49) := by rw [hV]; exact et_at2 w _ _ _
  have hbV : Below w.heap.size w V := by rw [hV]; (repeat' (first | (with_reducible exact Below.refl _ _) | (with_reducible assumption) | (with_reducible refine Below.setCell ?_ ?_ _) | (with_reducible refine Below.alloc ?_ ?_ _) | (with_reducible refine below_drewN ?_ _) | (with_reducible refine Below.drew ?_) | (with_reducible exact Nat.le_refl _) | omega | (simp; done) | (simp; omega)))
  have HV : Hid (Below w.heap.size w V ∧ V.heap[w.heap.size]? = some (.cells #[.slice a n c] 30) ∧ V.heap[w.heap.size + 1]? = some (.cells #[.int .i64 m] 2) ∧ V.heap[w.heap.size + 2]? = some (.cells #[.int .i64 0, .slice none 0 0] 49)) := ⟨hbV, k0, k1, k2⟩
  have a0 := cellOf k0 0 rfl
  have a1 := ltOf k0
  have b0 := cellOf k1 0 rfl
  have b1 := ltOf k1
  clear k0 k1 k2 hbV
  go_enter Try.func26, Try.ntmps26
  go_wp2_with (fail)
  rw [← hV]
  clear hV
  refine wp_region_float (by kernel_rfl) (fun hS => ?_)
  refine fl_take (i := 0) (d := 6) (v := .agg #[.slice a n c]) rfl rfl rfl (by kernel_rfl) (by kernel_rfl) (by kernel_rfl) hS ?_ ?_
  · intro w' hk; go_simp
  simp only [Act.put, List.setIfInBounds_toArray, List.set_cons_zero, List.set_cons_succ]
  refine fl_take (i := 2) (d := 8) (v := .int .i64 m) rfl rfl rfl (by kernel_rfl) (by kernel_rfl) (by kernel_rfl) hS ?_ ?_
  · intro w' hk; go_simp
  simp only [Act.put, List.setIfInBounds_toArray, List.set_cons_zero, List.set_cons_succ]
  refine wpAnyH_all (rs := [1]) (by kernel_rfl) (by simp) ?_
  intro i hi
  obtain rfl : i = 1 := by simpa using hi
  clear hi
  refine op_call (d := 7) rfl rfl rfl (by go_simp) ((HS.out _ (HV.out.1.trans (hS.2.mono HV.out.1.size))).mono ?_)
  rintro e y1 ⟨rfl, hb1⟩
  have hk1 : Below V.heap.size V y1 := hS.2.trans (hb1.mono hS.2.size)
  refine ⟨_, rfl, KS.of hk1, ?_⟩
  simp only [Act.put, List.setIfInBounds_toArray, List.set_cons_zero, List.set_cons_succ]
  refine wpAnyH_all (rs := [3]) (by kernel_rfl) (by simp) ?_
  intro i hi
  obtain rfl : i = 3 := by simpa using hi
  clear hi
  refine op_call (d := 9) rfl rfl rfl (by go_simp) ((HM.out _).mono ?_)
  rintro e y2 ⟨rfl, rfl⟩
  refine ⟨_, rfl, KS.of hk1, ?_⟩
  simp only [Act.put, List.setIfInBounds_toArray, List.set_cons_zero, List.set_cons_succ]
  refine wpAnyH_all (rs := [4]) (by kernel_rfl) (by simp) ?_
  intro i hi
  obtain rfl : i = 4 := by simpa using hi
  clear hi
  refine op_val (d := 10) (v := .slice (some ⟨y2.heap.size, 0, none⟩) 2 2) (w' := y2.alloc (.cells #[.int .i64 F, .int .i64 A] 2)) rfl rfl rfl (by go_simp; try rfl) ?_
  simp only [Act.put, List.setIfInBounds_toArray, List.set_cons_zero, List.set_cons_succ]
  have hn2 := heap_alloc_new y2 (.cells #[.int .i64 F, .int .i64 A] 2)
  have hk2 : Below V.heap.size V (y2.alloc (.cells #[.int .i64 F, .int .i64 A] 2)) := hk1.alloc hk1.size _
  refine ⟨KS.of hk2, wpAnyH_all (rs := [5]) (by kernel_rfl) (by simp) ?_⟩
  intro i hi
  obtain rfl : i = 5 := by simpa using hi
  clear hi
  have hor := impl_or (w := y2.alloc (.cells #[.int .i64 F, .int .i64 A] 2)) (g := y2.heap.size) (n := 2) (xs := [F, A]) (by omega) rfl (fun j hj => by
    match j, hj with
    | 0, _ => exact cellOf hn2 0 rfl
    | 1, _ => exact cellOf hn2 1 rfl)
  refine op_call (d := 11) rfl rfl rfl (by go_simp) (hor.mono ?_)
  rintro e y3 ⟨rfl, rfl⟩
  rw [HOR.out]
  refine ⟨_, rfl, KS.of hk2, ?_⟩
  simp only [Act.put, List.setIfInBounds_toArray, List.set_cons_zero, List.set_cons_succ]
  refine wpAnyH_all (rs := [6]) (by kernel_rfl) (by simp) ?_
  intro i hi
  obtain rfl : i = 6 := by simpa using hi
  clear hi
  obtain ⟨w1, hw1⟩ : ∃ x, x = y2.alloc (.cells #[.int .i64 F, .int .i64 A] 2) := ⟨_, rfl⟩
  rw [← hw1] at hk2 ⊢
  refine op_val (d := 5) (v := .int .i64 P) (w' := w1) rfl rfl rfl (by go_simp; try rfl) ?_
  simp only [Act.put, List.setIfInBounds_toArray, List.set_cons_zero, List.set_cons_succ]
  refine ⟨KS.of hk2, wpAnyH_done (by kernel_rfl) (NoPanic.normal ?_) _⟩
  have H1 : Hid (Below w.heap.size w w1 ∧ w1.heap[w.heap.size + 1]? = some (.cells #[.int .i64 m] 2) ∧ w1.heap[w.heap.size + 2]? = some (.cells #[.int .i64 0, .slice none 0 0] 49)) := ⟨HV.out.1.trans (hk2.mono HV.out.1.size), (hk2.block _ (ltOf HV.out.2.2.1)).trans HV.out.2.2.1, (hk2.block _ (ltOf HV.out.2.2.2)).trans HV.out.2.2.2⟩
  have s0 := cellOf ((hk2.block _ (ltOf HV.out.2.1)).trans HV.out.2.1) 0 rfl
  have s1 := ltOf ((hk2.block _ (ltOf HV.out.2.1)).trans HV.out.2.1)
  obtain ⟨p0, p1, f0, f1, pl⟩ := two_ofd H1.out.2.2
  clear hS hb1 hk1 hn2 hor hk2 hw1 a0 a1 b0 b1 HS HM HOR
  by_cases hF : P = 0
  · obtain ⟨hg, hm⟩ := ofC_ok (H.out.2.2.1 ▸ hF)
    have HE : Hid (C = secF (aftS (fun i => oxL (s.getD i []) m) s.length) ∧ L = if C = 0 then aftS (fun i => oxL (s.getD i []) m) s.length else []) := by
      refine ⟨by rw [H.out.2.2.2.1, oxC, if_pos (secF_zero.2 hg), if_pos hm], by rw [H.out.2.2.2.2, oxS, ← H.out.2.2.2.1]⟩
    have HST : Hid (StepOk 62 #[.pointer (some ⟨w.heap.size + 1, 0, none⟩)] w1 s (fun i => oxL (s.getD i []) m)) := by
      refine ⟨fun args V => enter_fn Try.func62 (by kernel_rfl) rfl args V, fun V i ua un uc hV hi hr => ?_, ox_st hg hm⟩
      have x1 := (hV.block _ (ltOf H1.out.2.1)).trans H1.out.2.1
      exact impl_oxide1 (hg.col i hi) hm (ltOf x1) (cellOf x1 0 rfl) hr
    have HG : Hid (Calls Try.prog 61 #[.agg #[.slice a n c], .func (.func 62) #[] #[.pointer (some ⟨w.heap.size + 1, 0, none⟩)]] w1 fun e w' => ∃ u vs, e = .returned (.agg #[.int .i64 C, u]) ∧ RoF w' w1.heap.size u L vs ∧ Below w1.heap.size w1 w') := by
      have h9 := impl_grown hg.len HST.out (H.out.1.below H1.out.1)
      rw [← HE.out.1, ← HE.out.2] at h9
      exact h9
    clear hg hm HST
    subst hF
    go_wp2_with (fail)
    refine HG.out.mono ?_
    rintro e w2 ⟨u, vs, rfl, hro, hb2⟩
    obtain ⟨xa, xc, hue⟩ := hro.form
    obtain ⟨xn, hxn⟩ : ∃ x, x = L.length := ⟨_, rfl⟩
    rw [← hxn] at hue
    subst hue
    have k3 := (hb2.block _ (ltOf H1.out.2.2)).trans H1.out.2.2
    obtain ⟨p0', p1', f0', f1', pl'⟩ := two_ofd k3
    obtain ⟨W, hW⟩ : ∃ W, W = (w2.setCell ⟨w.heap.size + 2, 0, none⟩ (.int .i64 C)).setCell ⟨w.heap.size + 2, 1, none⟩ (.slice xa xn xc) := ⟨_, rfl⟩
    have HF : Hid (RoF W w.heap.size (.slice xa xn xc) L vs ∧ Below w.heap.size w W) := by
      have ho : ∀ q, w1.heap.size ≤ q → W.heap[q]? = w2.heap[q]? := fun q hq => by
        have := ltOf H1.out.2.2
        rw [hW, heap_setCell_other _ _ _ _ (by simp; omega), heap_setCell_other _ _ _ _ (by simp; omega)]
      refine ⟨(hro.kept (fun q hq => ho q (rowBlk hro.o hq).1) (fun i hi q hq => ho q (rowBlk (hro.bx i hi) hq).1)).low H1.out.1.size, ?_⟩
      rw [hW]; have := H1.out.1.trans (hb2.mono H1.out.1.size); (repeat' (first | (with_reducible exact Below.refl _ _) | (with_reducible assumption) | (with_reducible refine Below.setCell ?_ ?_ _) | (with_reducible refine Below.alloc ?_ ?_ _) | (with_reducible refine below_drewN ?_ _) | (with_reducible refine Below.drew ?_) | (with_reducible exact Nat.le_refl _) | omega | (simp; done) | (simp; omega)))
    have HWW : Hid _ := hW
    clear hW hro hb2 k3 hxn p0 p1 f0 f1 pl s0 s1 HG
    go_wp2
    rw [← HWW.out]
    refine bodyPost_ret (by rw [HWW.out]; simp [results, Try.results26, go_sem, p0', p1', pl']; try rfl) rfl ?_
    first | exact ⟨_, vs, rfl, HF.out.1, HF.out.2⟩ | exact ⟨_, rfl, ⟨vs, HF.out.1⟩, HF.out.2⟩
  · have HE : Hid (C = P ∧ L = []) := by
      have h5 : C = P := by
        rw [H.out.2.2.2.1, H.out.2.2.1]
        have h6 : ofC s m ≠ 0 := H.out.2.2.1 ▸ hF
        unfold oxC ofC at *
        split
        · rename_i h7
          rw [if_pos h7] at h6
          split
          · rename_i h8; rw [if_pos h8] at h6; exact absurd rfl h6
          · rfl
        · rfl
      exact ⟨h5, by rw [H.out.2.2.2.2, oxS, ← H.out.2.2.2.1, if_neg (by rw [h5]; exact hF)]⟩
    have hF' : (P == 0) = false := by simpa using hF
    have HB : Hid (Below w.heap.size w ((w1.setCell ⟨w.heap.size + 2, 0, none⟩ (.int .i64 P)).setCell ⟨w.heap.size + 2, 1, none⟩ (.slice none 0 0))) := by
      have := H1.out.1; unfold Hid; (repeat' (first | (with_reducible exact Below.refl _ _) | (with_reducible assumption) | (with_reducible refine Below.setCell ?_ ?_ _) | (with_reducible refine Below.alloc ?_ ?_ _) | (with_reducible refine below_drewN ?_ _) | (with_reducible refine Below.drew ?_) | (with_reducible exact Nat.le_refl _) | omega | (simp; done) | (simp; omega)))
    have HR : Hid (∀ W : World, RoF W w.heap.size (.slice none 0 0) L []) := fun W => by rw [HE.out.2]; exact RoF.nil _ _
    go_wp2
    refine bodyPost_ret (by simp [results, Try.results26, go_sem, p0, p1, pl]; try rfl) rfl ?_
    first | exact ⟨_, [], by rw [HE.out.1] <;> rfl, HR.out _, HB.out⟩ | exact ⟨_, by rw [HE.out.1] <;> rfl, ⟨[], HR.out _⟩, HB.out⟩

end Go.Proofs.Ytceljakmjddgbab
