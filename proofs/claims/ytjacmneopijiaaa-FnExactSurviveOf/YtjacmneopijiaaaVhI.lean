/- Proved here: HitDice of the program. -/
import Derived.Test.YtjacmneopijiaaaVhG
import Derived.Test.YtjacmneopijiaaaVbI
import Derived.Test.YtjacmneopijiaaaVdI
import Derived.Test.YtjacmneopijiaaaVtI
import Derived.StillTail
import Derived.Deep.DeepCutAuto
namespace Go.Proofs.Ytjacmneopijiaaa
open Go.RowKit Go.Maps
set_option linter.unusedVariables false
set_option linter.unusedSimpArgs false

set_option maxRecDepth 10000 in
set_option maxHeartbeats 25600000 in
theorem impl_vh {W : World} {v : Value} {s : List Dft} (wd hg p : Int) (hn : s.length ≤ 1048576) (h : RG 4 vdC W v s) :
    Calls Try.prog 58 #[v, .int .i64 wd, .int .i64 hg, .int .i64 p] W fun e w' => ∃ v vs, e = .returned (.agg #[.int .i64 (vhC s wd hg p), v, .int .i64 (vhO s wd hg p)]) ∧ RI w' W.heap.size v (vhL s wd hg p) vs ∧ Below W.heap.size W w' := by
  obtain ⟨da, dc, rfl⟩ := h.form
  obtain ⟨C, hC⟩ : ∃ C, C = vhC s wd hg p := ⟨_, rfl⟩
  obtain ⟨L, hL⟩ : ∃ L, L = vhL s wd hg p := ⟨_, rfl⟩
  obtain ⟨Q, hQ⟩ : ∃ Q, Q = vhO s wd hg p := ⟨_, rfl⟩
  obtain ⟨dn, hdn⟩ : ∃ n, n = s.length := ⟨_, rfl⟩
  obtain ⟨F, hF⟩ : ∃ F, F = vdF s := ⟨_, rfl⟩
  have HF : Hid (∀ X, Below W.heap.size W X → Calls Try.prog 12 #[.slice da dn dc] X fun e w' => e = .returned (.int .i64 F) ∧ Below X.heap.size X w') := fun X hX => by
    rw [hF, hdn]; exact impl_vdF hn (h.below hX)
  obtain ⟨r1, hr1⟩ : ∃ r, r = decide (1 ≤ wd ∧ wd ≤ 20) := ⟨_, rfl⟩
  obtain ⟨r2, hr2⟩ : ∃ r, r = decide (1 ≤ hg ∧ hg ≤ 20) := ⟨_, rfl⟩
  obtain ⟨r3, hr3⟩ : ∃ r, r = decide (1 ≤ p ∧ p ≤ 1000) := ⟨_, rfl⟩
  have HI1 : Hid (∀ X, Calls Try.prog 63 #[.int .i64 wd, .int .i64 1, .int .i64 20] X fun e w' => e = .returned (.bool r1) ∧ w' = X) := fun X => impl_insC _ _ _ _ hr1 X
  have HI2 : Hid (∀ X, Calls Try.prog 63 #[.int .i64 hg, .int .i64 1, .int .i64 20] X fun e w' => e = .returned (.bool r2) ∧ w' = X) := fun X => impl_insC _ _ _ _ hr2 X
  have HI3 : Hid (∀ X, Calls Try.prog 63 #[.int .i64 p, .int .i64 1, .int .i64 1000] X fun e w' => e = .returned (.bool r3) ∧ w' = X) := fun X => impl_insC _ _ _ _ hr3 X
  have HCC : Hid (C = if F = 0 then (if r1 && r2 && r3 then 0 else 3) else F) := by unfold Hid; rw [hC, hF, hr1, hr2, hr3]; rfl
  rw [← hdn] at h ⊢
  rw [← hC, ← hL, ← hQ]
  have H : Hid (RG 4 vdC W (.slice da dn dc) s ∧ C = vhC s wd hg p ∧ L = vhL s wd hg p ∧ Q = vhO s wd hg p ∧ dn = s.length) := ⟨h, hC, hL, hQ, hdn⟩
  clear h hC hL hQ hdn hF hn hr1 hr2 hr3
  obtain ⟨k0, hk0⟩ : ∃ k, k = W.heap.size := ⟨_, rfl⟩
  obtain ⟨V0, hV0⟩ : ∃ V, V = W.alloc (.cells #[.int .i64 0, .slice none 0 0, .int .i64 0] 92) := ⟨_, rfl⟩
  have HB0 : Hid (Below k0 W V0 ∧ V0.heap.size = k0 + 1 ∧ k0 = W.heap.size) := ⟨by rw [hV0, hk0]; (repeat' (first | (with_reducible exact Below.refl _ _) | (with_reducible assumption) | (with_reducible refine Below.setCell ?_ ?_ _) | (with_reducible refine Below.alloc ?_ ?_ _) | (with_reducible refine below_drewN ?_ _) | (with_reducible refine Below.drew ?_) | (with_reducible exact Nat.le_refl _) | omega | (simp; done) | (simp; omega))), by rw [hV0, hk0]; simp, hk0⟩
  have HQ1 : Hid (V0.heap[k0]? = some (.cells #[.int .i64 0, .slice none 0 0, .int .i64 0] 92)) := by rw [hV0, hk0]; exact heap_alloc_new W _
  have HV0 : Hid (V0 = W.alloc (.cells #[.int .i64 0, .slice none 0 0, .int .i64 0] 92) ∧ k0 = W.heap.size) := ⟨hV0, hk0⟩
  clear hV0 hk0
  go_enter Try.func58, Try.ntmps58
  go_wp2_with (fail)
  rw [← HV0.out.1, ← HV0.out.2]
  clear HV0
  refine (HF.out _ (by rw [← HB0.out.2.2]; exact HB0.out.1)).mono ?_
  rintro e w1 ⟨rfl, hb1⟩
  have HB1 : Hid (Below k0 W w1) := HB0.out.1.trans (hb1.mono (by have := HB0.out.2; omega))
  have q1 := (hb1.block k0 (by have := HB0.out.2; omega)).trans HQ1.out
  have HKW : Hid (k0 = W.heap.size ∧ k0 + 1 ≤ w1.heap.size) := ⟨HB0.out.2.2, by have := hb1.size; have := HB0.out.2; omega⟩
  clear hb1 HQ1 HB0 HF
  by_cases hc : F = 0
  case neg =>
    have hc2 : (F != 0) = true := by simp [hc]
    have HE : Hid (C = F ∧ L = [] ∧ Q = 0) := by
      have h0 : C = F := by rw [HCC.out, if_neg hc]
      have h1 : ¬ vhC s wd hg p = 0 := by rw [← H.out.2.1, h0]; exact hc
      exact ⟨h0, by rw [H.out.2.2.1]; exact vhL_bad h1, by rw [H.out.2.2.2.1]; exact vhO_bad h1⟩
    have z0 : w1.cell? ⟨k0, 0, none⟩ = some (.int .i64 0) := cellOf q1 0 rfl
    have z1 : w1.cell? ⟨k0, 1, none⟩ = some (.slice none 0 0) := cellOf q1 1 rfl
    have z2 : w1.cell? ⟨k0, 2, none⟩ = some (.int .i64 0) := cellOf q1 2 rfl
    have zf0 := frozOf q1 0
    have zf1 := frozOf q1 1
    have zf2 := frozOf q1 2
    have zl := ltOf q1
    obtain ⟨e1, e2, e3, e4, e5, e6⟩ := set3e (a' := .int .i64 F) (b' := .slice none 0 0) (c' := .int .i64 0) q1
    clear q1
    go_wp2
    refine bodyPost_ret (by simp [results, Try.results58, go_sem, e1, e2, e3, e4, e5, e6, zl]; try rfl) rfl ?_
    refine ⟨.slice none 0 0, [], by rw [HE.out.1, HE.out.2.2] <;> rfl, ?_, ?_⟩
    · rw [HE.out.2.1]; exact RI.nil _ _
    · rw [← HKW.out.1]
      exact set3b HB1.out (Nat.le_refl _)
  subst hc
  have HC3 : Hid ((r1 && r2 && r3) = false → (C = 3 ∧ L = [] ∧ Q = 0)) := by
    intro h9
    have h0 : C = 3 := by rw [HCC.out, h9]; rfl
    have h1 : ¬ vhC s wd hg p = 0 := by rw [← H.out.2.1, h0]; omega
    exact ⟨h0, by rw [H.out.2.2.1]; exact vhL_bad h1, by rw [H.out.2.2.2.1]; exact vhO_bad h1⟩
  go_wp2_with (fail)
  refine (HI1.out _).mono ?_
  rintro e w9 ⟨rfl, rfl⟩
  cases r1 with
  | false =>
    have HE : Hid (C = 3 ∧ L = [] ∧ Q = 0) := HC3.out rfl
    have z0 : w9.cell? ⟨k0, 0, none⟩ = some (.int .i64 0) := cellOf q1 0 rfl
    have z1 : w9.cell? ⟨k0, 1, none⟩ = some (.slice none 0 0) := cellOf q1 1 rfl
    have z2 : w9.cell? ⟨k0, 2, none⟩ = some (.int .i64 0) := cellOf q1 2 rfl
    have zf0 := frozOf q1 0
    have zf1 := frozOf q1 1
    have zf2 := frozOf q1 2
    have zl := ltOf q1
    obtain ⟨e1, e2, e3, e4, e5, e6⟩ := set3e (a' := .int .i64 3) (b' := .slice none 0 0) (c' := .int .i64 0) q1
    clear q1
    go_wp2
    refine bodyPost_ret (by simp [results, Try.results58, go_sem, e1, e2, e3, e4, e5, e6, zl]; try rfl) rfl ?_
    refine ⟨.slice none 0 0, [], by rw [HE.out.1, HE.out.2.2] <;> rfl, ?_, ?_⟩
    · rw [HE.out.2.1]; exact RI.nil _ _
    · rw [← HKW.out.1]
      exact set3b HB1.out (Nat.le_refl _)
  | true =>
  go_wp2_with (fail)
  refine (HI2.out _).mono ?_
  rintro e w9 ⟨rfl, rfl⟩
  cases r2 with
  | false =>
    have HE : Hid (C = 3 ∧ L = [] ∧ Q = 0) := HC3.out rfl
    have z0 : w9.cell? ⟨k0, 0, none⟩ = some (.int .i64 0) := cellOf q1 0 rfl
    have z1 : w9.cell? ⟨k0, 1, none⟩ = some (.slice none 0 0) := cellOf q1 1 rfl
    have z2 : w9.cell? ⟨k0, 2, none⟩ = some (.int .i64 0) := cellOf q1 2 rfl
    have zf0 := frozOf q1 0
    have zf1 := frozOf q1 1
    have zf2 := frozOf q1 2
    have zl := ltOf q1
    obtain ⟨e1, e2, e3, e4, e5, e6⟩ := set3e (a' := .int .i64 3) (b' := .slice none 0 0) (c' := .int .i64 0) q1
    clear q1
    go_wp2
    refine bodyPost_ret (by simp [results, Try.results58, go_sem, e1, e2, e3, e4, e5, e6, zl]; try rfl) rfl ?_
    refine ⟨.slice none 0 0, [], by rw [HE.out.1, HE.out.2.2] <;> rfl, ?_, ?_⟩
    · rw [HE.out.2.1]; exact RI.nil _ _
    · rw [← HKW.out.1]
      exact set3b HB1.out (Nat.le_refl _)
  | true =>
  go_wp2_with (fail)
  refine (HI3.out _).mono ?_
  rintro e w1 ⟨rfl, rfl⟩
  cases r3 with
  | false =>
    have HE : Hid (C = 3 ∧ L = [] ∧ Q = 0) := HC3.out rfl
    have z0 : w1.cell? ⟨k0, 0, none⟩ = some (.int .i64 0) := cellOf q1 0 rfl
    have z1 : w1.cell? ⟨k0, 1, none⟩ = some (.slice none 0 0) := cellOf q1 1 rfl
    have z2 : w1.cell? ⟨k0, 2, none⟩ = some (.int .i64 0) := cellOf q1 2 rfl
    have zf0 := frozOf q1 0
    have zf1 := frozOf q1 1
    have zf2 := frozOf q1 2
    have zl := ltOf q1
    obtain ⟨e1, e2, e3, e4, e5, e6⟩ := set3e (a' := .int .i64 3) (b' := .slice none 0 0) (c' := .int .i64 0) q1
    clear q1
    go_wp2
    refine bodyPost_ret (by simp [results, Try.results58, go_sem, e1, e2, e3, e4, e5, e6, zl]; try rfl) rfl ?_
    refine ⟨.slice none 0 0, [], by rw [HE.out.1, HE.out.2.2] <;> rfl, ?_, ?_⟩
    · rw [HE.out.2.1]; exact RI.nil _ _
    · rw [← HKW.out.1]
      exact set3b HB1.out (Nat.le_refl _)
  | true =>
  have hC0 : C = 0 := by rw [HCC.out]; rfl
  obtain ⟨hvd, hbw, hbh, hbp⟩ := vhC_ok (s := s) (w := wd) (h := hg) (p := p) (by rw [← H.out.2.1]; exact hC0)
  have hdok := vdF_ok hvd
  have HL2 : Hid (L = gR (vhN s p) hg.toNat wd.toNat ∧ Q = voN s wd hg p) := ⟨by rw [H.out.2.2.1]; exact vhL_ok (by rw [← H.out.2.1]; exact hC0), by rw [H.out.2.2.2.1]; exact vhO_ok (by rw [← H.out.2.1]; exact hC0)⟩
  have hdb : dn ≤ 60 := by rw [H.out.2.2.2.2]; exact hdok.1
  obtain ⟨WN, hWN⟩ : ∃ n, n = wd.toNat := ⟨_, rfl⟩
  obtain ⟨NH, hHN⟩ : ∃ n, n = hg.toNat := ⟨_, rfl⟩
  rw [← hWN, ← hHN] at HL2
  obtain rfl : wd = (WN : Int) := by omega
  obtain rfl : hg = (NH : Int) := by omega
  have hW20 : 1 ≤ WN ∧ WN ≤ 20 := by omega
  have hH20 : 1 ≤ NH ∧ NH ≤ 20 := by omega
  have HDV : Hid (∀ d ∈ s, Vok d) := hdok.2
  have HCZ : Hid (C = 0) := hC0
  clear HCC HC3 hC0 hvd hbw hbh hdok HI1 HI2 HI3 hWN hHN
  obtain ⟨i0, hi0, hz0, hz1, hz2⟩ := info_parts info_row
  obtain ⟨i1, hi1, hy0, hy1, hy2⟩ := info_parts info_i64
  obtain ⟨g0, hg0⟩ : ∃ g, g = w1.heap.size := ⟨_, rfl⟩
  have HG0 : Hid (g0 = w1.heap.size) := hg0
  clear hg0
  have hH0 : (0 : Int) ≤ (NH : Int) := by omega
  go_wp2_with (at_make; refine wpList_make_full _ rfl _ _ 90 rfl w1.heap.size 45 i0 (.slice none 0 0) 1 Try.underlying90 hi0 hz0 hz1 _ _ _ _ NH rfl rfl rfl rfl (by rw [hz2]; omega) (by unfold maxLen; omega) (Nat.le_refl _) ?_; intro w2 hown2 hgrow2)
  rw [← HG0.out] at hown2 ⊢
  obtain ⟨kh, hkh⟩ : ∃ k, k = w2.heap.size := ⟨_, rfl⟩
  obtain ⟨V3, hV3⟩ : ∃ V, V = w2.alloc (.cells #[.int .i64 0, .slice (some ⟨g0, 0, none⟩) NH NH, .int .i64 0] 92) := ⟨_, rfl⟩
  have b2 : Below w1.heap.size w1 w2 := (Below.refl _ _).grown hgrow2 (Nat.le_refl _) (fun k h => by cases h)
  have b3 : Below w2.heap.size w2 V3 := by rw [hV3]; (repeat' (first | (with_reducible exact Below.refl _ _) | (with_reducible assumption) | (with_reducible refine Below.setCell ?_ ?_ _) | (with_reducible refine Below.alloc ?_ ?_ _) | (with_reducible refine below_drewN ?_ _) | (with_reducible refine Below.drew ?_) | (with_reducible exact Nat.le_refl _) | omega | (simp; done) | (simp; omega)))
  have b13 : Below w1.heap.size w1 V3 := b2.trans (b3.mono b2.size)
  have hRI0 : RI w2 g0 (.slice (some ⟨g0, 0, none⟩) NH NH) (zK NH WN 0) (List.replicate NH (.slice none 0 0)) := RI.made hown2
  have HKN : Hid (k0 < g0 ∧ g0 < kh) := ⟨by rw [HG0.out]; exact HKW.out.2, by rw [hkh]; exact (World.ownsRow.lt hown2 g0 rfl).2⟩
  have HS0 : Hid (∃ vs, RI V3 g0 (.slice (some ⟨g0, 0, none⟩) NH NH) (zK NH WN 0) vs ∧ V3.heap[kh]? = some (.cells #[.int .i64 0, .slice (some ⟨g0, 0, none⟩) NH NH, .int .i64 0] 92) ∧ V3.heap[k0]? = some (.cells #[.int .i64 0, .slice none 0 0, .int .i64 0] 92) ∧ Below k0 W V3) :=
    ⟨_, hRI0.below b3, by rw [hV3, hkh]; exact heap_alloc_new w2 _, (b13.block _ (ltOf q1)).trans q1, HB1.out.trans (b13.mono (by have := HKW.out.2; omega))⟩
  have HV3 : Hid (V3 = w2.alloc (.cells #[.int .i64 0, .slice (some ⟨g0, 0, none⟩) NH NH, .int .i64 0] 92) ∧ kh = w2.heap.size) := ⟨hV3, hkh⟩
  clear hkh hV3 b2 b3 b13 hRI0 hown2 hgrow2 q1 HB1
  go_wp2
  rw [← HV3.out.1, ← HV3.out.2]
  clear HV3
  go_loopw [41] (fun i wr => ∃ k : Nat, k ≤ NH ∧ i = .int .i64 k ∧ Hid (∃ vs, RI wr g0 (.slice (some ⟨g0, 0, none⟩) NH NH) (zK NH WN k) vs ∧ wr.heap[kh]? = some (.cells #[.int .i64 0, .slice (some ⟨g0, 0, none⟩) NH NH, .int .i64 0] 92) ∧ wr.heap[k0]? = some (.cells #[.int .i64 0, .slice none 0 0, .int .i64 0] 92) ∧ Below k0 W wr)) (fun i _ => NH - (intOf i).toNat)
  case atStart => exact ⟨0, Nat.zero_le _, rfl, HS0.out⟩
  case round =>
    clear HS0
    obtain ⟨k, hk, rfl, hR⟩ := hrel
    obtain ⟨vs, hRI, qh, q1, hBr⟩ := hR.out
    by_cases hlt : k < NH
    · obtain ⟨w3, hrun, hown3, hgrow3⟩ := run_make_full (P := Try.prog) (w := wr.drew) wr.heap.size 45 2 i1 (.int .i64 0) 1 Try.underlying45 hi1 hy0 hy1 .i64 .i64 WN (by rw [hy2]; omega) (by unfold maxLen; omega) (by simp)
      have hds : wr.drew.heap.size = wr.heap.size := by simp
      rw [hds] at hrun hown3
      have b3 : Below wr.heap.size wr w3 := ((Below.refl _ _).drew).grown hgrow3 (by simp) (fun k h => by cases h)
      have hIS3 : IS w3 wr.heap.size (.slice (some ⟨wr.heap.size, 0, none⟩) WN WN) (List.replicate WN 0) := IS.made hown3
      obtain ⟨t1, tf, tl⟩ := (hRI.below b3).cellk (k := k) (by rw [zK_len]; exact hlt)
      have q3 := (b3.block _ (ltOf qh)).trans qh
      have q13 := (b3.block _ (ltOf q1)).trans q1
      have hg9 : g0 < wr.heap.size := (hRI.cellk (k := k) (by rw [zK_len]; exact hlt)).2.2
      have HNX : Hid (∃ vs, RI (w3.setCell ⟨g0, k, none⟩ (.slice (some ⟨wr.heap.size, 0, none⟩) WN WN)) g0 (.slice (some ⟨g0, 0, none⟩) NH NH) (zK NH WN (k + 1)) vs ∧ (w3.setCell ⟨g0, k, none⟩ (.slice (some ⟨wr.heap.size, 0, none⟩) WN WN)).heap[kh]? = some (.cells #[.int .i64 0, .slice (some ⟨g0, 0, none⟩) NH NH, .int .i64 0] 92) ∧ (w3.setCell ⟨g0, k, none⟩ (.slice (some ⟨wr.heap.size, 0, none⟩) WN WN)).heap[k0]? = some (.cells #[.int .i64 0, .slice none 0 0, .int .i64 0] 92) ∧ Below k0 W (w3.setCell ⟨g0, k, none⟩ (.slice (some ⟨wr.heap.size, 0, none⟩) WN WN))) := by
        have h9 := hRI.put b3 (by omega) (k := k) (by rw [zK_len]; exact hlt) hIS3
        rw [← zK_succ hlt] at h9
        have hh := HKN.out
        exact ⟨_, h9, (heap_setCell_other _ _ _ _ (by show kh ≠ g0; omega)).trans q3, (heap_setCell_other _ _ _ _ (by show k0 ≠ g0; omega)).trans q13, (hBr.trans (b3.mono (by have := ltOf q1; omega))).setCell (by show k0 ≤ g0; omega) _⟩
      have hSd : wr.drew.heap[kh]? = some (.cells #[.int .i64 0, .slice (some ⟨g0, 0, none⟩) NH NH, .int .i64 0] 92) := qh
      have hS9 : (w3.setCell ⟨g0, k, none⟩ (.slice (some ⟨wr.heap.size, 0, none⟩) WN WN)).heap[kh]? = some (.cells #[.int .i64 0, .slice (some ⟨g0, 0, none⟩) NH NH, .int .i64 0] 92) := by obtain ⟨_, _, h9, _⟩ := HNX.out; exact h9
      obtain ⟨rk, hrk⟩ : ∃ r, r = rat vs k := ⟨_, rfl⟩
      rw [← hrk] at t1
      obtain ⟨kr, hkr⟩ : ∃ k, k = wr.heap.size := ⟨_, rfl⟩
      rw [← hkr] at hrun HNX hS9
      have b0 : (0 : Int) ≤ (k : Int) := by omega
      have b1 : (k : Int) < (NH : Int) := by omega
      clear hR hRI q1 hBr hown3 hgrow3 hIS3 b3 q13 hrk hg9 hds hkr qh
      go_wp2_with (fail)
      refine wp_region_holdsA (S := fun w' => w'.heap[kh]? = some (.cells #[.int .i64 0, .slice (some ⟨g0, 0, none⟩) NH NH, .int .i64 0] 92)) (by kernel_rfl) hSd (fun hS => ?_)
      refine fl_takeA (i := 0) (d := 44) (v := .pointer (some ⟨kh, 1, none⟩)) rfl rfl rfl (by kernel_rfl) (by kernel_rfl) (by kernel_rfl) hS ?_ ?_
      · intro w' hk; have x1 := cellOf hk 1 rfl; have x4 := ltOf hk; go_simp
      simp only [Act.put, List.setIfInBounds_toArray, List.set_cons_zero, List.set_cons_succ]
      refine fl_takeA (i := 1) (d := 45) (v := .slice (some ⟨g0, 0, none⟩) NH NH) rfl rfl rfl (by kernel_rfl) (by kernel_rfl) (by kernel_rfl) hS ?_ ?_
      · intro w' hk; have x1 := cellOf hk 1 rfl; have x4 := ltOf hk; go_simp
      simp only [Act.put, List.setIfInBounds_toArray, List.set_cons_zero, List.set_cons_succ]
      refine fl_takeA (i := 2) (d := 46) (v := .int .i64 (k : Int)) rfl rfl rfl (by kernel_rfl) (by kernel_rfl) (by kernel_rfl) hS ?_ ?_
      · intro w' hk; go_simp
      simp only [Act.put, List.setIfInBounds_toArray, List.set_cons_zero, List.set_cons_succ]
      refine fl_takeA (i := 3) (d := 47) (v := .int .i64 (WN : Int)) rfl rfl rfl (by kernel_rfl) (by kernel_rfl) (by kernel_rfl) hS ?_ ?_
      · intro w' hk; go_simp
      simp only [Act.put, List.setIfInBounds_toArray, List.set_cons_zero, List.set_cons_succ]
      refine wpAnyH_all (rs := [4]) (by kernel_rfl) (by simp) ?_
      intro iz hi
      obtain rfl : iz = 4 := by simpa using hi
      clear hi
      refine op_val (d := 48) (v := .slice (some ⟨kr, 0, none⟩) WN WN) (w' := w3) rfl rfl rfl (by go_simp; try rfl) ?_
      simp only [Act.put, List.setIfInBounds_toArray, List.set_cons_zero, List.set_cons_succ]
      refine ⟨q3, ?_⟩
      refine wpAnyH_all (rs := [5]) (by kernel_rfl) (by simp) ?_
      intro iz hi
      obtain rfl : iz = 5 := by simpa using hi
      clear hi
      refine op_val (d := 49) (v := .pointer (some ⟨g0, k, none⟩)) (w' := w3) rfl rfl rfl (by go_simp; try rfl) ?_
      simp only [Act.put, List.setIfInBounds_toArray, List.set_cons_zero, List.set_cons_succ]
      refine ⟨q3, ?_⟩
      refine wpAnyH_all (rs := [6]) (by kernel_rfl) (by simp) ?_
      intro iz hi
      obtain rfl : iz = 6 := by simpa using hi
      clear hi
      refine op_skipN (w' := w3.setCell ⟨g0, k, none⟩ (.slice (some ⟨kr, 0, none⟩) WN WN)) rfl rfl (by go_simp; try rfl) ?_
      refine ⟨hS9, ?_⟩
      refine wpAnyH_done (by kernel_rfl) (NoPanic.normal ?_) _
      clear hrun t1 tf tl q3 hSd hS9 hS
      go_wp2
      go_roundw
      case rel => exact ⟨k + 1, by omega, by go_num, HNX.out⟩
      case measure => simp [intOf]; omega
    · obtain rfl : k = NH := by omega
      have hBW : Below W.heap.size W wr := by rw [← HKW.out.1]; exact hBr
      obtain ⟨b, hb⟩ : ∃ b, b = wr.heap.size := ⟨_, rfl⟩
      have HDB : Hid (Calls Try.prog 59 #[.slice da dn dc, .int .i64 p] wr fun e w' => e = .returned (.map (some b)) ∧ DBD w' b s p s.length ∧ Below wr.heap.size wr w') := by
        rw [hb]; exact impl_dbd (by rw [← H.out.2.2.2.2]; exact hdb) HDV.out hbp (H.out.1.below hBW)
      have HBB : Hid (b = wr.heap.size ∧ kh < b) := ⟨hb, by rw [hb]; exact ltOf qh⟩
      rw [zK_all] at hRI
      have HS1 : Hid (RI wr g0 (.slice (some ⟨g0, 0, none⟩) k k) (gR (fun _ _ => 0) k WN) vs ∧ wr.heap[kh]? = some (.cells #[.int .i64 0, .slice (some ⟨g0, 0, none⟩) k k, .int .i64 0] 92) ∧ wr.heap[k0]? = some (.cells #[.int .i64 0, .slice none 0 0, .int .i64 0] 92) ∧ Below k0 W wr) := ⟨hRI, qh, q1, hBr⟩
      clear hb hBW hRI qh q1 hBr hR hlt
      go_wp2_with (fail)
      refine HDB.out.mono ?_
      rintro e w5 ⟨rfl, hD5, hb5⟩
      obtain ⟨nn, f, hnn, hG5, hne5⟩ := hD5
      rw [List.take_length] at hG5 hne5
      have HNE : Hid (∀ kl u, f kl = some u → vbL s p kl ≠ []) := hne5
      have HLN : Hid (∀ kl a0 n0 c0, f kl = some (a0, n0, c0) → n0 = (vbL s p kl).length) := fun kl a0 n0 c0 hf => by
        obtain ⟨_, _, e9⟩ := (OG.rg vdC_len (hG5.own kl _ hf)).form
        injection e9
      have HNO : Hid (∀ kl, f kl = none → vbL s p kl = []) := hG5.no
      have HT5 : TM w5 104 b nn f := hG5.tm
      have HS5 : Hid (RI w5 g0 (.slice (some ⟨g0, 0, none⟩) k k) (gR (fun _ _ => 0) k WN) vs ∧ w5.heap[kh]? = some (.cells #[.int .i64 0, .slice (some ⟨g0, 0, none⟩) k k, .int .i64 0] 92) ∧ w5.heap[k0]? = some (.cells #[.int .i64 0, .slice none 0 0, .int .i64 0] 92) ∧ Below k0 W w5 ∧ b < w5.heap.size) :=
        ⟨HS1.out.1.below hb5, (hb5.block _ (ltOf HS1.out.2.1)).trans HS1.out.2.1, (hb5.block _ (ltOf HS1.out.2.2.1)).trans HS1.out.2.2.1, HS1.out.2.2.2.trans (hb5.mono (by have := ltOf HS1.out.2.2.1; omega)), HT5.lt⟩
      clear hb5 hG5 HDB HS1 hnn hne5
      go_wp2_with (first
        | (at_range; refine wpList_range_tm rfl _ 99 rfl 104 25 pt_keyed Try.underlying99 b nn f rfl HT5 ?_; intro w6 cnt6 hr6 hg6 hs6)
        | go_in)
      go_frame
      obtain ⟨r, hr⟩ : ∃ r, r = w5.heap.size := ⟨_, rfl⟩
      rw [← hr] at hr6 ⊢
      have b56 : Below w5.heap.size w5 w6 := ⟨hg6.os, hg6.tape, hg6.output, hg6.size, fun q hq => hg6.block q hq (by simp)⟩
      have HRR : Hid (b < r ∧ kh < b ∧ g0 < kh ∧ k0 < g0) := ⟨by rw [hr]; exact HS5.out.2.2.2.2, HBB.out.2, HKN.out.2, HKN.out.1⟩
      have HS6 : Hid (TR w6 104 b r nn f (fun kl => (f kl).isSome) cnt6 ∧ RI w6 g0 (.slice (some ⟨g0, 0, none⟩) k k) (gR (gL s p (fun kl => (f kl).isSome)) k WN) vs ∧ w6.heap[kh]? = some (.cells #[.int .i64 0, .slice (some ⟨g0, 0, none⟩) k k, .int .i64 (oL s (WN : Int) (k : Int) p (fun kl => (f kl).isSome))] 92) ∧ w6.heap[k0]? = some (.cells #[.int .i64 0, .slice none 0 0, .int .i64 0] 92) ∧ Below k0 W w6) := by
        refine ⟨hr6, ?_, ?_, (b56.block _ (ltOf HS5.out.2.2.1)).trans HS5.out.2.2.1, HS5.out.2.2.2.1.trans (b56.mono (by have := ltOf HS5.out.2.2.1; omega))⟩
        · have h9 := HS5.out.1.below b56
          rw [gR_congr (K := gL s p (fun kl => (f kl).isSome)) (fun j i hj hi => ?_)] at h9
          · exact h9
          · unfold gL
            cases hf : f (pk (i : Int) (j : Int)) with
            | none => simp [hf, vhN, HNO.out _ hf]
            | some u => simp [hf]
        · have h9 : oL s (WN : Int) (k : Int) p (fun kl => (f kl).isSome) = 0 := by
            unfold oL
            have h8 : s.filter (fun d => vout (WN : Int) (k : Int) p d && !(f (vpk p d)).isSome) = [] := by
              rw [List.filter_eq_nil_iff]
              intro d hd
              cases hf : f (vpk p d) with
              | none => exact absurd (HNO.out _ hf) (vb_mem hd)
              | some u => simp [hf]
            rw [h8]; rfl
          rw [h9]
          exact (b56.block _ (ltOf HS5.out.2.1)).trans HS5.out.2.1
      clear hr6 hg6 hs6 hr b56 HS5 HT5
      go_loopw [55] (fun _ wr => ∃ (left : Lit → Bool) (cnt : Nat), Hid (TR wr 104 b r nn f left cnt ∧ RI wr g0 (.slice (some ⟨g0, 0, none⟩) k k) (gR (gL s p left) k WN) vs ∧ wr.heap[kh]? = some (.cells #[.int .i64 0, .slice (some ⟨g0, 0, none⟩) k k, .int .i64 (oL s (WN : Int) (k : Int) p left)] 92) ∧ wr.heap[k0]? = some (.cells #[.int .i64 0, .slice none 0 0, .int .i64 0] 92) ∧ Below k0 W wr)) (fun _ wr => wr.rangeLeft b r)
      case atStart => exact ⟨_, _, HS6.out⟩
      case round =>
        clear HS6
        obtain ⟨left, cnt, hR2⟩ := hrel
        obtain ⟨hTR, hRI, qh, q1, hBr⟩ := hR2.out
        go_wp2_with (first
          | (at_next; refine wpList_next_tm (α := Int × Int) rfl _ rfl 104 pt_keyed (fun z => .agg #[.int .i64 z.1, .int .i64 z.2]) pt_inv b r nn f left cnt rfl hTR ?_ ?_)
          | go_in)
        · intro _ hl0
          have HE : Hid (oL s (WN : Int) (k : Int) p left = Q ∧ gR (gL s p left) k WN = L) := by
            refine ⟨by rw [oL_end s _ _ p hl0, HL2.out.2], ?_⟩
            rw [HL2.out.1]
            exact gR_congr (fun j i _ _ => by unfold gL; rw [hl0]; rfl)
          have HD : Hid (RI wr g0 (.slice (some ⟨g0, 0, none⟩) k k) L vs ∧ Below k0 W wr) := ⟨by rw [← HE.out.2]; exact hRI, hBr⟩
          rw [HE.out.1] at qh
          have t0 : wr.cell? ⟨kh, 0, none⟩ = some (.int .i64 0) := cellOf qh 0 rfl
          have t1 : wr.cell? ⟨kh, 1, none⟩ = some (.slice (some ⟨g0, 0, none⟩) k k) := cellOf qh 1 rfl
          have t2 : wr.cell? ⟨kh, 2, none⟩ = some (.int .i64 Q) := cellOf qh 2 rfl
          have tl := ltOf qh
          have z0 : wr.cell? ⟨k0, 0, none⟩ = some (.int .i64 0) := cellOf q1 0 rfl
          have z1 : wr.cell? ⟨k0, 1, none⟩ = some (.slice none 0 0) := cellOf q1 1 rfl
          have z2 : wr.cell? ⟨k0, 2, none⟩ = some (.int .i64 0) := cellOf q1 2 rfl
          have zf0 := frozOf q1 0
          have zf1 := frozOf q1 1
          have zf2 := frozOf q1 2
          have zl := ltOf q1
          obtain ⟨e1, e2, e3, e4, e5, e6⟩ := set3e (a' := .int .i64 0) (b' := .slice (some ⟨g0, 0, none⟩) k k) (c' := .int .i64 Q) q1
          have HHH : Hid (kh ≠ k0 ∧ k0 < g0) := by have h9 := HRR.out; exact ⟨by omega, by omega⟩
          clear qh q1 hR2 hTR hRI hBr hl0 HE
          go_wp2
          refine bodyPost_ret (by simp [results, Try.results58, go_sem, e1, e2, e3, e4, e5, e6, zl]; try rfl) rfl ?_
          refine ⟨_, vs, by rw [HCZ.out] <;> rfl, ?_, ?_⟩
          · refine RI.low (A := W.heap.size) (B := g0) ?_ (by rw [← HKW.out.1]; have := HHH.out.2; omega)
            refine HD.out.1.keepAll (fun q h1 h2 _ => ?_)
            rw [vset3_other (by have := HHH.out.2; omega)]
          · rw [← HKW.out.1]
            exact set3b HD.out.2 (Nat.le_refl _)
        · intro x y a0 n0 c0 kl w8 cnt8 hkey hlk hf hTR8 hlt8 hg8 hs8 hen
          have hne := HNE.out kl _ hf
          obtain ⟨d0, hd0, hk0⟩ := vb_key hne
          have hv0 := HDV.out d0 hd0
          have bx := vX_bd hbp.1 hv0
          have by' := vY_bd hbp.1 hv0
          have hkp : keyOf Try.prog 104 (.agg #[.int .i64 (vX p d0), .int .i64 (vY p d0)]) = some kl := by rw [← hk0]; exact pt_key (by omega) (by omega)
          have hxy := pt_law.inj hkey hkp
          simp only [Value.agg.injEq, Array.mk.injEq, List.cons.injEq, Value.int.injEq, true_and, and_true] at hxy
          obtain ⟨ex, ey⟩ := hxy
          obtain ⟨x', hx'⟩ : ∃ n : Nat, x = (n : Int) := ⟨x.toNat, by omega⟩
          obtain ⟨y', hy'⟩ : ∃ n : Nat, y = (n : Int) := ⟨y.toNat, by omega⟩
          have hkl : kl = pk (x' : Int) (y' : Int) := by rw [← hk0, vpk, ← ex, ← ey, hx', hy']
          have hxb : x' ≤ 10000 := by omega
          have hyb : y' ≤ 10000 := by omega
          have hn0 : (n0 : Int) = vhN s p y' x' := by rw [HLN.out kl a0 n0 c0 hf, hkl]; rfl
          have hnb : n0 ≤ 60 := by
            rw [HLN.out kl a0 n0 c0 hf]
            have h9 := vbL_len s p kl
            have h8 := H.out.2.2.2.2
            omega
          have hob : ∀ d ∈ s, (vpk p d).sameKey kl = true → vout (WN : Int) (k : Int) p d = !(decide ((x' : Int) < (WN : Int)) && decide ((y' : Int) < (k : Int))) := by
            intro d hd hs9
            have e9 := WideAt.sameKey_eq hs9
            have hvd := HDV.out d hd
            have bx2 := vX_bd hbp.1 hvd
            have by2 := vY_bd hbp.1 hvd
            rw [hkl, vpk] at e9
            obtain ⟨f1, f2⟩ := pk_inj (by omega) (by omega) (by omega) (by omega) e9
            unfold vout
            rw [f1, f2]
          subst hx' hy'
          have HOF : Hid (oL s (WN : Int) (k : Int) p (fun z => left z && !z.sameKey kl) = if !(decide ((x' : Int) < (WN : Int)) && decide ((y' : Int) < (k : Int))) then oL s (WN : Int) (k : Int) p left + (n0 : Int) else oL s (WN : Int) (k : Int) p left) := by
            unfold Hid; rw [oL_step hlk hob, HLN.out kl a0 n0 c0 hf]
          have HGS : Hid (∀ j i, j < k → i < WN → gL s p (fun z => left z && !z.sameKey kl) j i = if j = y' ∧ i = x' then (n0 : Int) else gL s p left j i) := fun j i hj hi => by
            rw [hkl, gL_step (by omega) (by omega) (by omega) (by omega), hn0]
          have hgr8 : ∀ q, q < wr.heap.size → q ≠ r → w8.heap[q]? = wr.heap[q]? := fun q h1 h2 => hg8.block q h1 (fun e => h2 (by injection e))
          have hRI8 : RI w8 g0 (.slice (some ⟨g0, 0, none⟩) k k) (gR (gL s p left) k WN) vs := hRI.keepAll (fun q h1 h2 ⟨cs9, T9, h3, _⟩ => hgr8 q h2 (fun e => by
            subst e
            obtain ⟨D9, ⟨es9, _, _, _, _, _, _, _, _, h4, _⟩, _⟩ := hTR.own
            rw [h3] at h4
            cases h4))
          have hh9 := HRR.out
          have qh8 := (hgr8 kh (ltOf qh) (by omega)).trans qh
          have q18 := (hgr8 k0 (ltOf q1) (by omega)).trans q1
          have hB8 : Below k0 W w8 := hBr.grown hg8 (by have := ltOf q1; omega) (fun q hq => by injection hq with hq; omega)
          obtain ⟨O, hO⟩ : ∃ O, O = oL s (WN : Int) (k : Int) p left := ⟨_, rfl⟩
          have hOb : 0 ≤ O ∧ O ≤ 60 := by rw [hO]; have h9 := oL_bd s (WN : Int) (k : Int) p left; have h8 := H.out.2.2.2.2; omega
          rw [← hO] at qh8 HOF
          obtain ⟨V9, hV9⟩ : ∃ V, V = w8.alloc (.cells #[.int .i64 (x' : Int), .int .i64 (y' : Int)] 104) := ⟨_, rfl⟩
          obtain ⟨kp, hkp9⟩ : ∃ q, q = w8.heap.size := ⟨_, rfl⟩
          have b9 : Below w8.heap.size w8 V9 := by rw [hV9]; (repeat' (first | (with_reducible exact Below.refl _ _) | (with_reducible assumption) | (with_reducible refine Below.setCell ?_ ?_ _) | (with_reducible refine Below.alloc ?_ ?_ _) | (with_reducible refine below_drewN ?_ _) | (with_reducible refine Below.drew ?_) | (with_reducible exact Nat.le_refl _) | omega | (simp; done) | (simp; omega)))
          have HV9 : Hid (V9 = w8.alloc (.cells #[.int .i64 (x' : Int), .int .i64 (y' : Int)] 104) ∧ kp = w8.heap.size) := ⟨hV9, hkp9⟩
          have HS9 : Hid (TR V9 104 b r nn f (fun z => left z && !z.sameKey kl) cnt8 ∧ RI V9 g0 (.slice (some ⟨g0, 0, none⟩) k k) (gR (gL s p left) k WN) vs ∧ V9.heap[kh]? = some (.cells #[.int .i64 0, .slice (some ⟨g0, 0, none⟩) k k, .int .i64 O] 92) ∧ V9.heap[k0]? = some (.cells #[.int .i64 0, .slice none 0 0, .int .i64 0] 92) ∧ Below k0 W V9 ∧ V9.heap[kp]? = some (.cells #[.int .i64 (x' : Int), .int .i64 (y' : Int)] 104) ∧ r < V9.heap.size) :=
            ⟨hTR8.below b9, hRI8.below b9, (b9.block _ (ltOf qh8)).trans qh8, (b9.block _ (ltOf q18)).trans q18, hB8.trans (b9.mono (by have := ltOf q18; omega)), by rw [hV9, hkp9]; exact heap_alloc_new w8 _, Nat.lt_of_lt_of_le hTR8.lt b9.size⟩
          have HLT : Hid (cnt8 < cnt ∧ wr.rangeLeft b r = cnt) := ⟨hlt8, hTR.left_eq⟩
          clear hne d0 hd0 hk0 hv0 bx by' hkp hkey ex ey hob hgr8 hRI8 hh9 qh8 q18 hB8 hO hV9 hkp9 b9 hTR8 hlt8 hg8 hs8 hTR hRI qh q1 hBr hR2 hlk hf hn0 hkl
          go_upto_region 15 with fail
          rw [← HV9.out.1, ← HV9.out.2]
          clear HV9 hen
          have qp := HS9.out.2.2.2.2.2.1
          have p0 : V9.cell? ⟨kp, 0, none⟩ = some (.int .i64 (x' : Int)) := cellOf qp 0 rfl
          have p1 : V9.cell? ⟨kp, 1, none⟩ = some (.int .i64 (y' : Int)) := cellOf qp 1 rfl
          have pl := ltOf qp
          clear qp
          have HTD : Hid (∀ g cs9 T9, V9.heap[g]? = some (.cells cs9 T9 (0, 0)) → g ≠ b ∧ g ≠ r) := by
            intro g cs9 T9 h3
            obtain ⟨D9, ⟨es9, _, _, _, _, h5, _, _, _, h4, _⟩, _⟩ := HS9.out.1.own
            refine ⟨fun e => ?_, fun e => ?_⟩
            · subst e; rw [h3] at h5; cases h5
            · subst e; rw [h3] at h4; cases h4
          have fout : (¬ (x' < WN ∧ y' < k)) → Hid (TR (V9.setCell ⟨kh, 2, none⟩ (.int .i64 (O + (n0 : Int)))) 104 b r nn f (fun z => left z && !z.sameKey kl) cnt8 ∧ RI (V9.setCell ⟨kh, 2, none⟩ (.int .i64 (O + (n0 : Int)))) g0 (.slice (some ⟨g0, 0, none⟩) k k) (gR (gL s p (fun z => left z && !z.sameKey kl)) k WN) vs ∧ (V9.setCell ⟨kh, 2, none⟩ (.int .i64 (O + (n0 : Int)))).heap[kh]? = some (.cells #[.int .i64 0, .slice (some ⟨g0, 0, none⟩) k k, .int .i64 (oL s (WN : Int) (k : Int) p (fun z => left z && !z.sameKey kl))] 92) ∧ (V9.setCell ⟨kh, 2, none⟩ (.int .i64 (O + (n0 : Int)))).heap[k0]? = some (.cells #[.int .i64 0, .slice none 0 0, .int .i64 0] 92) ∧ Below k0 W (V9.setCell ⟨kh, 2, none⟩ (.int .i64 (O + (n0 : Int))))) := by
            intro hno
            have hh := HRR.out
            have qh := HS9.out.2.2.1
            have e9 : oL s (WN : Int) (k : Int) p (fun z => left z && !z.sameKey kl) = O + (n0 : Int) := by
              rw [HOF.out]
              have h8 : (!(decide ((x' : Int) < (WN : Int)) && decide ((y' : Int) < (k : Int)))) = true := by
                cases h7 : decide ((x' : Int) < (WN : Int)) with
                | false => rfl
                | true =>
                  cases h6 : decide ((y' : Int) < (k : Int)) with
                  | false => rfl
                  | true =>
                    simp only [decide_eq_true_eq] at h7 h6
                    exact absurd ⟨by omega, by omega⟩ hno
              rw [h8]; rfl
            refine ⟨HS9.out.1.kept (row := some kh) ⟨rfl, rfl, rfl, by simp, fun q hq hne => heap_setCell_other _ _ _ _ (fun e => hne (by simpa using congrArg some e))⟩ (fun e => by injection e with e; omega) (fun e => by injection e with e; omega), ?_, ?_, ?_, ?_⟩
            · have h9 : RI (V9.setCell ⟨kh, 2, none⟩ (.int .i64 (O + (n0 : Int)))) g0 (.slice (some ⟨g0, 0, none⟩) k k) (gR (gL s p left) k WN) vs := HS9.out.2.1.keepAll (fun q h1 h2 ⟨cs9, T9, h3, h4⟩ => heap_setCell_other _ _ _ _ (fun e => by
                have e' : q = kh := e
                subst e'
                rw [qh] at h3
                injection h3 with h3
                injection h3 with _ h3 _
                rcases h4 with h4 | h4 <;> (rw [h4] at h3; exact absurd h3 (by decide))))
              rw [gR_congr (K := gL s p (fun z => left z && !z.sameKey kl)) (fun j i hj hi => by rw [HGS.out j i hj hi, if_neg (fun h7 => hno ⟨by omega, by omega⟩)])] at h9
              exact h9
            · rw [e9]
              have := heap_setCell_same V9 kh 2 _ _ (.int .i64 (O + (n0 : Int))) qh
              simpa using this
            · rw [heap_setCell_other _ _ _ _ (by show k0 ≠ kh; omega)]; exact HS9.out.2.2.2.1
            · exact HS9.out.2.2.2.2.1.setCell (by show k0 ≤ kh; omega) _
          have z1 : V9.cell? ⟨kh, 1, none⟩ = some (.slice (some ⟨g0, 0, none⟩) k k) := cellOf HS9.out.2.2.1 1 rfl
          have z2 : V9.cell? ⟨kh, 2, none⟩ = some (.int .i64 O) := cellOf HS9.out.2.2.1 2 rfl
          have zf2 := frozOf HS9.out.2.2.1 2
          have zl := ltOf HS9.out.2.2.1
          by_cases hxw : x' < WN
          · have hxi : (x' : Int) < (WN : Int) := by omega
            by_cases hyk : y' < k
            · have hyi : (y' : Int) < (k : Int) := by omega
              obtain ⟨gj, cj, erow, t1, t2, tl, hBj, hnej, hset⟩ := HS9.out.2.1.row hyk hxw
              obtain ⟨u1, u2, u3⟩ := HS9.out.2.1.cellk (k := y') (by rw [gR_len]; exact hyk)
              rw [erow] at u1
              have hIS := HS9.out.2.1.bx y' (by rw [gR_len]; exact hyk)
              obtain ⟨_, _, cs9, h39⟩ := rowBlk hIS (show (rat vs y').ownBlock = some gj by rw [erow]; rfl)
              have hbr := HTD.out gj cs9 _ h39
              have hgk : gj ≠ kh := fun e => by
                rw [e, HS9.out.2.2.1] at h39
                injection h39 with h39
                injection h39 with _ h39 _
                exact absurd h39 (by decide)
              have HFN : Hid (TR (V9.drew.setCell ⟨gj, x', none⟩ (.int .i64 (n0 : Int))) 104 b r nn f (fun z => left z && !z.sameKey kl) cnt8 ∧ RI (V9.drew.setCell ⟨gj, x', none⟩ (.int .i64 (n0 : Int))) g0 (.slice (some ⟨g0, 0, none⟩) k k) (gR (gL s p (fun z => left z && !z.sameKey kl)) k WN) vs ∧ (V9.drew.setCell ⟨gj, x', none⟩ (.int .i64 (n0 : Int))).heap[kh]? = some (.cells #[.int .i64 0, .slice (some ⟨g0, 0, none⟩) k k, .int .i64 (oL s (WN : Int) (k : Int) p (fun z => left z && !z.sameKey kl))] 92) ∧ (V9.drew.setCell ⟨gj, x', none⟩ (.int .i64 (n0 : Int))).heap[k0]? = some (.cells #[.int .i64 0, .slice none 0 0, .int .i64 0] 92) ∧ Below k0 W (V9.drew.setCell ⟨gj, x', none⟩ (.int .i64 (n0 : Int)))) := by
                have hh := HRR.out
                have bd : Below V9.heap.size V9 V9.drew := (Below.refl _ _).drew
                have e9 : oL s (WN : Int) (k : Int) p (fun z => left z && !z.sameKey kl) = O := by
                  rw [HOF.out]; simp [hxi, hyi]
                refine ⟨(HS9.out.1.below bd).kept (row := some gj) ⟨rfl, rfl, rfl, by simp, fun q hq hne => heap_setCell_other _ _ _ _ (fun e => hne (by simpa using congrArg some e))⟩ (fun e => by injection e with e; exact hbr.1 e.symm) (fun e => by injection e with e; exact hbr.2 e.symm), ?_, ?_, ?_, ?_⟩
                · have h9 := (HS9.out.2.1.below bd).row hyk hxw
                  obtain ⟨gj2, cj2, er2, _, _, _, _, _, hset2⟩ := h9
                  have eg : gj2 = gj := by rw [erow] at er2; injection er2 with er2; injection er2 with er2; injection er2 with er2; exact er2.symm
                  subst eg
                  have h8 := hset2 (n0 : Int)
                  rw [gR_congr (K := gL s p (fun z => left z && !z.sameKey kl)) (fun j i hj hi => by rw [HGS.out j i hj hi])] at h8
                  exact h8
                · rw [heap_setCell_other _ _ _ _ (by show kh ≠ gj; exact hgk.symm), e9]; exact HS9.out.2.2.1
                · rw [heap_setCell_other _ _ _ _ (by show k0 ≠ gj; omega)]; exact HS9.out.2.2.2.1
                · exact (HS9.out.2.2.2.2.1.trans (bd.mono (by have := ltOf HS9.out.2.2.2.1; omega))).setCell (by show k0 ≤ gj; omega) _
              have b0 : (0 : Int) ≤ (x' : Int) := by omega
              have b1 : (0 : Int) ≤ (y' : Int) := by omega
              clear hset hIS h39 hbr hgk HTD fout HS9 HGS HOF erow hBj hnej
              go_upto_region 17 with fail
              refine wp_region_still_tail 10 (by kernel_rfl) (by kernel_rfl) ?_
              have hdw : ({ V9 with drawn := V9.drawn + 1 } : World) = V9.drew := rfl
              rw [hdw]
              clear hdw
              simp only [List.take_succ_cons, List.take_zero, List.drop_succ_cons, List.drop_zero]
              iterate 10 still_step
              refine wpStill_nil ?_
              go_wp2
              go_roundw
              case rel => exact ⟨_, _, HFN.out⟩
              case measure => exact Nat.lt_of_le_of_lt (Nat.le_of_eq HFN.out.1.left_eq) (by rw [HLT.out.2]; exact HLT.out.1)
            · have hyi : ¬ (y' : Int) < (k : Int) := by omega
              have HFN := fout (fun h9 => hyk h9.2)
              clear fout HTD HS9 HGS HOF
              go_wp2
              go_roundw
              case rel => exact ⟨_, _, HFN.out⟩
              case measure => rw [HFN.out.1.left_eq, HLT.out.2]; exact HLT.out.1
          · have hxi : ¬ (x' : Int) < (WN : Int) := by omega
            have HFN := fout (fun h9 => hxw h9.1)
            clear fout HTD HS9 HGS HOF
            go_wp2
            go_roundw
            case rel => exact ⟨_, _, HFN.out⟩
            case measure => rw [HFN.out.1.left_eq, HLT.out.2]; exact HLT.out.1

end Go.Proofs.Ytjacmneopijiaaa
