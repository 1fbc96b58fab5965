/- Proved here: HitDice of the model. -/
import Derived.Test.YtjacmneopijiaaaVhG
import Derived.Test.YtjacmneopijiaaaVdS
import Derived.Test.YtjacmneopijiaaaAddFrac
import Derived.Test.YtjacmneopijiaaaOpA
import Derived.StillTail
import Derived.Deep.AppendLies
import Derived.Deep.DeepCutAuto
namespace Go.Proofs.Ytjacmneopijiaaa
open Go.RowKit
set_option linter.unusedVariables false
set_option linter.unusedSimpArgs false

set_option maxRecDepth 10000 in
set_option maxHeartbeats 25600000 in
theorem spec_vh {W : World} {v : Value} {s : List Dft} (wd hg p : Int) (hn : s.length ≤ 1048576) (h : RG 4 vdC W v s) :
    Calls Try.prog 54 #[v, .int .i64 wd, .int .i64 hg, .int .i64 p] W fun e w' => ∃ v vs, e = .returned (.agg #[.int .i64 (vhC s wd hg p), v, .int .i64 (vhO s wd hg p)]) ∧ RI w' W.heap.size v (vhL s wd hg p) vs ∧ Below W.heap.size W w' := by
  obtain ⟨da, dc, rfl⟩ := h.form
  obtain ⟨C, hC⟩ : ∃ C, C = vhC s wd hg p := ⟨_, rfl⟩
  obtain ⟨L, hL⟩ : ∃ L, L = vhL s wd hg p := ⟨_, rfl⟩
  obtain ⟨Q, hQ⟩ : ∃ Q, Q = vhO s wd hg p := ⟨_, rfl⟩
  obtain ⟨dn, hdn⟩ : ∃ n, n = s.length := ⟨_, rfl⟩
  obtain ⟨F, hF⟩ : ∃ F, F = vdF s := ⟨_, rfl⟩
  have HF : Hid (∀ X, Below W.heap.size W X → Calls Try.prog 10 #[.slice da dn dc] X fun e w' => e = .returned (.int .i64 F) ∧ Below X.heap.size X w') := fun X hX => by
    rw [hF, hdn]; exact spec_vdF hn (h.below hX)
  obtain ⟨r1, hr1⟩ : ∃ r, r = decide (1 ≤ wd ∧ wd ≤ 20) := ⟨_, rfl⟩
  obtain ⟨r2, hr2⟩ : ∃ r, r = decide (1 ≤ hg ∧ hg ≤ 20) := ⟨_, rfl⟩
  obtain ⟨r3, hr3⟩ : ∃ r, r = decide (1 ≤ p ∧ p ≤ 1000) := ⟨_, rfl⟩
  have HI1 : Hid (∀ X, Calls Try.prog 35 #[.int .i64 wd, .int .i64 1, .int .i64 20] X fun e w' => e = .returned (.bool r1) ∧ w' = X) := fun X => by rw [hr1]; exact spec_in10 _ _ _ X
  have HI2 : Hid (∀ X, Calls Try.prog 35 #[.int .i64 hg, .int .i64 1, .int .i64 20] X fun e w' => e = .returned (.bool r2) ∧ w' = X) := fun X => by rw [hr2]; exact spec_in10 _ _ _ X
  have HI3 : Hid (∀ X, Calls Try.prog 35 #[.int .i64 p, .int .i64 1, .int .i64 1000] X fun e w' => e = .returned (.bool r3) ∧ w' = X) := fun X => by rw [hr3]; exact spec_in10 _ _ _ X
  have HCC : Hid (C = if F = 0 then (if r1 && r2 && r3 then 0 else 3) else F) := by unfold Hid; rw [hC, hF, hr1, hr2, hr3]; rfl
  rw [← hdn] at h ⊢
  rw [← hC, ← hL, ← hQ]
  have H : Hid (RG 4 vdC W (.slice da dn dc) s ∧ C = vhC s wd hg p ∧ L = vhL s wd hg p ∧ Q = vhO s wd hg p ∧ dn = s.length) := ⟨h, hC, hL, hQ, hdn⟩
  clear h hC hL hQ hdn hF hn hr1 hr2 hr3
  obtain ⟨k0, hk0⟩ : ∃ k, k = W.heap.size := ⟨_, rfl⟩
  obtain ⟨V0, hV0⟩ : ∃ V, V = W.alloc (.cells #[.int .i64 0, .slice none 0 0, .int .i64 0] 92) := ⟨_, rfl⟩
  have HB0 : Hid (Below k0 W V0 ∧ V0.heap.size = k0 + 1 ∧ k0 = W.heap.size) := ⟨by rw [hV0, hk0]; (repeat' (first | (with_reducible exact Below.refl _ _) | (with_reducible assumption) | (with_reducible refine Below.setCell ?_ ?_ _) | (with_reducible refine Below.alloc ?_ ?_ _) | (with_reducible refine below_drewN ?_ _) | (with_reducible refine Below.drew ?_) | (with_reducible exact Nat.le_refl _) | omega | (simp; done) | (simp; omega))), by rw [hV0, hk0]; simp, hk0⟩
  have HQ1 : Hid (V0.heap[k0]? = some (.cells #[.int .i64 0, .slice none 0 0, .int .i64 0] 92)) := by rw [hV0, hk0]; exact heap_alloc_new W _
  have HV0 : Hid (V0 = W.alloc (.cells #[.int .i64 0, .slice none 0 0, .int .i64 0] 92) ∧ k0 = W.heap.size) := ⟨hV0, hk0⟩
  clear hV0 hk0
  go_enter Try.func54, Try.ntmps54
  go_wp2_with (fail)
  rw [← HV0.out.1, ← HV0.out.2]
  clear HV0
  refine (HF.out _ (by rw [← HB0.out.2.2]; exact HB0.out.1)).mono ?_
  rintro e w1 ⟨rfl, hb1⟩
  have HB1 : Hid (Below k0 W w1) := HB0.out.1.trans (hb1.mono (by have := HB0.out.2; omega))
  have q1 := (hb1.block k0 (by have := HB0.out.2; omega)).trans HQ1.out
  have HKW : Hid (k0 = W.heap.size ∧ k0 + 1 ≤ w1.heap.size) := ⟨HB0.out.2.2, by have := hb1.size; have := HB0.out.2; omega⟩
  clear hb1 HQ1 HB0 HF
  by_cases hc : F = 0
  case neg =>
    have hc2 : (F != 0) = true := by simp [hc]
    have HE : Hid (C = F ∧ L = [] ∧ Q = 0) := by
      have h0 : C = F := by rw [HCC.out, if_neg hc]
      have h1 : ¬ vhC s wd hg p = 0 := by rw [← H.out.2.1, h0]; exact hc
      exact ⟨h0, by rw [H.out.2.2.1]; exact vhL_bad h1, by rw [H.out.2.2.2.1]; exact vhO_bad h1⟩
    have z0 : w1.cell? ⟨k0, 0, none⟩ = some (.int .i64 0) := cellOf q1 0 rfl
    have z1 : w1.cell? ⟨k0, 1, none⟩ = some (.slice none 0 0) := cellOf q1 1 rfl
    have z2 : w1.cell? ⟨k0, 2, none⟩ = some (.int .i64 0) := cellOf q1 2 rfl
    have zf0 := frozOf q1 0
    have zf1 := frozOf q1 1
    have zf2 := frozOf q1 2
    have zl := ltOf q1
    obtain ⟨e1, e2, e3, e4, e5, e6⟩ := set3e (a' := .int .i64 F) (b' := .slice none 0 0) (c' := .int .i64 0) q1
    clear q1
    go_wp2
    refine bodyPost_ret (by simp [results, Try.results54, go_sem, e1, e2, e3, e4, e5, e6, zl]; try rfl) rfl ?_
    refine ⟨.slice none 0 0, [], by rw [HE.out.1, HE.out.2.2] <;> rfl, ?_, ?_⟩
    · rw [HE.out.2.1]; exact RI.nil _ _
    · rw [← HKW.out.1]
      exact set3b HB1.out (Nat.le_refl _)
  subst hc
  have HC3 : Hid ((r1 && r2 && r3) = false → (C = 3 ∧ L = [] ∧ Q = 0)) := by
    intro h9
    have h0 : C = 3 := by rw [HCC.out, h9]; rfl
    have h1 : ¬ vhC s wd hg p = 0 := by rw [← H.out.2.1, h0]; omega
    exact ⟨h0, by rw [H.out.2.2.1]; exact vhL_bad h1, by rw [H.out.2.2.2.1]; exact vhO_bad h1⟩
  go_wp2_with (fail)
  refine (HI1.out _).mono ?_
  rintro e w9 ⟨rfl, rfl⟩
  cases r1 with
  | false =>
    have HE : Hid (C = 3 ∧ L = [] ∧ Q = 0) := HC3.out rfl
    have z0 : w9.cell? ⟨k0, 0, none⟩ = some (.int .i64 0) := cellOf q1 0 rfl
    have z1 : w9.cell? ⟨k0, 1, none⟩ = some (.slice none 0 0) := cellOf q1 1 rfl
    have z2 : w9.cell? ⟨k0, 2, none⟩ = some (.int .i64 0) := cellOf q1 2 rfl
    have zf0 := frozOf q1 0
    have zf1 := frozOf q1 1
    have zf2 := frozOf q1 2
    have zl := ltOf q1
    obtain ⟨e1, e2, e3, e4, e5, e6⟩ := set3e (a' := .int .i64 3) (b' := .slice none 0 0) (c' := .int .i64 0) q1
    clear q1
    go_wp2
    refine bodyPost_ret (by simp [results, Try.results54, go_sem, e1, e2, e3, e4, e5, e6, zl]; try rfl) rfl ?_
    refine ⟨.slice none 0 0, [], by rw [HE.out.1, HE.out.2.2] <;> rfl, ?_, ?_⟩
    · rw [HE.out.2.1]; exact RI.nil _ _
    · rw [← HKW.out.1]
      exact set3b HB1.out (Nat.le_refl _)
  | true =>
  go_wp2_with (fail)
  refine (HI2.out _).mono ?_
  rintro e w9 ⟨rfl, rfl⟩
  cases r2 with
  | false =>
    have HE : Hid (C = 3 ∧ L = [] ∧ Q = 0) := HC3.out rfl
    have z0 : w9.cell? ⟨k0, 0, none⟩ = some (.int .i64 0) := cellOf q1 0 rfl
    have z1 : w9.cell? ⟨k0, 1, none⟩ = some (.slice none 0 0) := cellOf q1 1 rfl
    have z2 : w9.cell? ⟨k0, 2, none⟩ = some (.int .i64 0) := cellOf q1 2 rfl
    have zf0 := frozOf q1 0
    have zf1 := frozOf q1 1
    have zf2 := frozOf q1 2
    have zl := ltOf q1
    obtain ⟨e1, e2, e3, e4, e5, e6⟩ := set3e (a' := .int .i64 3) (b' := .slice none 0 0) (c' := .int .i64 0) q1
    clear q1
    go_wp2
    refine bodyPost_ret (by simp [results, Try.results54, go_sem, e1, e2, e3, e4, e5, e6, zl]; try rfl) rfl ?_
    refine ⟨.slice none 0 0, [], by rw [HE.out.1, HE.out.2.2] <;> rfl, ?_, ?_⟩
    · rw [HE.out.2.1]; exact RI.nil _ _
    · rw [← HKW.out.1]
      exact set3b HB1.out (Nat.le_refl _)
  | true =>
  go_wp2_with (fail)
  refine (HI3.out _).mono ?_
  rintro e w1 ⟨rfl, rfl⟩
  cases r3 with
  | false =>
    have HE : Hid (C = 3 ∧ L = [] ∧ Q = 0) := HC3.out rfl
    have z0 : w1.cell? ⟨k0, 0, none⟩ = some (.int .i64 0) := cellOf q1 0 rfl
    have z1 : w1.cell? ⟨k0, 1, none⟩ = some (.slice none 0 0) := cellOf q1 1 rfl
    have z2 : w1.cell? ⟨k0, 2, none⟩ = some (.int .i64 0) := cellOf q1 2 rfl
    have zf0 := frozOf q1 0
    have zf1 := frozOf q1 1
    have zf2 := frozOf q1 2
    have zl := ltOf q1
    obtain ⟨e1, e2, e3, e4, e5, e6⟩ := set3e (a' := .int .i64 3) (b' := .slice none 0 0) (c' := .int .i64 0) q1
    clear q1
    go_wp2
    refine bodyPost_ret (by simp [results, Try.results54, go_sem, e1, e2, e3, e4, e5, e6, zl]; try rfl) rfl ?_
    refine ⟨.slice none 0 0, [], by rw [HE.out.1, HE.out.2.2] <;> rfl, ?_, ?_⟩
    · rw [HE.out.2.1]; exact RI.nil _ _
    · rw [← HKW.out.1]
      exact set3b HB1.out (Nat.le_refl _)
  | true =>
  have hC0 : C = 0 := by rw [HCC.out]; rfl
  obtain ⟨hvd, hbw, hbh, hbp⟩ := vhC_ok (s := s) (w := wd) (h := hg) (p := p) (by rw [← H.out.2.1]; exact hC0)
  have hdok := vdF_ok hvd
  have HL2 : Hid (L = gR (vhN s p) hg.toNat wd.toNat ∧ Q = voN s wd hg p) := ⟨by rw [H.out.2.2.1]; exact vhL_ok (by rw [← H.out.2.1]; exact hC0), by rw [H.out.2.2.2.1]; exact vhO_ok (by rw [← H.out.2.1]; exact hC0)⟩
  have hdb : dn ≤ 60 := by rw [H.out.2.2.2.2]; exact hdok.1
  obtain ⟨WN, hWN⟩ : ∃ n, n = wd.toNat := ⟨_, rfl⟩
  obtain ⟨NH, hHN⟩ : ∃ n, n = hg.toNat := ⟨_, rfl⟩
  rw [← hWN, ← hHN] at HL2
  obtain rfl : wd = (WN : Int) := by omega
  obtain rfl : hg = (NH : Int) := by omega
  have hW20 : 1 ≤ WN ∧ WN ≤ 20 := by omega
  have hH20 : 1 ≤ NH ∧ NH ≤ 20 := by omega
  have HDV : Hid (∀ d ∈ s, Vok d) := hdok.2
  have HCZ : Hid (C = 0) := hC0
  clear HCC HC3 hC0 hvd hbw hbh hdok HI1 HI2 HI3 hWN hHN
  obtain ⟨i0, hi0, hz0, hz1, hz2⟩ := info_parts info_row
  obtain ⟨i1, hi1, hy0, hy1, hy2⟩ := info_parts info_i64
  obtain ⟨kh, hkh⟩ : ∃ k, k = w1.heap.size := ⟨_, rfl⟩
  obtain ⟨g0, hg0⟩ : ∃ g, g = w1.heap.size + 1 := ⟨_, rfl⟩
  obtain ⟨V3, hV3⟩ : ∃ V, V = w1.alloc (.cells #[.int .i64 0, .slice none 0 0, .int .i64 0] 92) := ⟨_, rfl⟩
  have b3 : Below w1.heap.size w1 V3 := by rw [hV3]; (repeat' (first | (with_reducible exact Below.refl _ _) | (with_reducible assumption) | (with_reducible refine Below.setCell ?_ ?_ _) | (with_reducible refine Below.alloc ?_ ?_ _) | (with_reducible refine below_drewN ?_ _) | (with_reducible refine Below.drew ?_) | (with_reducible exact Nat.le_refl _) | omega | (simp; done) | (simp; omega)))
  have HKN : Hid (k0 < kh ∧ kh + 1 = g0) := ⟨by rw [hkh]; exact HKW.out.2, by rw [hkh, hg0]⟩
  have HS0 : Hid (∃ vs ra rc, RI V3 g0 (.slice ra 0 rc) (gR (fun _ _ => 0) 0 WN) vs ∧ V3.heap[kh]? = some (.cells #[.int .i64 0, .slice ra 0 rc, .int .i64 0] 92) ∧ V3.heap[k0]? = some (.cells #[.int .i64 0, .slice none 0 0, .int .i64 0] 92) ∧ Below k0 W V3 ∧ g0 ≤ V3.heap.size) :=
    ⟨[], none, 0, RI.nil _ _, by rw [hV3, hkh]; exact heap_alloc_new w1 _, (b3.block _ (ltOf q1)).trans q1, HB1.out.trans (b3.mono (by have := HKW.out.2; omega)), by rw [hV3, hg0]; simp⟩
  have HV3 : Hid (V3 = w1.alloc (.cells #[.int .i64 0, .slice none 0 0, .int .i64 0] 92) ∧ kh = w1.heap.size) := ⟨hV3, hkh⟩
  clear hkh hV3 b3 q1 HB1 hg0
  go_wp2
  rw [← HV3.out.1, ← HV3.out.2]
  clear HV3
  go_loopw [11] (fun i wr => ∃ k : Nat, k ≤ NH ∧ i = .int .i64 k ∧ ∃ vs ra rc, Hid (RI wr g0 (.slice ra k rc) (gR (fun _ _ => 0) k WN) vs ∧ wr.heap[kh]? = some (.cells #[.int .i64 0, .slice ra k rc, .int .i64 0] 92) ∧ wr.heap[k0]? = some (.cells #[.int .i64 0, .slice none 0 0, .int .i64 0] 92) ∧ Below k0 W wr ∧ g0 ≤ wr.heap.size)) (fun i _ => NH - (intOf i).toNat)
  case atStart => obtain ⟨a, b, c, h9⟩ := HS0.out; exact ⟨0, Nat.zero_le _, rfl, a, b, c, h9⟩
  case round =>
    clear HS0
    obtain ⟨k, hk, rfl, vs, ra, rc, hR⟩ := hrel
    obtain ⟨hRI, qh, q1, hBr, hgs⟩ := hR.out
    by_cases hlt : k < NH
    · obtain ⟨X, hX⟩ : ∃ X, X = wr.drew := ⟨_, rfl⟩
      obtain ⟨kr, hkr⟩ : ∃ k, k = wr.heap.size := ⟨_, rfl⟩
      have hXs : X.heap.size = kr := by rw [hX, hkr]; simp
      obtain ⟨w3, hrun, hown3, hgrow3⟩ := run_make_full (P := Try.prog) (w := X) kr 45 2 i1 (.int .i64 0) 1 Try.underlying45 hi1 hy0 hy1 .i64 .i64 WN (by rw [hy2]; omega) (by unfold maxLen; omega) (by omega)
      rw [hXs] at hrun hown3
      have bX : Below wr.heap.size wr X := by rw [hX]; exact (Below.refl _ _).drew
      have bX3 : Below X.heap.size X w3 := (Below.refl _ _).grown hgrow3 (Nat.le_refl _) (fun k h => by cases h)
      have b3 : Below wr.heap.size wr w3 := bX.trans (bX3.mono bX.size)
      have hIS3 : IS w3 wr.heap.size (.slice (some ⟨kr, 0, none⟩) WN WN) (List.replicate WN 0) := by rw [← hkr]; exact IS.made hown3
      obtain ⟨w4, hw4⟩ : ∃ w, w = w3.alloc (.cells #[.slice (some ⟨kr, 0, none⟩) WN WN] 45) := ⟨_, rfl⟩
      have b34 : Below w3.heap.size w3 w4 := by rw [hw4]; (repeat' (first | (with_reducible exact Below.refl _ _) | (with_reducible assumption) | (with_reducible refine Below.setCell ?_ ?_ _) | (with_reducible refine Below.alloc ?_ ?_ _) | (with_reducible refine below_drewN ?_ _) | (with_reducible refine Below.drew ?_) | (with_reducible exact Nat.le_refl _) | omega | (simp; done) | (simp; omega)))
      have b4 : Below wr.heap.size wr w4 := b3.trans (b34.mono b3.size)
      have qX := (bX.block _ (ltOf qh)).trans qh
      have q3 := (b3.block _ (ltOf qh)).trans qh
      have q4 := (b4.block _ (ltOf qh)).trans qh
      have cX : X.cell? ⟨kh, 1, none⟩ = some (.slice ra k rc) := cellOf qX 1 rfl
      have c3 : w3.cell? ⟨kh, 1, none⟩ = some (.slice ra k rc) := cellOf q3 1 rfl
      have c4 : w4.cell? ⟨kh, 1, none⟩ = some (.slice ra k rc) := cellOf q4 1 rfl
      have hRI4 := hRI.below b4
      have HO4 : Hid (w4.ownsRow g0 45 1 (.slice ra k rc) k vs) := by have h9 := hRI4.o; rw [gR_len] at h9; exact h9
      have HNW : Hid (∀ jj u, [Value.slice (some ⟨kr, 0, none⟩) WN WN][jj]? = some u → w4.cell? ((⟨w3.heap.size, 0, none⟩ : Addr).add jj) = some u) := by rw [hw4]; exact cell_one_new w3 _ _
      have HLO : Hid (g0 ≤ w4.heap.size) := by have := b4.size; unfold Hid; omega
      have HPU : Hid (∀ v5 w5, w5.ownsRow g0 45 1 v5 (k + 1) (vs ++ [.slice (some ⟨kr, 0, none⟩) WN WN]) → w4.grownBy w5 (Value.slice ra k rc).ownBlock →
          ∃ a5 c5, v5 = .slice a5 (k + 1) c5 ∧ w5.cell? ⟨kh, 1, none⟩ = some (.slice ra k rc) ∧ w5.frozen? ⟨kh, 1, none⟩ = false ∧ kh < w5.heap.size ∧
            ∃ vs ra rc, Hid (RI (w5.setCell ⟨kh, 1, none⟩ (.slice a5 (k + 1) c5)) g0 (.slice ra (k + 1) rc) (gR (fun _ _ => 0) (k + 1) WN) vs ∧ (w5.setCell ⟨kh, 1, none⟩ (.slice a5 (k + 1) c5)).heap[kh]? = some (.cells #[.int .i64 0, .slice ra (k + 1) rc, .int .i64 0] 92) ∧ (w5.setCell ⟨kh, 1, none⟩ (.slice a5 (k + 1) c5)).heap[k0]? = some (.cells #[.int .i64 0, .slice none 0 0, .int .i64 0] 92) ∧ Below k0 W (w5.setCell ⟨kh, 1, none⟩ (.slice a5 (k + 1) c5)) ∧ g0 ≤ (w5.setCell ⟨kh, 1, none⟩ (.slice a5 (k + 1) c5)).heap.size)) := by
        intro v5 w5 h1 h2
        have hh := HKN.out
        have hlow : ∀ g, (Value.slice ra k rc).ownBlock = some g → g0 ≤ g := fun g hg => (World.ownsRow.lt hRI.o g hg).1
        have hRI5 : RI w5 g0 v5 (gR (fun _ _ => 0) k WN ++ [List.replicate WN 0]) (vs ++ [.slice (some ⟨kr, 0, none⟩) WN WN]) := hRI.push b3 hgs hIS3 (by rw [gR_len]; exact h1) (by rw [← hw4]; exact h2)
        have eg : gR (fun _ _ => 0) k WN ++ [List.replicate WN 0] = gR (fun _ _ => (0 : Int)) (k + 1) WN := by
          unfold gR
          rw [List.range_succ, List.map_append]
          congr 1
          simp only [List.map_cons, List.map_nil, List.cons.injEq, and_true]
          apply List.ext_getElem?
          intro a
          by_cases h : a < WN <;> simp [h]
        rw [eg] at hRI5
        obtain ⟨a5, c5, e5⟩ := hRI5.form
        rw [gR_len] at e5
        subst e5
        have q5 := (h2.block kh (ltOf q4) (fun e => by have := hlow kh e.symm; omega)).trans q4
        have q15 := (h2.block k0 (by have := b4.size; have := ltOf q1; omega) (fun e => by have := hlow k0 e.symm; omega)).trans ((b4.block _ (ltOf q1)).trans q1)
        refine ⟨a5, c5, rfl, cellOf q5 1 rfl, frozOf q5 1, ltOf q5, vs ++ [.slice (some ⟨kr, 0, none⟩) WN WN], a5, c5, ?_, ?_, ?_, ?_, ?_⟩
        · exact hRI5.keepAll (fun q h7 _ _ => heap_setCell_other _ _ _ _ (by show q ≠ kh; omega))
        · have := heap_setCell_same w5 kh 1 _ _ (.slice a5 (k + 1) c5) q5
          simpa using this
        · rw [heap_setCell_other _ _ _ _ (by show k0 ≠ kh; omega)]; exact q15
        · exact ((hBr.trans (b4.mono (by have := ltOf q1; omega))).grown h2 (by have := b4.size; have := ltOf q1; omega) (fun q hq => by have := hlow q hq; omega)).setCell (by show k0 ≤ kh; omega) _
        · have := h2.size
          simp; have := b4.size; omega
      have HW4 : Hid (w4 = w3.alloc (.cells #[.slice (some ⟨kr, 0, none⟩) WN WN] 45)) := hw4
      have hXX : wr.drew = X := hX.symm
      have b0 : (0 : Int) ≤ (k : Int) := by omega
      have b1 : (k : Int) < (NH : Int) := by omega
      have kl9 := ltOf qX
      clear hR hRI q1 hBr hgs hown3 hgrow3 hIS3 bX bX3 b3 b34 b4 qX q3 q4 hRI4 hX hkr hXs hw4 qh
      go_wp2_with (fail)
      refine wp_region_holdsA (S := fun _ => True) (by kernel_rfl) trivial (fun hS => ?_)
      rw [hXX]
      clear hXX
      refine fl_takeA (i := 0) (d := 41) (v := .pointer (some ⟨kh, 1, none⟩)) rfl rfl rfl (by kernel_rfl) (by kernel_rfl) (by kernel_rfl) hS ?_ ?_
      · intro w' hk; go_simp
      simp only [Act.put, List.setIfInBounds_toArray, List.set_cons_zero, List.set_cons_succ]
      refine fl_takeA (i := 2) (d := 43) (v := .int .i64 (WN : Int)) rfl rfl rfl (by kernel_rfl) (by kernel_rfl) (by kernel_rfl) hS ?_ ?_
      · intro w' hk; go_simp
      simp only [Act.put, List.setIfInBounds_toArray, List.set_cons_zero, List.set_cons_succ]
      refine wpAnyH_all (rs := [1, 3]) (by kernel_rfl) (by simp) ?_
      intro iz hi
      rcases (show iz = 1 ∨ iz = 3 by simpa using hi) with rfl | rfl
      · clear hi
        refine op_val (d := 42) (v := .slice ra k rc) (w' := X) rfl rfl rfl (by go_simp; try rfl) ?_
        simp only [Act.put, List.setIfInBounds_toArray, List.set_cons_zero, List.set_cons_succ]
        refine ⟨trivial, ?_⟩
        refine wpAnyH_all (rs := [3]) (by kernel_rfl) (by simp) ?_
        intro iz hi
        obtain rfl : iz = 3 := by simpa using hi
        clear hi
        refine op_val (d := 44) (v := .slice (some ⟨kr, 0, none⟩) WN WN) (w' := w3) rfl rfl rfl (by go_simp; try rfl) ?_
        simp only [Act.put, List.setIfInBounds_toArray, List.set_cons_zero, List.set_cons_succ]
        refine ⟨trivial, ?_⟩
        refine wpAnyH_all (rs := [4]) (by kernel_rfl) (by simp) ?_
        intro iz hi
        obtain rfl : iz = 4 := by simpa using hi
        clear hi
        refine op_val (d := 45) (v := .slice (some ⟨w3.heap.size, 0, none⟩) 1 1) (w' := w4) rfl rfl rfl (by go_simp; exact HW4.out.symm) ?_
        simp only [Act.put, List.setIfInBounds_toArray, List.set_cons_zero, List.set_cons_succ]
        refine ⟨trivial, ?_⟩
        refine wpAnyH_all (rs := [5]) (by kernel_rfl) (by simp) ?_
        intro iz hi
        obtain rfl : iz = 5 := by simpa using hi
        clear hi
        refine op_appA (dd := 46) rfl rfl rfl _ _ 90 rfl g0 45 i0 (.slice none 0 0) 1 24 Try.underlying90 hi0 hz0 hz1 hz2 rfl (by decide) (.slice ra k rc) k vs rfl HO4.out (some ⟨w3.heap.size, 0, none⟩) 1 1 [.slice (some ⟨kr, 0, none⟩) WN WN] rfl rfl (fun e => by cases e) (fun ad e => by cases e; exact HNW.out) (by simp [Value.oneCell']) (by unfold maxLen; omega) (by omega) HLO.out ?_
        intro v5 w5 hown5 hgrow5
        obtain ⟨a5, c5, hv5, t1, tf, tl, HNX⟩ := HPU.out v5 w5 hown5 hgrow5
        subst hv5
        refine ⟨trivial, ?_⟩
        simp only [Act.put, List.setIfInBounds_toArray, List.set_cons_zero, List.set_cons_succ]
        refine wpAnyH_all (rs := [6]) (by kernel_rfl) (by simp) ?_
        intro iz hi
        obtain rfl : iz = 6 := by simpa using hi
        clear hi
        refine op_val (d := 47) (v := .pointer (some ⟨kh, 1, none⟩)) (w' := w5) rfl rfl rfl (by go_simp; try rfl) ?_
        simp only [Act.put, List.setIfInBounds_toArray, List.set_cons_zero, List.set_cons_succ]
        refine ⟨trivial, ?_⟩
        refine wpAnyH_all (rs := [7]) (by kernel_rfl) (by simp) ?_
        intro iz hi
        obtain rfl : iz = 7 := by simpa using hi
        clear hi
        refine op_skipN (w' := w5.setCell ⟨kh, 1, none⟩ (.slice a5 (k + 1) c5)) rfl rfl (by go_simp; try rfl) ?_
        refine ⟨trivial, ?_⟩
        refine wpAnyH_done (by kernel_rfl) (NoPanic.normal ?_) _
        have HN9 := HNX
        clear hown5 hgrow5 t1 tf tl HNX HPU HNW HLO HO4 hrun HW4 cX c3 c4 hS
        go_wp2
        go_roundw
        case rel => exact ⟨k + 1, by omega, by go_num, HN9⟩
        case measure => simp [intOf]; omega
      · clear hi
        refine op_val (d := 44) (v := .slice (some ⟨kr, 0, none⟩) WN WN) (w' := w3) rfl rfl rfl (by go_simp; try rfl) ?_
        simp only [Act.put, List.setIfInBounds_toArray, List.set_cons_zero, List.set_cons_succ]
        refine ⟨trivial, ?_⟩
        refine wpAnyH_all (rs := [1, 4]) (by kernel_rfl) (by simp) ?_
        intro iz hi
        rcases (show iz = 1 ∨ iz = 4 by simpa using hi) with rfl | rfl
        · clear hi
          refine op_val (d := 42) (v := .slice ra k rc) (w' := w3) rfl rfl rfl (by go_simp; try rfl) ?_
          simp only [Act.put, List.setIfInBounds_toArray, List.set_cons_zero, List.set_cons_succ]
          refine ⟨trivial, ?_⟩
          refine wpAnyH_all (rs := [4]) (by kernel_rfl) (by simp) ?_
          intro iz hi
          obtain rfl : iz = 4 := by simpa using hi
          clear hi
          refine op_val (d := 45) (v := .slice (some ⟨w3.heap.size, 0, none⟩) 1 1) (w' := w4) rfl rfl rfl (by go_simp; exact HW4.out.symm) ?_
          simp only [Act.put, List.setIfInBounds_toArray, List.set_cons_zero, List.set_cons_succ]
          refine ⟨trivial, ?_⟩
          refine wpAnyH_all (rs := [5]) (by kernel_rfl) (by simp) ?_
          intro iz hi
          obtain rfl : iz = 5 := by simpa using hi
          clear hi
          refine op_appA (dd := 46) rfl rfl rfl _ _ 90 rfl g0 45 i0 (.slice none 0 0) 1 24 Try.underlying90 hi0 hz0 hz1 hz2 rfl (by decide) (.slice ra k rc) k vs rfl HO4.out (some ⟨w3.heap.size, 0, none⟩) 1 1 [.slice (some ⟨kr, 0, none⟩) WN WN] rfl rfl (fun e => by cases e) (fun ad e => by cases e; exact HNW.out) (by simp [Value.oneCell']) (by unfold maxLen; omega) (by omega) HLO.out ?_
          intro v5 w5 hown5 hgrow5
          obtain ⟨a5, c5, hv5, t1, tf, tl, HNX⟩ := HPU.out v5 w5 hown5 hgrow5
          subst hv5
          refine ⟨trivial, ?_⟩
          simp only [Act.put, List.setIfInBounds_toArray, List.set_cons_zero, List.set_cons_succ]
          refine wpAnyH_all (rs := [6]) (by kernel_rfl) (by simp) ?_
          intro iz hi
          obtain rfl : iz = 6 := by simpa using hi
          clear hi
          refine op_val (d := 47) (v := .pointer (some ⟨kh, 1, none⟩)) (w' := w5) rfl rfl rfl (by go_simp; try rfl) ?_
          simp only [Act.put, List.setIfInBounds_toArray, List.set_cons_zero, List.set_cons_succ]
          refine ⟨trivial, ?_⟩
          refine wpAnyH_all (rs := [7]) (by kernel_rfl) (by simp) ?_
          intro iz hi
          obtain rfl : iz = 7 := by simpa using hi
          clear hi
          refine op_skipN (w' := w5.setCell ⟨kh, 1, none⟩ (.slice a5 (k + 1) c5)) rfl rfl (by go_simp; try rfl) ?_
          refine ⟨trivial, ?_⟩
          refine wpAnyH_done (by kernel_rfl) (NoPanic.normal ?_) _
          have HN9 := HNX
          clear hown5 hgrow5 t1 tf tl HNX HPU HNW HLO HO4 hrun HW4 cX c3 c4 hS
          go_wp2
          go_roundw
          case rel => exact ⟨k + 1, by omega, by go_num, HN9⟩
          case measure => simp [intOf]; omega
        · clear hi
          refine op_val (d := 45) (v := .slice (some ⟨w3.heap.size, 0, none⟩) 1 1) (w' := w4) rfl rfl rfl (by go_simp; exact HW4.out.symm) ?_
          simp only [Act.put, List.setIfInBounds_toArray, List.set_cons_zero, List.set_cons_succ]
          refine ⟨trivial, ?_⟩
          refine wpAnyH_all (rs := [1]) (by kernel_rfl) (by simp) ?_
          intro iz hi
          obtain rfl : iz = 1 := by simpa using hi
          clear hi
          refine op_val (d := 42) (v := .slice ra k rc) (w' := w4) rfl rfl rfl (by go_simp; try rfl) ?_
          simp only [Act.put, List.setIfInBounds_toArray, List.set_cons_zero, List.set_cons_succ]
          refine ⟨trivial, ?_⟩
          refine wpAnyH_all (rs := [5]) (by kernel_rfl) (by simp) ?_
          intro iz hi
          obtain rfl : iz = 5 := by simpa using hi
          clear hi
          refine op_appA (dd := 46) rfl rfl rfl _ _ 90 rfl g0 45 i0 (.slice none 0 0) 1 24 Try.underlying90 hi0 hz0 hz1 hz2 rfl (by decide) (.slice ra k rc) k vs rfl HO4.out (some ⟨w3.heap.size, 0, none⟩) 1 1 [.slice (some ⟨kr, 0, none⟩) WN WN] rfl rfl (fun e => by cases e) (fun ad e => by cases e; exact HNW.out) (by simp [Value.oneCell']) (by unfold maxLen; omega) (by omega) HLO.out ?_
          intro v5 w5 hown5 hgrow5
          obtain ⟨a5, c5, hv5, t1, tf, tl, HNX⟩ := HPU.out v5 w5 hown5 hgrow5
          subst hv5
          refine ⟨trivial, ?_⟩
          simp only [Act.put, List.setIfInBounds_toArray, List.set_cons_zero, List.set_cons_succ]
          refine wpAnyH_all (rs := [6]) (by kernel_rfl) (by simp) ?_
          intro iz hi
          obtain rfl : iz = 6 := by simpa using hi
          clear hi
          refine op_val (d := 47) (v := .pointer (some ⟨kh, 1, none⟩)) (w' := w5) rfl rfl rfl (by go_simp; try rfl) ?_
          simp only [Act.put, List.setIfInBounds_toArray, List.set_cons_zero, List.set_cons_succ]
          refine ⟨trivial, ?_⟩
          refine wpAnyH_all (rs := [7]) (by kernel_rfl) (by simp) ?_
          intro iz hi
          obtain rfl : iz = 7 := by simpa using hi
          clear hi
          refine op_skipN (w' := w5.setCell ⟨kh, 1, none⟩ (.slice a5 (k + 1) c5)) rfl rfl (by go_simp; try rfl) ?_
          refine ⟨trivial, ?_⟩
          refine wpAnyH_done (by kernel_rfl) (NoPanic.normal ?_) _
          have HN9 := HNX
          clear hown5 hgrow5 t1 tf tl HNX HPU HNW HLO HO4 hrun HW4 cX c3 c4 hS
          go_wp2
          go_roundw
          case rel => exact ⟨k + 1, by omega, by go_num, HN9⟩
          case measure => simp [intOf]; omega
    · obtain rfl : k = NH := by omega
      obtain ⟨g, c9, hra, hgg⟩ : ∃ g c9, Value.slice ra k rc = .slice (some ⟨g, 0, none⟩) k c9 ∧ g0 ≤ g := by
        rcases hRI.o.2 with ⟨h1, h0⟩ | ⟨g, cap, cur, h1, h2, _⟩
        · rw [gR_len] at h0; omega
        · rw [gR_len] at h1; exact ⟨g, cap, h1, h2⟩
      rw [hra] at hRI qh
      have HGG : Hid (g0 ≤ g) := hgg
      injection hra with hra1 hra2 hra3
      subst hra1 hra3
      clear hra2 hgg
      have HS1 : Hid (RI wr g0 (.slice (some ⟨g, 0, none⟩) k rc) (gR (vhN (s.take 0) p) k WN) vs ∧ wr.heap[kh]? = some (.cells #[.int .i64 0, .slice (some ⟨g, 0, none⟩) k rc, .int .i64 (voN (s.take 0) (WN : Int) (k : Int) p)] 92) ∧ wr.heap[k0]? = some (.cells #[.int .i64 0, .slice none 0 0, .int .i64 0] 92) ∧ Below k0 W wr) := by
        refine ⟨?_, qh, q1, hBr⟩
        have e9 : gR (fun _ _ => (0 : Int)) k WN = gR (vhN (s.take 0) p) k WN := gR_congr (fun j i _ _ => rfl)
        rw [← e9]; exact hRI
      clear hRI qh q1 hBr hR hlt hgs
      go_wp2
      go_loopw [12] (fun i wr => ∃ t : Nat, t ≤ dn ∧ i = .int .i64 t ∧ Hid (RI wr g0 (.slice (some ⟨g, 0, none⟩) k rc) (gR (vhN (s.take t) p) k WN) vs ∧ wr.heap[kh]? = some (.cells #[.int .i64 0, .slice (some ⟨g, 0, none⟩) k rc, .int .i64 (voN (s.take t) (WN : Int) (k : Int) p)] 92) ∧ wr.heap[k0]? = some (.cells #[.int .i64 0, .slice none 0 0, .int .i64 0] 92) ∧ Below k0 W wr)) (fun i _ => dn - (intOf i).toNat)
      case atStart => exact ⟨0, Nat.zero_le _, rfl, HS1.out⟩
      case round =>
        clear HS1
        obtain ⟨t, ht, rfl, hR2⟩ := hrel
        obtain ⟨hRI, qh, q1, hBr⟩ := hR2.out
        by_cases hlt : t < dn
        · have htl : t < s.length := by rw [← H.out.2.2.2.2]; exact hlt
          have hBW : Below W.heap.size W wr := by rw [← HKW.out.1]; exact hBr
          obtain ⟨gd, od, c2, he, hgd, hjc⟩ := (H.out.1.below hBW).pos (by omega)
          simp only [Value.slice.injEq] at he
          obtain ⟨rfl, hx1, hx2⟩ := he
          clear hx1 hx2
          obtain ⟨c0, c1, c2', c3⟩ := vdC_at (hjc t htl)
          obtain ⟨d, hd⟩ : ∃ d, d = s[t] := ⟨_, rfl⟩
          rw [← hd] at c0 c1 c2' c3
          have hdk : Vok d := by rw [hd]; exact HDV.out _ (List.getElem_mem _)
          have bx := vX_bd hbp.1 hdk
          have by' := vY_bd hbp.1 hdk
          obtain ⟨x', hx'⟩ : ∃ n : Nat, d.x.tdiv p = (n : Int) := ⟨(vX p d).toNat, by have h9 := bx.1; unfold vX at h9 ⊢; omega⟩
          obtain ⟨y', hy'⟩ : ∃ n : Nat, d.y.tdiv p = (n : Int) := ⟨(vY p d).toNat, by have h9 := by'.1; unfold vY at h9 ⊢; omega⟩
          have hX9 : vX p d = (x' : Int) := hx'
          have hY9 : vY p d = (y' : Int) := hy'
          have hxb : x' ≤ 10000 := by omega
          have hyb : y' ≤ 10000 := by omega
          have HSU : Hid (∀ j i, j < k → i < WN → vhN (s.take (t + 1)) p j i = if j = y' ∧ i = x' then vhN (s.take t) p j i + 1 else vhN (s.take t) p j i) := fun j i hj hi => by
            rw [vhN_succ htl hbp.1 (by rw [← hd]; exact hdk) (by omega) (by omega), ← hd, hX9, hY9]
            by_cases e9 : j = y' ∧ i = x'
            · rw [if_pos e9, if_pos ⟨by omega, by omega⟩]
            · rw [if_neg e9, if_neg (fun h7 => e9 ⟨by omega, by omega⟩)]
          have HOU : Hid (voN (s.take (t + 1)) (WN : Int) (k : Int) p = if !(decide ((x' : Int) < (WN : Int)) && decide ((y' : Int) < (k : Int))) then voN (s.take t) (WN : Int) (k : Int) p + 1 else voN (s.take t) (WN : Int) (k : Int) p) := by
            unfold Hid
            rw [voN_succ htl, ← hd]
            have e9 : vout (WN : Int) (k : Int) p d = !(decide ((x' : Int) < (WN : Int)) && decide ((y' : Int) < (k : Int))) := by unfold vout; rw [hX9, hY9]
            rw [e9]
          obtain ⟨O, hO⟩ : ∃ O, O = voN (s.take t) (WN : Int) (k : Int) p := ⟨_, rfl⟩
          have hOb : 0 ≤ O ∧ O ≤ 60 := by
            rw [hO]
            have h9 := voN_bd (s.take t) (WN : Int) (k : Int) p
            have h8 : (s.take t).length ≤ t := by simp; omega
            omega
          rw [← hO] at qh HOU
          have hp0 : (p == 0) = false := by simp; omega
          have hp1 : ¬ p = 0 := by omega
          have hxw : IntKind.i64.wrap (x' : Int) = (x' : Int) := by rw [IntKind.wrap_i64]; omega
          have hyw : IntKind.i64.wrap (y' : Int) = (y' : Int) := by rw [IntKind.wrap_i64]; omega
          have HRS : Hid (RI wr g0 (.slice (some ⟨g, 0, none⟩) k rc) (gR (vhN (s.take t) p) k WN) vs ∧ wr.heap[kh]? = some (.cells #[.int .i64 0, .slice (some ⟨g, 0, none⟩) k rc, .int .i64 O] 92) ∧ wr.heap[k0]? = some (.cells #[.int .i64 0, .slice none 0 0, .int .i64 0] 92) ∧ Below k0 W wr) := ⟨hRI, qh, q1, hBr⟩
          have z1 : wr.cell? ⟨kh, 1, none⟩ = some (.slice (some ⟨g, 0, none⟩) k rc) := cellOf qh 1 rfl
          have z2 : wr.cell? ⟨kh, 2, none⟩ = some (.int .i64 O) := cellOf qh 2 rfl
          have zf2 := frozOf qh 2
          have zl := ltOf qh
          have fout : (¬ (x' < WN ∧ y' < k)) → Hid (RI (wr.setCell ⟨kh, 2, none⟩ (.int .i64 (O + 1))) g0 (.slice (some ⟨g, 0, none⟩) k rc) (gR (vhN (s.take (t + 1)) p) k WN) vs ∧ (wr.setCell ⟨kh, 2, none⟩ (.int .i64 (O + 1))).heap[kh]? = some (.cells #[.int .i64 0, .slice (some ⟨g, 0, none⟩) k rc, .int .i64 (voN (s.take (t + 1)) (WN : Int) (k : Int) p)] 92) ∧ (wr.setCell ⟨kh, 2, none⟩ (.int .i64 (O + 1))).heap[k0]? = some (.cells #[.int .i64 0, .slice none 0 0, .int .i64 0] 92) ∧ Below k0 W (wr.setCell ⟨kh, 2, none⟩ (.int .i64 (O + 1)))) := by
            intro hno
            have hh := HKN.out
            have e9 : voN (s.take (t + 1)) (WN : Int) (k : Int) p = O + 1 := by
              rw [HOU.out]
              have h8 : (!(decide ((x' : Int) < (WN : Int)) && decide ((y' : Int) < (k : Int)))) = true := by
                cases h7 : decide ((x' : Int) < (WN : Int)) with
                | false => rfl
                | true =>
                  cases h6 : decide ((y' : Int) < (k : Int)) with
                  | false => rfl
                  | true =>
                    simp only [decide_eq_true_eq] at h7 h6
                    exact absurd ⟨by omega, by omega⟩ hno
              rw [h8]; rfl
            refine ⟨?_, ?_, ?_, ?_⟩
            · have h9 : RI (wr.setCell ⟨kh, 2, none⟩ (.int .i64 (O + 1))) g0 (.slice (some ⟨g, 0, none⟩) k rc) (gR (vhN (s.take t) p) k WN) vs := HRS.out.1.keepAll (fun q h1 h2 _ => heap_setCell_other _ _ _ _ (by show q ≠ kh; omega))
              rw [gR_congr (K := vhN (s.take (t + 1)) p) (fun j i hj hi => by rw [HSU.out j i hj hi, if_neg (fun h7 => hno ⟨by omega, by omega⟩)])] at h9
              exact h9
            · rw [e9]
              have := heap_setCell_same wr kh 2 _ _ (.int .i64 (O + 1)) HRS.out.2.1
              simpa using this
            · rw [heap_setCell_other _ _ _ _ (by show k0 ≠ kh; omega)]; exact HRS.out.2.2.1
            · exact HRS.out.2.2.2.setCell (by show k0 ≤ kh; omega) _
          have b0 : (0 : Int) ≤ (t : Int) := by omega
          have b1 : (t : Int) < (dn : Int) := by omega
          clear hjc hd hdk bx by' hX9 hY9 hO hRI qh q1 hBr hR2 hBW
          by_cases hxk : x' < WN
          · have hxi : (x' : Int) < (WN : Int) := by omega
            by_cases hyk : y' < k
            · have hyi : (y' : Int) < (k : Int) := by omega
              obtain ⟨gj, cj, erow, t1, t2, tl, hBj, hnej, hset⟩ := HRS.out.1.row hyk hxk
              obtain ⟨u1, u2, u3⟩ := HRS.out.1.cellk (k := y') (by rw [gR_len]; exact hyk)
              rw [erow] at u1
              obtain ⟨A, hA⟩ : ∃ A, A = vhN (s.take t) p y' x' := ⟨_, rfl⟩
              have hAb : 0 ≤ A ∧ A ≤ 60 := by
                rw [hA]
                have h9 := vhN_bd (s.take t) p y' x'
                have h8 : (s.take t).length ≤ t := by simp; omega
                omega
              rw [← hA] at t1
              have HFN : Hid (RI (wr.drew.setCell ⟨gj, x', none⟩ (.int .i64 (A + 1))) g0 (.slice (some ⟨g, 0, none⟩) k rc) (gR (vhN (s.take (t + 1)) p) k WN) vs ∧ (wr.drew.setCell ⟨gj, x', none⟩ (.int .i64 (A + 1))).heap[kh]? = some (.cells #[.int .i64 0, .slice (some ⟨g, 0, none⟩) k rc, .int .i64 (voN (s.take (t + 1)) (WN : Int) (k : Int) p)] 92) ∧ (wr.drew.setCell ⟨gj, x', none⟩ (.int .i64 (A + 1))).heap[k0]? = some (.cells #[.int .i64 0, .slice none 0 0, .int .i64 0] 92) ∧ Below k0 W (wr.drew.setCell ⟨gj, x', none⟩ (.int .i64 (A + 1)))) := by
                have hh := HKN.out
                have bd : Below wr.heap.size wr wr.drew := (Below.refl _ _).drew
                have e9 : voN (s.take (t + 1)) (WN : Int) (k : Int) p = O := by
                  rw [HOU.out]; simp [hxi, hyi]
                refine ⟨?_, ?_, ?_, ?_⟩
                · have h9 := (HRS.out.1.below bd).row hyk hxk
                  obtain ⟨gj2, cj2, er2, _, _, _, _, _, hset2⟩ := h9
                  have eg : gj2 = gj := by rw [erow] at er2; injection er2 with er2; injection er2 with er2; injection er2 with er2; exact er2.symm
                  subst eg
                  have h8 := hset2 (A + 1)
                  rw [gR_congr (K := vhN (s.take (t + 1)) p) (fun j i hj hi => by
                    rw [HSU.out j i hj hi]
                    by_cases e8 : j = y' ∧ i = x'
                    · rw [if_pos e8, if_pos e8, hA, e8.1, e8.2]
                    · rw [if_neg e8, if_neg e8])] at h8
                  exact h8
                · rw [heap_setCell_other _ _ _ _ (by show kh ≠ gj; omega), e9]; exact HRS.out.2.1
                · rw [heap_setCell_other _ _ _ _ (by show k0 ≠ gj; omega)]; exact HRS.out.2.2.1
                · exact (HRS.out.2.2.2.trans (bd.mono (by have := ltOf HRS.out.2.2.1; omega))).setCell (by show k0 ≤ gj; omega) _
              have b2 : (0 : Int) ≤ (x' : Int) := by omega
              have b3 : (0 : Int) ≤ (y' : Int) := by omega
              clear hset fout HRS HSU HOU erow hBj hnej hA
              go_upto_region 17 with fail
              refine wp_region_still_tail 16 (by kernel_rfl) (by kernel_rfl) ?_
              have hdw : ({ wr with drawn := wr.drawn + 1 } : World) = wr.drew := rfl
              rw [hdw]
              clear hdw
              simp only [List.take_succ_cons, List.take_zero, List.drop_succ_cons, List.drop_zero]
              iterate 16 still_step
              refine wpStill_nil ?_
              go_wp2
              go_roundw
              case rel => exact ⟨t + 1, by omega, by go_num, HFN.out⟩
              case measure => simp [intOf]; omega
            · have hyi : ¬ (y' : Int) < (k : Int) := by omega
              have HFN := fout (fun h9 => hyk h9.2)
              clear fout HRS HSU HOU
              go_wp2
              go_roundw
              case rel => exact ⟨t + 1, by omega, by go_num, HFN.out⟩
              case measure => simp [intOf]; omega
          · have hxi : ¬ (x' : Int) < (WN : Int) := by omega
            have HFN := fout (fun h9 => hxk h9.1)
            clear fout HRS HSU HOU
            go_wp2
            go_roundw
            case rel => exact ⟨t + 1, by omega, by go_num, HFN.out⟩
            case measure => simp [intOf]; omega
        · obtain rfl : t = dn := by omega
          have HD : Hid (RI wr g0 (.slice (some ⟨g, 0, none⟩) k rc) L vs ∧ Below k0 W wr) := ⟨by
            rw [HL2.out.1]
            have e9 : s.take t = s := by rw [List.take_of_length_le]; rw [← H.out.2.2.2.2]; exact Nat.le_refl _
            rw [e9] at hRI; exact hRI, hBr⟩
          have e9 : voN (s.take t) (WN : Int) (k : Int) p = Q := by
            rw [HL2.out.2, List.take_of_length_le (by rw [← H.out.2.2.2.2]; exact Nat.le_refl _)]
          rw [e9] at qh
          have t0 : wr.cell? ⟨kh, 0, none⟩ = some (.int .i64 0) := cellOf qh 0 rfl
          have t1 : wr.cell? ⟨kh, 1, none⟩ = some (.slice (some ⟨g, 0, none⟩) k rc) := cellOf qh 1 rfl
          have t2 : wr.cell? ⟨kh, 2, none⟩ = some (.int .i64 Q) := cellOf qh 2 rfl
          have tl := ltOf qh
          have z0 : wr.cell? ⟨k0, 0, none⟩ = some (.int .i64 0) := cellOf q1 0 rfl
          have z1 : wr.cell? ⟨k0, 1, none⟩ = some (.slice none 0 0) := cellOf q1 1 rfl
          have z2 : wr.cell? ⟨k0, 2, none⟩ = some (.int .i64 0) := cellOf q1 2 rfl
          have zf0 := frozOf q1 0
          have zf1 := frozOf q1 1
          have zf2 := frozOf q1 2
          have zl := ltOf q1
          obtain ⟨e1, e2, e3, e4, e5, e6⟩ := set3e (a' := .int .i64 0) (b' := .slice (some ⟨g, 0, none⟩) k rc) (c' := .int .i64 Q) q1
          have HHH : Hid (kh ≠ k0 ∧ k0 < g0) := by have h9 := HKN.out; exact ⟨by omega, by omega⟩
          clear qh q1 hR2 hRI hBr hlt e9
          go_wp2
          refine bodyPost_ret (by simp [results, Try.results54, go_sem, e1, e2, e3, e4, e5, e6, zl]; try rfl) rfl ?_
          refine ⟨_, vs, by rw [HCZ.out] <;> rfl, ?_, ?_⟩
          · refine RI.low (A := W.heap.size) (B := g0) ?_ (by rw [← HKW.out.1]; have := HHH.out.2; omega)
            refine HD.out.1.keepAll (fun q h1 h2 _ => ?_)
            rw [vset3_other (by have := HHH.out.2; omega)]
          · rw [← HKW.out.1]
            exact set3b HD.out.2 (Nat.le_refl _)

end Go.Proofs.Ytjacmneopijiaaa
