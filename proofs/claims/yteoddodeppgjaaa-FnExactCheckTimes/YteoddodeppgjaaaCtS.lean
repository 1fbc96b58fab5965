/- Proved here: CheckTimes of the model. -/
import Derived.Test.YteoddodeppgjaaaDtT
import Derived.Test.YteoddodeppgjaaaDtX
namespace Go.Proofs.Yteoddodeppgjaaa
open Go.RowKit
set_option linter.unusedVariables false
set_option linter.unusedSimpArgs false

set_option maxRecDepth 10000 in
set_option maxHeartbeats 12800000 in
theorem spec_ct {w : World} {v u : Value} {r t : List (List Int)} (hr : SmR r) (ht : SmR t) (h : RdR w v r) (h' : RdR w u t) :
    Calls Try.prog 30 #[v, u] w fun e w' => e = .returned (.bool (ctB r t)) ∧ Below w.heap.size w w' := by
  obtain ⟨a1, c1', rfl⟩ := h.form
  obtain ⟨a2, c2', rfl⟩ := h'.form
  obtain ⟨n, hnn⟩ : ∃ n, n = r.length := ⟨_, rfl⟩
  obtain ⟨m, hmm⟩ : ∃ m, m = t.length := ⟨_, rfl⟩
  obtain ⟨D, hD⟩ : ∃ D, D = ctB r t := ⟨_, rfl⟩
  obtain ⟨A, hA⟩ : ∃ A, A = gfC r 1000000 := ⟨_, rfl⟩
  obtain ⟨P, hP⟩ : ∃ A, A = gfC t 256000000 := ⟨_, rfl⟩
  rw [← hnn] at h ⊢
  rw [← hmm] at h' ⊢
  rw [← hD]
  have HC1 : Hid (∀ W, Below w.heap.size w W → Calls Try.prog 10 #[.slice a1 n c1'] W fun e w' => e = .returned (.int .i64 A) ∧ Below W.heap.size W w') := fun W hW => by rw [hA]; exact spec_gf hr (h.below hW)
  have HC2 : Hid (∀ W, Below w.heap.size w W → Calls Try.prog 33 #[.slice a2 m c2', .int .i64 256000000] W fun e w' => e = .returned (.int .i64 P) ∧ Below W.heap.size W w') := fun W hW => by rw [hP]; exact spec_l9Fault 256000000 ht (h'.below hW)
  have H : Hid (RdR w (.slice a1 n c1') r ∧ RdR w (.slice a2 m c2') t ∧ n = r.length ∧ m = t.length ∧ A = gfC r 1000000 ∧ P = gfC t 256000000 ∧ D = decide (A = 0 ∧ t = dtL r)) := ⟨h, h', hnn, hmm, hA, hP, by rw [hD, hA]; rfl⟩
  have hn' : n ≤ 1048576 := by rw [hnn]; exact hr.len
  have hm' : m ≤ 1048576 := by rw [hmm]; exact ht.len
  clear h h' hr ht hnn hmm hD hA hP
  by_cases hA0 : A = 0
  case neg =>
    have HD : Hid (D = false) := by unfold Hid; rw [H.out.2.2.2.2.2.2]; exact decide_eq_false fun e => hA0 e.1
    have hA1 : (A != 0) = true := by simpa using hA0
    go_enter Try.func30, Try.ntmps30
    go_wp2_with (fail)
    (refine wp_region_und (by kernel_rfl) (by kernel_rfl) (fun hund => ?_); (repeat (go_big_quiet_step (first | (go_at_call 10; with_reducible refine und_call ?_ (HC1.out _ (Und.below _)); exact Nat.le_refl _) | (go_at_call 33; with_reducible refine und_call ?_ (HC2.out _ (Und.below _)); exact Nat.le_refl _)))); with_reducible refine wpQuiet_nil ?_; clear hund; intro W1 hb1; obtain ⟨hc1, hf1⟩ := undcell hb1)
    have HB : Hid (Below w.heap.size w W1) := hb1
    clear hb1 hc1 hf1
    go_wp2
    go_returns
    exact ⟨by rw [HD.out]; rfl, HB.out⟩
  have HA0 : Hid (gfC r 1000000 = 0) := H.out.2.2.2.2.1.symm.trans hA0
  have HDe : Hid (D = decide (t = dtL r)) := by unfold Hid; rw [H.out.2.2.2.2.2.2]; simp [hA0]
  subst hA0
  by_cases hP0 : P = 0
  case neg =>
    have HD : Hid (D = false) := by
      unfold Hid; rw [HDe.out]
      refine decide_eq_false fun e => hP0 ?_
      rw [H.out.2.2.2.2.2.1, e]
      exact (dtL_gg HA0.out).1.fine
    have hA1 : (P != 0) = true := by simpa using hP0
    go_enter Try.func30, Try.ntmps30
    go_wp2_with (fail)
    (refine wp_region_und (by kernel_rfl) (by kernel_rfl) (fun hund => ?_); (repeat (go_big_quiet_step (first | (go_at_call 10; with_reducible refine und_call ?_ (HC1.out _ (Und.below _)); exact Nat.le_refl _) | (go_at_call 33; with_reducible refine und_call ?_ (HC2.out _ (Und.below _)); exact Nat.le_refl _)))); with_reducible refine wpQuiet_nil ?_; clear hund; intro W1 hb1; obtain ⟨hc1, hf1⟩ := undcell hb1)
    have HB : Hid (Below w.heap.size w W1) := hb1
    clear hb1 hc1 hf1
    go_wp2
    go_returns
    exact ⟨by rw [HD.out]; rfl, HB.out⟩
  have HP0 : Hid (GG 256000000 t ∧ GG 1000000 r) := ⟨gfC_good (H.out.2.2.2.2.2.1.symm.trans hP0), gfC_good HA0.out⟩
  subst hP0
  have hn0 : 0 < n := by rw [H.out.2.2.1]; exact HP0.out.2.h0
  have hm0 : 0 < m := by rw [H.out.2.2.2.1]; exact HP0.out.1.h0
  obtain ⟨g, o, ua, un, uc, rfl, hg, c0, hun, hrd⟩ := H.out.1.at hn0
  obtain ⟨g', o', ub, um, ud, rfl, hg', c0', hun', hrd'⟩ := H.out.2.1.at hm0
  simp only [Nat.add_zero] at c0 c0'
  have HU : Hid (un = (r.getD 0 []).length ∧ um = (t.getD 0 []).length) := ⟨hun, hun'⟩
  have hul : un ≤ 16 := by rw [hun]; exact HP0.out.2.w1
  have hum : um ≤ 16 := by rw [hun']; exact HP0.out.1.w1
  clear hrd hrd' hun hun'
  have z0 : (0 : Int) < (n : Int) := by omega
  have z1 : (0 : Int) < (m : Int) := by omega
  by_cases hnm : n = m ∧ un = um
  case neg =>
    have HD : Hid (D = false) := by
      unfold Hid; rw [HDe.out]
      refine decide_eq_false fun e => hnm ?_
      have hs := (dtL_gg HA0.out).2
      rw [← e] at hs
      refine ⟨by rw [H.out.2.2.1, H.out.2.2.2.1]; exact hs.len.symm, ?_⟩
      rw [HU.out.1, HU.out.2]
      exact (hs.wd 0 (by rw [← H.out.2.2.1]; exact hn0)).symm
    by_cases hnm1 : n = m
    · have h2 : ¬ (un : Int) = (um : Int) := by have : ¬ un = um := fun e => hnm ⟨hnm1, e⟩; omega
      have h3 : ((un : Int) != (um : Int)) = true := by simpa using h2
      subst hnm1
      go_enter Try.func30, Try.ntmps30
      go_wp2_with (fail)
      (refine wp_region_und (by kernel_rfl) (by kernel_rfl) (fun hund => ?_); (repeat (go_big_quiet_step (first | (go_at_call 10; with_reducible refine und_call ?_ (HC1.out _ (Und.below _)); exact Nat.le_refl _) | (go_at_call 33; with_reducible refine und_call ?_ (HC2.out _ (Und.below _)); exact Nat.le_refl _)))); with_reducible refine wpQuiet_nil ?_; clear hund; intro W1 hb1; obtain ⟨hc1, hf1⟩ := undcell hb1)
      have HB : Hid (Below w.heap.size w W1) := hb1
      clear hb1 hc1 hf1
      go_wp2
      go_returns
      exact ⟨by rw [HD.out]; rfl, HB.out⟩
    · have h2 : ¬ (n : Int) = (m : Int) := by omega
      have h3 : ((n : Int) != (m : Int)) = true := by simpa using h2
      go_enter Try.func30, Try.ntmps30
      go_wp2_with (fail)
      (refine wp_region_und (by kernel_rfl) (by kernel_rfl) (fun hund => ?_); (repeat (go_big_quiet_step (first | (go_at_call 10; with_reducible refine und_call ?_ (HC1.out _ (Und.below _)); exact Nat.le_refl _) | (go_at_call 33; with_reducible refine und_call ?_ (HC2.out _ (Und.below _)); exact Nat.le_refl _)))); with_reducible refine wpQuiet_nil ?_; clear hund; intro W1 hb1; obtain ⟨hc1, hf1⟩ := undcell hb1)
      have HB : Hid (Below w.heap.size w W1) := hb1
      clear hb1 hc1 hf1
      go_wp2
      go_returns
      exact ⟨by rw [HD.out]; rfl, HB.out⟩
  obtain ⟨hnm1, hnm2⟩ := hnm
  subst hnm1 hnm2
  go_enter Try.func30, Try.ntmps30
  go_wp2_with (fail)
  (refine wp_region_und (by kernel_rfl) (by kernel_rfl) (fun hund => ?_); (repeat (go_big_quiet_step (first | (go_at_call 10; with_reducible refine und_call ?_ (HC1.out _ (Und.below _)); exact Nat.le_refl _) | (go_at_call 33; with_reducible refine und_call ?_ (HC2.out _ (Und.below _)); exact Nat.le_refl _)))); with_reducible refine wpQuiet_nil ?_; clear hund; intro W1 hb1; obtain ⟨hc1, hf1⟩ := undcell hb1)
  have HB : Hid (Below w.heap.size w W1) := hb1
  have HC3 : Hid (Calls Try.prog 47 #[.slice (some ⟨g, o, none⟩) n c1'] W1 fun e w' => ∃ v' vs, e = .returned v' ∧ RI w' W1.heap.size v' (dtL r) vs ∧ Below W1.heap.size W1 w') := spec_times HA0.out (H.out.1.below hb1)
  clear hb1 hc1 hf1 c0 c0' hg hg'
  go_wp2_with (fail)
  refine HC3.out.mono ?_
  rintro e w2 ⟨v2, vs, rfl, hri, hb2⟩
  have hsh := (dtL_gg HA0.out).2
  obtain ⟨gd, cd, rfl, _, _, _⟩ := hri.pos (by rw [hsh.len, ← H.out.2.2.1]; exact hn0)
  rw [hsh.len, ← H.out.2.2.1] at hri ⊢
  have HS : Hid (GV w2 W1.heap.size gd n cd un (dtL r) vs ∧ Below w.heap.size w w2 ∧ Sh n un t) := by
    refine ⟨⟨hri, by rw [H.out.2.2.1, HU.out.1]; exact hsh, by rw [HU.out.1]; exact HP0.out.2.w0⟩, HB.out.trans (hb2.mono HB.out.size), ?_⟩
    have := HP0.out.1.sh
    rw [← H.out.2.2.2.1, ← HU.out.2] at this
    exact this
  clear hri hb2 HC3 HB hsh
  go_wp2
  go_loopw [6] (fun i wr => ∃ (k : Nat), k ≤ n ∧ i = .int .i64 k ∧ Hid (Below w2.heap.size w2 wr ∧ ∀ j q, j < k → q < un → at2 (dtL r) j q = at2 t j q)) (fun i _ => n - (intOf i).toNat)
  case atStart => exact ⟨0, Nat.zero_le _, rfl, Below.refl _ _, fun j q hj => by omega⟩
  case round =>
    obtain ⟨k, hk, rfl, hR⟩ := hrel
    by_cases hlt : k < n
    · have HR : Hid (Below w2.heap.size w2 wr ∧ ∀ j q, j < n → q < un → (j < k ∨ (j = k ∧ q < 0)) → at2 (dtL r) j q = at2 t j q) := ⟨hR.out.1, fun j q hj hq hc => hR.out.2 j q (by omega) hq⟩
      clear hR
      have b0 : (0 : Int) ≤ (k : Int) := by omega
      have b1 : (k : Int) < (n : Int) := by omega
      go_wp2
      go_loopw [7] (fun i wr => ∃ (x : Nat), x ≤ un ∧ i = .int .i64 x ∧ Hid (Below w2.heap.size w2 wr ∧ ∀ j q, j < n → q < un → (j < k ∨ (j = k ∧ q < x)) → at2 (dtL r) j q = at2 t j q)) (fun i _ => un - (intOf i).toNat)
      case atStart => exact ⟨0, Nat.zero_le _, rfl, HR.out⟩
      case round =>
        clear HR
        obtain ⟨x, hx, rfl, hR⟩ := hrel
        obtain ⟨gk, ck, hrk, c0, hgl, hgkl, _, _, _, hck⟩ := (HS.out.1.below hR.out.1).at hlt
        by_cases hltx : x < un
        · obtain ⟨rg, ro, sa, sn, sc, he, hrg, q0, hsn, hsd⟩ := (H.out.2.1.below (HS.out.2.1.trans (hR.out.1.mono HS.out.2.1.size))).at hlt
          injection he with he1
          injection he1 with he2 he3
          subst he2 he3
          rw [HS.out.2.2.wd k hlt] at hsn
          subst hsn
          obtain ⟨sg, so2, rfl, hsg, q1⟩ := rd_at hsd hltx
          have d0 := (hck x hltx).1
          obtain ⟨X, hX⟩ : ∃ X, X = at2 (dtL r) k x := ⟨_, rfl⟩
          obtain ⟨Y, hY⟩ : ∃ Y, Y = (t.getD k []).getD x 0 := ⟨_, rfl⟩
          rw [← hX] at d0
          rw [← hY] at q1
          have HXY : Hid (X = at2 (dtL r) k x ∧ Y = at2 t k x) := ⟨hX, hY⟩
          clear hck hsd hX hY hrk
          have b2 : (0 : Int) ≤ (x : Int) := by omega
          have b3 : (x : Int) < (sn : Int) := by omega
          by_cases hXY : X = Y
          · subst hXY
            go_wp2_with (fail)
            (refine wp_region_und (by kernel_rfl) (by kernel_rfl) (fun hund => ?_); (repeat (go_big_quiet_step (fail))); with_reducible refine wpQuiet_nil ?_; clear hund; intro W2 hb2; obtain ⟨hc2, hf2⟩ := undcell hb2)
            have HP : Hid (Below w2.heap.size w2 W2 ∧ ∀ j q, j < n → q < sn → (j < k ∨ (j = k ∧ q < x + 1)) → at2 (dtL r) j q = at2 t j q) := by
              refine ⟨hR.out.1.trans (hb2.mono hR.out.1.size), fun j q hj hq hc => ?_⟩
              by_cases e : j = k ∧ q = x
              · rw [e.1, e.2, ← HXY.out.1, ← HXY.out.2]
              · exact hR.out.2 j q hj hq (by omega)
            clear hb2 hc2 hf2 hR c0 q0 q1 d0 hgl hgkl hrg hsg
            go_wp2
            go_roundw
            case rel => exact ⟨x + 1, by omega, by go_num, HP.out⟩
            case measure => simp [intOf]; omega
          · have HD : Hid (D = false) := by
              unfold Hid; rw [HDe.out]
              refine decide_eq_false fun e => hXY ?_
              rw [HXY.out.1, HXY.out.2, ← e]
            go_wp2_with (fail)
            (refine wp_region_und (by kernel_rfl) (by kernel_rfl) (fun hund => ?_); (repeat (go_big_quiet_step (fail))); with_reducible refine wpQuiet_nil ?_; clear hund; intro W2 hb2; obtain ⟨hc2, hf2⟩ := undcell hb2)
            have HB2 : Hid (Below w.heap.size w W2) := HS.out.2.1.trans ((hR.out.1.trans (hb2.mono hR.out.1.size)).mono HS.out.2.1.size)
            clear hb2 hc2 hf2 hR c0 q0 q1 d0 hgl hgkl hrg hsg
            go_wp2
            go_returns
            exact ⟨by rw [HD.out]; rfl, HB2.out⟩
        · have HP : Hid (Below w2.heap.size w2 wr ∧ ∀ j q, j < k + 1 → q < un → at2 (dtL r) j q = at2 t j q) := ⟨hR.out.1, fun j q hj hq => hR.out.2 j q (by omega) hq (by omega)⟩
          clear hR hrk hck
          go_wp2
          go_roundw
          case rel => exact ⟨k + 1, by omega, by go_num, HP.out⟩
          case measure => simp [intOf]; omega
    · have HP : Hid (D = true ∧ Below w.heap.size w wr) := by
        refine ⟨?_, HS.out.2.1.trans (hR.out.1.mono HS.out.2.1.size)⟩
        rw [HDe.out]
        exact decide_eq_true (grid_ext HS.out.2.2 HS.out.1.sh fun j q hj hq => (hR.out.2 j q (by omega) hq).symm)
      clear hR
      go_wp2
      go_returns
      exact ⟨by rw [HP.out.1]; rfl, HP.out.2⟩

end Go.Proofs.Yteoddodeppgjaaa
