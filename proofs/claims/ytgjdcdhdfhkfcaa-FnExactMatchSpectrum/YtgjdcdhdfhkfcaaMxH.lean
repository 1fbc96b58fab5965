/- Proved here: sums of squares of the model. -/
import Derived.Test.YtgjdcdhdfhkfcaaMxM
import Derived.Test.YtgjdcdhdfhkfcaaFbI
import Derived.Test.YtgjdcdhdfhkfcaaFwR
import Derived.Test.YtgjdcdhdfhkfcaaLwS
namespace Go.Proofs.Ytgjdcdhdfhkfcaa
open Go.RowKit
set_option linter.unusedVariables false
set_option linter.unusedSimpArgs false

set_option maxRecDepth 10000 in
set_option maxHeartbeats 6400000 in
theorem spec_miss {w : World} {v1 v2 : Value} {s t : List Nat} (hn : s.length ≤ 1048576) (hl : t.length = s.length) (h : RFl w v1 s) (h2 : RFl w v2 t) :
    Calls Try.prog 56 #[v1, v2] w fun e w' => ∃ y, e = .returned (.float .f64 y) ∧ fv y = msO s t ∧ Below w.heap.size w w' := by
  obtain ⟨a, c, rfl⟩ := h.form
  obtain ⟨b, d, rfl⟩ := h2.form
  obtain ⟨n, hnn⟩ : ∃ n, n = s.length := ⟨_, rfl⟩
  rw [hl] at h2 ⊢
  rw [← hnn] at hn h h2 ⊢
  have H : Hid (RFl w (.slice a n c) s ∧ RFl w (.slice b n d) t ∧ n = s.length) := ⟨h, h2, hnn⟩
  clear h h2 hnn hl
  go_enter Try.func56, Try.ntmps56
  go_wp2
  go_loopw [5, 6] (fun f i wr => ∃ k y : Nat, k ≤ n ∧ i = .int .i64 k ∧ f = .float .f64 y ∧ Hid (fv y = msS s t k ∧ Below w.heap.size w wr)) (fun _ i _ => n - (intOf i).toNat)
  case atStart => exact ⟨0, 0, Nat.zero_le _, rfl, rfl, by rw [msS]; decide, Below.refl _ _⟩
  case round =>
    obtain ⟨k, y, hk, rfl, rfl, hR⟩ := hrel
    by_cases hlt : k < n
    · obtain ⟨g, o, z, ha, hg, hz, c0⟩ := rf_at (H.out.1.below hR.out.2) hlt
      obtain ⟨g', o', u, ha', hg', hu, c1⟩ := rf_at (H.out.2.1.below hR.out.2) hlt
      subst ha ha'
      have b0 : (0 : Int) ≤ (k : Int) := by omega
      have b1 : (k : Int) < (n : Int) := by omega
      have HB : Hid (Below w.heap.size w wr) := hR.out.2
      have HZ : Hid (∀ W, Calls Try.prog 50 #[.float .f64 z] W fun e w' => e = .returned (.bool (fv z).isNone) ∧ w' = W) := fun W => spec_isNaN z W
      have HU : Hid (∀ W, Calls Try.prog 50 #[.float .f64 u] W fun e w' => e = .returned (.bool (fv u).isNone) ∧ w' = W) := fun W => spec_isNaN u W
      cases e1 : (fv z).isNone
      · rw [e1] at HZ
        cases e2 : (fv u).isNone
        · rw [e2] at HU
          have HM : Hid (msS s t (k + 1) = fop .add (fv y) (fop .mul (fop .sub (fv z) (fv u)) (fop .sub (fv z) (fv u)))) := by unfold Hid; rw [ms_step hz hu (by rw [e1, e2]; rfl), hR.out.1]
          clear e1 e2 hz hu hR
          go_wp2_with (fail)
          refine (HZ.out _).mono ?_
          rintro e w3 ⟨rfl, hw3⟩
          subst w3
          go_wp2_with (fail)
          refine (HU.out _).mono ?_
          rintro e w3 ⟨rfl, hw3⟩
          subst w3
          go_wp2_with (fail)
          refine wp_region_float (by kernel_rfl) (fun hS => ?_)
          refine fl_take (i := 0) (d := 26) (v := .slice (some ⟨g, o, none⟩) n c) rfl rfl rfl (by kernel_rfl) (by kernel_rfl) (by kernel_rfl) hS ?_ ?_
          · intro w' hk; go_simp
          simp only [Act.put, List.setIfInBounds_toArray, List.set_cons_zero, List.set_cons_succ]
          refine fl_take (i := 1) (d := 27) (v := .int .i64 k) rfl rfl rfl (by kernel_rfl) (by kernel_rfl) (by kernel_rfl) hS ?_ ?_
          · intro w' hk; go_simp
          simp only [Act.put, List.setIfInBounds_toArray, List.set_cons_zero, List.set_cons_succ]
          refine fl_take (i := 2) (d := 28) (v := .pointer (some ⟨g, o + k, none⟩)) rfl rfl rfl (by kernel_rfl) (by kernel_rfl) (by kernel_rfl) hS ?_ ?_
          · intro w' hk; go_simp
          simp only [Act.put, List.setIfInBounds_toArray, List.set_cons_zero, List.set_cons_succ]
          refine fl_take (i := 3) (d := 29) (v := .float .f64 z) rfl rfl rfl (by kernel_rfl) (by kernel_rfl) (by kernel_rfl) hS ?_ ?_
          · intro w' hk; go_simp
          simp only [Act.put, List.setIfInBounds_toArray, List.set_cons_zero, List.set_cons_succ]
          refine fl_take (i := 4) (d := 30) (v := .slice (some ⟨g', o', none⟩) n d) rfl rfl rfl (by kernel_rfl) (by kernel_rfl) (by kernel_rfl) hS ?_ ?_
          · intro w' hk; go_simp
          simp only [Act.put, List.setIfInBounds_toArray, List.set_cons_zero, List.set_cons_succ]
          refine fl_take (i := 5) (d := 31) (v := .int .i64 k) rfl rfl rfl (by kernel_rfl) (by kernel_rfl) (by kernel_rfl) hS ?_ ?_
          · intro w' hk; go_simp
          simp only [Act.put, List.setIfInBounds_toArray, List.set_cons_zero, List.set_cons_succ]
          refine fl_take (i := 6) (d := 32) (v := .pointer (some ⟨g', o' + k, none⟩)) rfl rfl rfl (by kernel_rfl) (by kernel_rfl) (by kernel_rfl) hS ?_ ?_
          · intro w' hk; go_simp
          simp only [Act.put, List.setIfInBounds_toArray, List.set_cons_zero, List.set_cons_succ]
          refine fl_take (i := 7) (d := 33) (v := .float .f64 u) rfl rfl rfl (by kernel_rfl) (by kernel_rfl) (by kernel_rfl) hS ?_ ?_
          · intro w' hk; go_simp
          simp only [Act.put, List.setIfInBounds_toArray, List.set_cons_zero, List.set_cons_succ]
          have hKq : KS wr (wr.drew.drewN (fnn .sub z u)) := hS.call (below_drewN (Below.refl _ _) _)
          refine wpAnyH_all (rs := [8]) (by kernel_rfl) (by simp) ?_
          intro iz hi
          obtain rfl : iz = 8 := by simpa using hi
          clear hi
          refine op_val (d := 34) (v := .float .f64 (fres .sub z u wr.drew)) (w' := wr.drew.drewN (fnn .sub z u)) rfl rfl rfl (by go_simp; try rfl) ?_
          simp only [Act.put, List.setIfInBounds_toArray, List.set_cons_zero, List.set_cons_succ]
          refine ⟨hKq, ?_⟩
          refine wpAnyH_all (rs := [9]) (by kernel_rfl) (by simp) ?_
          intro iz hi
          obtain rfl : iz = 9 := by simpa using hi
          clear hi
          refine op_val (d := 7) (v := .float .f64 (fres .sub z u wr.drew)) (w' := wr.drew.drewN (fnn .sub z u)) rfl rfl rfl (by go_simp; try rfl) ?_
          simp only [Act.put, List.setIfInBounds_toArray, List.set_cons_zero, List.set_cons_succ]
          refine ⟨hKq, wpAnyH_done (by kernel_rfl) (NoPanic.normal ?_) _⟩
          clear hKq hS
          have HX : Hid (∀ W1 W2 W3, fv (fres .add y (fres .mul (fres .sub z u W1) (fres .sub z u W1) W2) W3) = msS s t (k + 1)) := fun W1 W2 W3 => by rw [fv_fres, fv_fres, fv_fres, HM.out]
          go_wp2
          go_roundw
          case rel => exact ⟨k + 1, _, by omega, by go_num, rfl, HX.out _ _ _, by have hb := HB.out; (repeat' (first | (with_reducible exact Below.refl _ _) | (with_reducible assumption) | (with_reducible refine Below.setCell ?_ ?_ _) | (with_reducible refine Below.alloc ?_ ?_ _) | (with_reducible refine below_drewN ?_ _) | (with_reducible refine Below.drew ?_) | (with_reducible exact Nat.le_refl _) | omega | (simp; done) | (simp; omega)))⟩
          case measure => simp [intOf]; omega
        · rw [e2] at HU
          have HM : Hid (fv y = msS s t (k + 1)) := by unfold Hid; rw [ms_skip hz hu (by rw [e1, e2]; rfl), hR.out.1]
          clear e1 e2 hz hu hR
          go_wp2_with (fail)
          refine (HZ.out _).mono ?_
          rintro e w3 ⟨rfl, hw3⟩
          subst w3
          go_wp2_with (fail)
          refine (HU.out _).mono ?_
          rintro e w3 ⟨rfl, hw3⟩
          subst w3
          go_wp2
          go_roundw
          case rel => exact ⟨k + 1, y, by omega, by go_num, rfl, HM.out, HB.out⟩
          case measure => simp [intOf]; omega
      · rw [e1] at HZ
        have HM : Hid (fv y = msS s t (k + 1)) := by unfold Hid; rw [ms_skip hz hu (by rw [e1]; rfl), hR.out.1]
        clear e1 hz hu hR
        go_wp2_with (fail)
        refine (HZ.out _).mono ?_
        rintro e w3 ⟨rfl, hw3⟩
        subst w3
        go_wp2
        go_roundw
        case rel => exact ⟨k + 1, y, by omega, by go_num, rfl, HM.out, HB.out⟩
        case measure => simp [intOf]; omega
    · have HE : Hid (fv y = msO s t ∧ Below w.heap.size w wr) := by
        have h3 := hR.out
        rw [show k = s.length by have := H.out.2.2; omega] at h3
        exact h3
      clear hR
      go_wp2
      go_returns
      exact ⟨_, rfl, HE.out.1, HE.out.2⟩

end Go.Proofs.Ytgjdcdhdfhkfcaa
