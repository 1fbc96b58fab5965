/- Proved here: VarianceOf of the model: mnC, mnN, vrV. -/
import Derived.Test.YtmemjohpimjmpaaVrM
import Derived.BigQuiet
import Derived.Deep.QuietTactic
import Derived.Deep.DeepCutAuto
import Derived.Test.YtmemjohpimjmpaaMnS
namespace Go.Proofs.Ytmemjohpimjmpaa
open Go.RowKit
set_option linter.unusedVariables false
set_option linter.unusedSimpArgs false

set_option maxRecDepth 10000 in
set_option maxHeartbeats 6400000 in
theorem spec_variance {w : World} {v : Value} {s : List Nat} (hn : s.length ≤ 1048576) (h : RFl w v s) :
    Calls Try.prog 22 #[v] w fun e w' => ∃ y, e = .returned (.agg #[.int .i64 (mnC s), .int .i64 (mnN s), .float .f64 y]) ∧ fv y = vrV s ∧ Below w.heap.size w w' := by
  obtain ⟨C, hC⟩ : ∃ C, C = mnC s := ⟨_, rfl⟩
  obtain ⟨N, hN⟩ : ∃ N, N = mnN s := ⟨_, rfl⟩
  have HTH : Hid (∀ W, RFl W v s → Calls Try.prog 17 #[v] W fun e w' => ∃ y, e = .returned (.agg #[.int .i64 C, .int .i64 N, .float .f64 y]) ∧ fv y = mnV s ∧ Below W.heap.size W w') := fun W hW => by rw [hC, hN]; exact spec_mean hn hW
  obtain ⟨a, c, rfl⟩ := h.form
  obtain ⟨n, hnn⟩ : ∃ n, n = s.length := ⟨_, rfl⟩
  have H : Hid (RFl w (.slice a n c) s ∧ s.length ≤ 1048576 ∧ mnC s = C ∧ mnN s = N) := ⟨by rw [hnn]; exact h, hn, hC.symm, hN.symm⟩
  rw [← hnn] at HTH ⊢
  rw [← hC, ← hN]
  clear h hn hC hnn hN
  go_enter Try.func22, Try.ntmps22
  go_wp2_with (fail)
  refine (HTH.out _ (H.out.1.below (by (repeat' (first | (with_reducible exact Below.refl _ _) | (with_reducible assumption) | (with_reducible refine Below.setCell ?_ ?_ _) | (with_reducible refine Below.alloc ?_ ?_ _) | (with_reducible refine below_drewN ?_ _) | (with_reducible refine Below.drew ?_) | (with_reducible exact Nat.le_refl _) | omega | (simp; done) | (simp; omega)))))).mono ?_
  rintro e w3 ⟨y, rfl, hy, hb⟩
  obtain ⟨K, hK⟩ : ∃ K, K = w3.heap.size := ⟨_, rfl⟩
  have hs3 : w.heap.size < K := by rw [hK]; have := hb.size; simp at this; omega
  have HB : Hid (Below w.heap.size w w3 ∧ w3.heap[w.heap.size]? = some (.cells #[.int .i64 0, .int .i64 0, .float .f64 0] 36) ∧ K = w3.heap.size) := ⟨Below.trans (by (repeat' (first | (with_reducible exact Below.refl _ _) | (with_reducible assumption) | (with_reducible refine Below.setCell ?_ ?_ _) | (with_reducible refine Below.alloc ?_ ?_ _) | (with_reducible refine below_drewN ?_ _) | (with_reducible refine Below.drew ?_) | (with_reducible exact Nat.le_refl _) | omega | (simp; done) | (simp; omega)))) (hb.mono (by simp)), (hb.block w.heap.size (by simp)).trans (heap_alloc_new _ _), hK⟩
  have HY : Hid (fv y = mnV s) := hy
  clear hy hb
  go_upto_region 2 with fail
  obtain ⟨V, hV⟩ : ∃ V, V = w3.alloc (.cells #[.int .i64 C, .int .i64 N, .float .f64 y] 36) := ⟨_, rfl⟩
  rw [← hV]
  rw [← hK]
  have HV : Hid (Below w.heap.size w V ∧ V.heap[w.heap.size]? = some (.cells #[.int .i64 0, .int .i64 0, .float .f64 0] 36) ∧ V.heap[K]? = some (.cells #[.int .i64 C, .int .i64 N, .float .f64 y] 36) ∧ K < V.heap.size) := by
    have e : V.heap.size = w3.heap.size + 1 := by rw [hV]; simp
    refine ⟨?_, ?_, ?_, by rw [e, hK]; omega⟩
    · rw [hV]; exact HB.out.1.alloc HB.out.1.size _
    · rw [hV]; exact ((Below.refl w3.heap.size w3).alloc (Nat.le_refl _) _).block _ (by omega) |>.trans HB.out.2.1
    · rw [hV, hK]; exact heap_alloc_new _ _
  clear hV hK HB HTH
  obtain ⟨q0, q1, q2, f0, f1, f2, ql⟩ := three_q HV.out.2.1
  obtain ⟨k0, k1, k2, j0, j1, j2, kl⟩ := three_q HV.out.2.2.1
  by_cases h0 : C = 0
  · subst h0
    obtain ⟨m, hm⟩ : ∃ m, m = (thL s).length := ⟨_, rfl⟩
    have hNm : N = m := by rw [← H.out.2.2.2, mnN, H.out.2.2.1, if_pos rfl, hm]
    subst hNm
    have h200 : s.length ≤ 200 := by
      have h3 := H.out.2.2.1
      unfold mnC at h3
      by_cases h4 : 200 < s.length
      · rw [if_pos h4] at h3; omega
      · omega
    have HM : Hid (mnV s = avO (thL s) ∧ vrV s = vrO (thL s) ∧ m = (thL s).length ∧ s.length ≤ 200) := by
      refine ⟨?_, ?_, hm, h200⟩
      · rw [mnV, H.out.2.2.1, if_pos rfl]
      · rw [vrV, H.out.2.2.1, if_pos rfl]
    have hmb : m ≤ 200 := by rw [hm]; exact Nat.le_trans (thL_len s) h200
    clear hm h200 q0 q1 q2 f0 f1 f2 ql
    go_wp2_with (fail)
    refine (spec_there HM.out.2.2.2 (H.out.1.below HV.out.1)).mono ?_
    rintro e w4 ⟨v', rfl, ho, hb⟩
    obtain ⟨va, vc, hvf⟩ := ho.rg.form
    rw [← HM.out.2.2.1] at hvf
    subst hvf
    have HW : Hid (RFl w4 (.slice va m vc) (thL s) ∧ Below w.heap.size w w4 ∧ w4.heap[w.heap.size]? = some (.cells #[.int .i64 0, .int .i64 0, .float .f64 0] 36) ∧ w4.heap[K]? = some (.cells #[.int .i64 0, .int .i64 m, .float .f64 y] 36)) := ⟨ho.rg, HV.out.1.trans (hb.mono HV.out.1.size), (hb.block _ (by have := HV.out.2.2.2; omega)).trans HV.out.2.1, (hb.block _ HV.out.2.2.2).trans HV.out.2.2.1⟩
    clear ho hb HV k0 k1 k2 j0 j1 j2 kl
    go_wp2
    go_loopw [5, 6] (fun f i wr => ∃ k x : Nat, k ≤ m ∧ i = .int .i64 k ∧ f = .float .f64 x ∧ Hid (fv x = smO (((thL s).take k).map (sqO (avO (thL s)))) ∧ Below w4.heap.size w4 wr)) (fun _ i _ => m - (intOf i).toNat)
    case atStart => exact ⟨0, 0, Nat.zero_le _, rfl, rfl, fv_zero, Below.refl _ _⟩
    case round =>
      obtain ⟨k, x, hk, rfl, rfl, hR⟩ := hrel
      obtain ⟨k0, k1, k2, j0, j1, j2, kl⟩ := three_q ((hR.out.2.block _ (ltOf HW.out.2.2.2)).trans HW.out.2.2.2)
      by_cases hlt : k < m
      · obtain ⟨g, o, z, ha, hg, hz, c0⟩ := rf_at (HW.out.1.below hR.out.2) hlt
        subst ha
        have HP : Hid (∀ W1 W2 W3, fv (fres .add x (fres .mul (fres .sub z y W1) (fres .sub z y W1) W2) W3) = smO (((thL s).take (k + 1)).map (sqO (avO (thL s))))) := fun W1 W2 W3 => by
          rw [fv_fres, fv_fres, fv_fres, sq_step _ hz, hR.out.1, HY.out, HM.out.1]; rfl
        have HB : Hid (Below w4.heap.size w4 wr) := hR.out.2
        clear hz hR
        have b0 : (0 : Int) ≤ (k : Int) := by omega
        have b1 : (k : Int) < (m : Int) := by omega
        go_wp2_with (fail)
        refine wp_region_float (by kernel_rfl) (fun hS => ?_)
        refine fl_take (i := 0) (d := 22) (v := .slice (some ⟨g, o, none⟩) m vc) rfl rfl rfl (by kernel_rfl) (by kernel_rfl) (by kernel_rfl) hS ?_ ?_
        · intro w' hk; go_simp
        simp only [Act.put, List.setIfInBounds_toArray, List.set_cons_zero, List.set_cons_succ]
        refine fl_take (i := 1) (d := 23) (v := .int .i64 k) rfl rfl rfl (by kernel_rfl) (by kernel_rfl) (by kernel_rfl) hS ?_ ?_
        · intro w' hk; go_simp
        simp only [Act.put, List.setIfInBounds_toArray, List.set_cons_zero, List.set_cons_succ]
        refine fl_take (i := 2) (d := 24) (v := .pointer (some ⟨g, o + k, none⟩)) rfl rfl rfl (by kernel_rfl) (by kernel_rfl) (by kernel_rfl) hS ?_ ?_
        · intro w' hk; go_simp
        simp only [Act.put, List.setIfInBounds_toArray, List.set_cons_zero, List.set_cons_succ]
        refine fl_take (i := 3) (d := 25) (v := .float .f64 z) rfl rfl rfl (by kernel_rfl) (by kernel_rfl) (by kernel_rfl) hS ?_ ?_
        · intro w' hk; go_simp
        simp only [Act.put, List.setIfInBounds_toArray, List.set_cons_zero, List.set_cons_succ]
        refine fl_take (i := 4) (d := 26) (v := .pointer (some ⟨K, 2, none⟩)) rfl rfl rfl (by kernel_rfl) (by kernel_rfl) (by kernel_rfl) hS ?_ ?_
        · intro w' hk; go_simp
        simp only [Act.put, List.setIfInBounds_toArray, List.set_cons_zero, List.set_cons_succ]
        refine fl_take (i := 5) (d := 27) (v := .float .f64 y) rfl rfl rfl (by kernel_rfl) (by kernel_rfl) (by kernel_rfl) hS ?_ ?_
        · intro w' hk; go_simp
        simp only [Act.put, List.setIfInBounds_toArray, List.set_cons_zero, List.set_cons_succ]
        have hKq : KS wr (wr.drew.drewN (fnn .sub z y)) := hS.call (below_drewN (Below.refl _ _) _)
        refine wpAnyH_all (rs := [6]) (by kernel_rfl) (by simp) ?_
        intro i hi
        obtain rfl : i = 6 := by simpa using hi
        refine op_val (d := 28) (v := .float .f64 (fres .sub z y wr.drew)) (w' := wr.drew.drewN (fnn .sub z y)) rfl rfl rfl (by go_simp; try rfl) ?_
        simp only [Act.put, List.setIfInBounds_toArray, List.set_cons_zero, List.set_cons_succ]
        refine ⟨hKq, ?_⟩
        refine wpAnyH_all (rs := [7]) (by kernel_rfl) (by simp) ?_
        intro i hi
        obtain rfl : i = 7 := by simpa using hi
        refine op_val (d := 7) (v := .float .f64 (fres .sub z y wr.drew)) (w' := wr.drew.drewN (fnn .sub z y)) rfl rfl rfl (by go_simp; try rfl) ?_
        simp only [Act.put, List.setIfInBounds_toArray, List.set_cons_zero, List.set_cons_succ]
        refine ⟨hKq, wpAnyH_done (by kernel_rfl) (NoPanic.normal ?_) _⟩
        clear hKq hS
        go_wp2
        go_roundw
        case rel => exact ⟨k + 1, _, by omega, by go_num, rfl, HP.out _ _ _, by have hb := HB.out; (repeat' (first | (with_reducible exact Below.refl _ _) | (with_reducible assumption) | (with_reducible refine Below.setCell ?_ ?_ _) | (with_reducible refine Below.alloc ?_ ?_ _) | (with_reducible refine below_drewN ?_ _) | (with_reducible refine Below.drew ?_) | (with_reducible exact Nat.le_refl _) | omega | (simp; done) | (simp; omega)))⟩
        case measure => simp [intOf]; omega
      · have HE : Hid (∀ W, fv (fres .quo x (floatOfInt .f64 m) W) = vrO (thL s)) := fun W => by
          rw [fv_fres, hR.out.1, List.take_of_length_le (by rw [← HM.out.2.2.1]; omega), HM.out.2.2.1]; rfl
        obtain ⟨q0, q1, q2, f0, f1, f2, ql⟩ := three_q ((hR.out.2.block _ (ltOf HW.out.2.2.1)).trans HW.out.2.2.1)
        have HB : Hid (Below w.heap.size w wr) := HW.out.2.1.trans (hR.out.2.mono HW.out.2.1.size)
        clear hR
        go_wp2
        try simp only [Exit.inBlock, Exit.then]
        refine bodyPost_ret (by simp [results, Try.results22, go_sem, q0, q1, q2, ql]; try rfl) rfl ⟨_, rfl, by rw [HM.out.2.1]; exact HE.out _, ?_⟩
        have hb := HB.out
        (repeat' (first | (with_reducible exact Below.refl _ _) | (with_reducible assumption) | (with_reducible refine Below.setCell ?_ ?_ _) | (with_reducible refine Below.alloc ?_ ?_ _) | (with_reducible refine below_drewN ?_ _) | (with_reducible refine Below.drew ?_) | (with_reducible exact Nat.le_refl _) | omega | (simp; done) | (simp; omega)))
  · have HW : Hid (mnV s = some 0 ∧ vrV s = some 0) := by
      refine ⟨?_, ?_⟩
      · rw [mnV, H.out.2.2.1, if_neg h0]
      · rw [vrV, H.out.2.2.1, if_neg h0]
    have hq0 : (C != 0) = true := by simpa using h0
    go_wp2
    try simp only [Exit.inBlock, Exit.then]
    refine bodyPost_ret (by simp [results, Try.results22, go_sem, q0, q1, q2, ql]; try rfl) rfl ⟨y, rfl, by rw [HW.out.2, ← HW.out.1]; exact HY.out, ?_⟩
    exact ((HV.out.1.setCell (Nat.le_refl _) _).setCell (Nat.le_refl _) _).setCell (Nat.le_refl _) _

end Go.Proofs.Ytmemjohpimjmpaa
