/- Proved here: VarianceOf of the program: mnC, mnN, vrV. -/
import Derived.Test.YtmemjohpimjmpaaVrM
import Derived.Test.YtmemjohpimjmpaaMnI
namespace Go.Proofs.Ytmemjohpimjmpaa
open Go.RowKit
set_option linter.unusedVariables false
set_option linter.unusedSimpArgs false

set_option maxHeartbeats 800000 in
theorem impl_square (x : Nat) (w : World) : Calls Try.prog 41 #[.float .f64 x] w fun e w' => ∃ y, e = .returned (.float .f64 y) ∧ fv y = fop .mul (fv x) (fv x) ∧ ∃ n, w' = w.drewN n := by
  go_enter Try.func41, Try.ntmps41
  go_wp2
  go_returns
  exact ⟨_, rfl, fv_fres _ _ _ _, _, rfl⟩
set_option maxRecDepth 10000 in
set_option maxHeartbeats 6400000 in
theorem impl_variance {w : World} {v : Value} {s : List Nat} (hn : s.length ≤ 1048576) (h : RFl w v s) :
    Calls Try.prog 23 #[v] w fun e w' => ∃ y, e = .returned (.agg #[.int .i64 (mnC s), .int .i64 (mnN s), .float .f64 y]) ∧ fv y = vrV s ∧ Below w.heap.size w w' := by
  obtain ⟨C, hC⟩ : ∃ C, C = mnC s := ⟨_, rfl⟩
  have HTH : Hid (∀ W, RFl W v s → Calls Try.prog 37 #[v] W fun e w' => ∃ v', e = .returned (.tuple #[v', .int .i64 C]) ∧ OFl w' W.heap.size v' (toL s) ∧ Below W.heap.size W w') := fun W hW => by rw [hC]; exact impl_there hn hW
  have H : Hid (RFl w v s ∧ s.length ≤ 1048576 ∧ mnC s = C) := ⟨h, hn, hC.symm⟩
  obtain ⟨a, c, rfl⟩ := h.form
  obtain ⟨n, hnn⟩ : ∃ n, n = s.length := ⟨_, rfl⟩
  have H2 : Hid (RFl w (.slice a n c) s ∧ s.length ≤ 1048576 ∧ mnC s = C) := by unfold Hid; rw [hnn]; exact H.out
  rw [← hnn] at HTH ⊢
  rw [← hC]
  clear h hn hC hnn H
  have H := H2
  clear H2
  obtain ⟨i0, hi, hz0, hz1, hz2⟩ := info_parts info_fl
  go_enter Try.func23, Try.ntmps23
  go_wp2_with (fail)
  refine (HTH.out _ (H.out.1.below (by (repeat' (first | (with_reducible exact Below.refl _ _) | (with_reducible assumption) | (with_reducible refine Below.setCell ?_ ?_ _) | (with_reducible refine Below.alloc ?_ ?_ _) | (with_reducible refine below_drewN ?_ _) | (with_reducible refine Below.drew ?_) | (with_reducible exact Nat.le_refl _) | omega | (simp; done) | (simp; omega)))))).mono ?_
  rintro e w3 ⟨v', rfl, ho, hb⟩
  have hs3 : w.heap.size < w3.heap.size := by have := hb.size; simp at this; omega
  have HB : Hid (Below w.heap.size w w3 ∧ w3.heap[w.heap.size]? = some (.cells #[.int .i64 0, .int .i64 0, .float .f64 0] 36)) := ⟨Below.trans (by (repeat' (first | (with_reducible exact Below.refl _ _) | (with_reducible assumption) | (with_reducible refine Below.setCell ?_ ?_ _) | (with_reducible refine Below.alloc ?_ ?_ _) | (with_reducible refine below_drewN ?_ _) | (with_reducible refine Below.drew ?_) | (with_reducible exact Nat.le_refl _) | omega | (simp; done) | (simp; omega)))) (hb.mono (by simp)), (hb.block w.heap.size (by simp)).trans (heap_alloc_new _ _)⟩
  have HO : Hid (OFl w3 (w.heap.size + 1) v' (toL s)) := by have h3 := ho; simp at h3; exact h3
  clear ho hb
  obtain ⟨q0, q1, q2, f0, f1, f2, ql⟩ := three_q HB.out.2
  by_cases h0 : C = 0
  · subst h0
    have hto : toL s = thL s := by rw [toL, H.out.2.2, if_pos rfl]
    rw [hto] at HO
    clear hto
    obtain ⟨m, hm⟩ : ∃ m, m = (thL s).length := ⟨_, rfl⟩
    obtain ⟨va, vc, hvf⟩ := HO.out.rg.form
    rw [← hm] at hvf
    subst hvf
    have HV : Hid (mnN s = m ∧ vrV s = vrO (thL s)) := by
      refine ⟨?_, ?_⟩
      · rw [mnN, H.out.2.2, if_pos rfl, hm]
      · rw [vrV, H.out.2.2, if_pos rfl]
    have HL : Hid ((thL s).length ≤ 1048576 ∧ m = (thL s).length) := ⟨Nat.le_trans (thL_len s) H.out.2.1, hm⟩
    have hmb : m ≤ 1048576 := by rw [hm]; exact HL.out.1
    clear hm q0 q1 q2 f0 f1 f2 ql
    go_wp2_with (fail)
    refine (impl_avg HL.out.1 HO.out.rg).mono ?_
    rintro e w4 ⟨y, rfl, hy, hb4⟩
    have HB4 : Hid (Below w.heap.size w w4 ∧ w4.heap[w.heap.size]? = some (.cells #[.int .i64 0, .int .i64 0, .float .f64 0] 36) ∧ w.heap.size < w4.heap.size ∧ RFl w4 (.slice va m vc) (thL s)) := ⟨HB.out.1.trans (hb4.mono HB.out.1.size), (hb4.block _ hs3).trans HB.out.2, Nat.lt_of_lt_of_le hs3 hb4.size, HO.out.rg.below hb4⟩
    have HY : Hid (fv y = avO (thL s)) := hy
    clear hb4 hy HB HO hs3 HTH
    go_wp2_with (at_make; refine wpList_make_full _ rfl _ _ 34 rfl w4.heap.size 24 i0 (.float .f64 0) 1 Try.underlying34 hi hz0 hz1 _ _ _ _ m rfl rfl rfl rfl (by rw [hz2]; omega) (by unfold maxLen; omega) (Nat.le_refl _) ?_; intro w5 hown5 hgrow5)
    have hb5 : Below w4.heap.size w4 w5 := (Below.refl _ _).grown hgrow5 (Nat.le_refl _) (fun k h => by cases h)
    have HQ : Hid (OFl w5 w4.heap.size (.slice (some ⟨w4.heap.size, 0, none⟩) m m) (List.replicate m 0) ∧ Below w4.heap.size w4 w5) := ⟨OFl.made hown5, hb5⟩
    clear hown5 hgrow5 hb5
    go_wp2
    go_loopw [25] (fun i wr => ∃ k : Nat, k ≤ m ∧ i = .int .i64 k ∧ Hid (∃ q : List Nat, q.length = m ∧ (∀ j, j < k → fv (q.getD j 0) = sqO (avO (thL s)) ((thL s).getD j 0)) ∧ OFl wr w4.heap.size (.slice (some ⟨w4.heap.size, 0, none⟩) m m) q ∧ Below w4.heap.size w4 wr)) (fun i _ => m - (intOf i).toNat)
    case atStart => exact ⟨0, Nat.zero_le _, rfl, _, by simp, fun j hj => absurd hj (Nat.not_lt_zero _), HQ.out.1, HQ.out.2⟩
    case round =>
      clear HQ
      obtain ⟨k, hk, rfl, hR⟩ := hrel
      by_cases hlt : k < m
      · obtain ⟨q, hql, hqv, hqo, hqb⟩ := hR.out
        obtain ⟨g, o, z, ha, hg, hz, c0⟩ := rf_at (HB4.out.2.2.2.below hqb) hlt
        subst ha
        obtain ⟨⟨u0, g0⟩, f0⟩ := hqo.there hlt
        have HZ : Hid ((thL s)[k]? = some z) := hz
        have HR : Hid (q.length = m ∧ (∀ j, j < k → fv (q.getD j 0) = sqO (avO (thL s)) ((thL s).getD j 0)) ∧ OFl wr w4.heap.size (.slice (some ⟨w4.heap.size, 0, none⟩) m m) q ∧ Below w4.heap.size w4 wr) := ⟨hql, hqv, hqo, hqb⟩
        clear hz hR hqo hqb hql hqv
        have b0 : (0 : Int) ≤ (k : Int) := by omega
        have b1 : (k : Int) < (m : Int) := by omega
        go_wp2_with (fail)
        refine (impl_square _ _).mono ?_
        rintro e w6 ⟨x, rfl, hx, nd, hw6⟩
        subst w6
        rw [fv_fres] at hx
        have HX : Hid (fv x = sqO (avO (thL s)) z) := by unfold Hid; rw [hx, HY.out]; rfl
        clear hx
        go_wp2
        go_roundw
        case rel =>
          refine ⟨k + 1, by omega, by go_num, q.set k x, by simp [HR.out.1], fun j hj => ?_, ?_, ?_⟩
          · by_cases hjk : j = k
            · subst hjk
              rw [List.getD_eq_getElem?_getD, List.getElem?_set_self (by rw [HR.out.1]; exact hlt), fl_get HZ.out]
              exact HX.out
            · rw [List.getD_eq_getElem?_getD, List.getElem?_set_ne (Ne.symm hjk), ← List.getD_eq_getElem?_getD]
              exact HR.out.2.1 j (by omega)
          · exact OFl.set (show OFl _ _ _ _ from OG.below HR.out.2.2.1 (by (repeat' (first | (with_reducible exact Below.refl _ _) | (with_reducible assumption) | (with_reducible refine Below.setCell ?_ ?_ _) | (with_reducible refine Below.alloc ?_ ?_ _) | (with_reducible refine below_drewN ?_ _) | (with_reducible refine Below.drew ?_) | (with_reducible exact Nat.le_refl _) | omega | (simp; done) | (simp; omega))))) k x
          · have hb := HR.out.2.2.2
            (repeat' (first | (with_reducible exact Below.refl _ _) | (with_reducible assumption) | (with_reducible refine Below.setCell ?_ ?_ _) | (with_reducible refine Below.alloc ?_ ?_ _) | (with_reducible refine below_drewN ?_ _) | (with_reducible refine Below.drew ?_) | (with_reducible exact Nat.le_refl _) | omega | (simp; done) | (simp; omega)))
        case measure => simp [intOf]; omega
      · have HE : Hid (∃ q : List Nat, q.map fv = (thL s).map (sqO (avO (thL s))) ∧ OFl wr w4.heap.size (.slice (some ⟨w4.heap.size, 0, none⟩) m m) q ∧ Below w4.heap.size w4 wr) := by
          obtain ⟨q, hql, hqv, hqo, hqb⟩ := hR.out
          refine ⟨q, ?_, hqo, hqb⟩
          apply List.ext_getElem
          · simp only [List.length_map]; rw [hql]; exact HL.out.2
          · intro j h1 h2
            simp only [List.length_map] at h1 h2
            have h3 := hqv j (by omega)
            rw [List.getElem_map, List.getElem_map]
            simp only [List.getD_eq_getElem?_getD, List.getElem?_eq_getElem h1, List.getElem?_eq_getElem h2, Option.getD_some] at h3
            exact h3
        clear hR
        obtain ⟨q, hq1, hq2, hq3⟩ := HE.out
        have HQ : Hid (q.map fv = (thL s).map (sqO (avO (thL s))) ∧ RFl wr (.slice (some ⟨w4.heap.size, 0, none⟩) m m) q ∧ q.length = m) := ⟨hq1, hq2.rg, hq2.rg.len.symm⟩
        have HW : Hid (Below w.heap.size w wr ∧ wr.heap[w.heap.size]? = some (.cells #[.int .i64 0, .int .i64 0, .float .f64 0] 36) ∧ w.heap.size < wr.heap.size) := ⟨HB4.out.1.trans (hq3.mono HB4.out.1.size), (hq3.block _ HB4.out.2.2.1).trans HB4.out.2.1, Nat.lt_of_lt_of_le HB4.out.2.2.1 hq3.size⟩
        have HAV : Hid (avO q = vrO (thL s) ∧ q.length ≤ 1048576) := by
          refine ⟨?_, by rw [HQ.out.2.2]; exact hmb⟩
          rw [avO, HQ.out.1, HQ.out.2.2, HL.out.2]; rfl
        clear hq1 hq2 hq3 HE
        go_wp2_with (fail)
        refine (impl_avg HAV.out.2 HQ.out.2.1).mono ?_
        rintro e w7 ⟨x, rfl, hx, hb7⟩
        have HX : Hid (fv x = vrO (thL s)) := by unfold Hid; rw [hx]; exact HAV.out.1
        have HW7 : Hid (Below w.heap.size w w7 ∧ w7.heap[w.heap.size]? = some (.cells #[.int .i64 0, .int .i64 0, .float .f64 0] 36) ∧ w.heap.size < w7.heap.size) := ⟨HW.out.1.trans (hb7.mono HW.out.1.size), (hb7.block _ HW.out.2.2).trans HW.out.2.1, Nat.lt_of_lt_of_le HW.out.2.2 hb7.size⟩
        clear hx hb7 HW
        go_wp2_with (fail)
        refine (impl_mans va m vc x _).mono ?_
        rintro e w8 ⟨rfl, hb8⟩
        have HW8 : Hid (Below w.heap.size w w8 ∧ w8.heap[w.heap.size]? = some (.cells #[.int .i64 0, .int .i64 0, .float .f64 0] 36)) := ⟨HW7.out.1.trans (hb8.mono HW7.out.1.size), (hb8.block _ HW7.out.2.2).trans HW7.out.2.1⟩
        clear hb8 HW7
        obtain ⟨q0, q1, q2, f0, f1, f2, ql⟩ := three_q HW8.out.2
        go_wp2
        try simp only [Exit.inBlock, Exit.then]
        refine bodyPost_ret (by simp [results, Try.results23, go_sem, q0, q1, q2, ql]; try rfl) rfl ⟨x, by rw [HV.out.1], by rw [HV.out.2]; exact HX.out, ?_⟩
        exact ((HW8.out.1.setCell (Nat.le_refl _) _).setCell (Nat.le_refl _) _).setCell (Nat.le_refl _) _
  · have HV : Hid (mnN s = 0 ∧ vrV s = some 0) := by
      refine ⟨?_, ?_⟩
      · rw [mnN, H.out.2.2, if_neg h0]
      · rw [vrV, H.out.2.2, if_neg h0]
    have hq0 : (C != 0) = true := by simpa using h0
    go_wp2
    try simp only [Exit.inBlock, Exit.then]
    refine bodyPost_ret (by simp [results, Try.results23, go_sem, q0, q1, q2, ql]; try rfl) rfl ⟨0, by rw [HV.out.1], by rw [HV.out.2]; exact fv_zero, ?_⟩
    exact ((HB.out.1.setCell (Nat.le_refl _) _).setCell (Nat.le_refl _) _).setCell (Nat.le_refl _) _

end Go.Proofs.Ytmemjohpimjmpaa
