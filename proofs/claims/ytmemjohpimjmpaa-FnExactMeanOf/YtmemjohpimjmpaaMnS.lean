/- Proved here: MeanOf of the model: mnC, mnN, mnV. -/
import Derived.Test.YtmemjohpimjmpaaMnM
import Derived.Test.YtmemjohpimjmpaaFbI
namespace Go.Proofs.Ytmemjohpimjmpaa
open Go.RowKit
set_option linter.unusedVariables false
set_option linter.unusedSimpArgs false

set_option maxRecDepth 10000 in
set_option maxHeartbeats 6400000 in
theorem spec_there {w : World} {v : Value} {s : List Nat} (hn : s.length ≤ 200) (h : RFl w v s) :
    Calls Try.prog 40 #[v] w fun e w' => ∃ v', e = .returned v' ∧ OFl w' w.heap.size v' (thL s) ∧ Below w.heap.size w w' := by
  obtain ⟨a, c, rfl⟩ := h.form
  obtain ⟨i0, hi, hz0, hz1, hz2⟩ := info_parts info_fl
  obtain ⟨n, hnn⟩ : ∃ n, n = s.length := ⟨_, rfl⟩
  rw [← hnn] at hn h ⊢
  have H : Hid (RFl w (.slice a n c) s ∧ n = s.length) := ⟨h, hnn⟩
  clear h hnn
  go_enter Try.func40, Try.ntmps40
  go_wp2
  go_loopw [3, 4] (fun q i wr => ∃ (k : Nat) (v : Value), k ≤ n ∧ v = q ∧ i = .int .i64 k ∧ Hid (OFl wr w.heap.size v (thL (s.take k)) ∧ Below w.heap.size w wr)) (fun _ i _ => n - (intOf i).toNat)
  case atStart => exact ⟨0, _, Nat.zero_le _, rfl, rfl, fl_lit0 _ _ (Nat.le_refl _), by (repeat' (first | (with_reducible exact Below.refl _ _) | (with_reducible assumption) | (with_reducible refine Below.setCell ?_ ?_ _) | (with_reducible refine Below.alloc ?_ ?_ _) | (with_reducible refine below_drewN ?_ _) | (with_reducible refine Below.drew ?_) | (with_reducible exact Nat.le_refl _) | omega | (simp; done) | (simp; omega)))⟩
  case round =>
    obtain ⟨k, v, hk, rfl, rfl, hR⟩ := hrel
    by_cases hlt : k < n
    · obtain ⟨g, o, z, ha, hg, hz, c0⟩ := rf_at (H.out.1.below hR.out.2) hlt
      subst ha
      have HT : Hid (thL (s.take (k + 1)) = if (fv z).isNone then thL (s.take k) else thL (s.take k) ++ [z]) := thL_step hz
      clear hz
      have b0 : (0 : Int) ≤ (k : Int) := by omega
      have b1 : (k : Int) < (n : Int) := by omega
      have HN : Hid (∀ W, Calls Try.prog 30 #[.float .f64 z] W fun e w' => e = .returned (.bool (fv z).isNone) ∧ w' = W) := fun W => spec_isNaN z W
      cases hv : (fv z).isNone
      · rw [hv] at HN HT
        simp only [Bool.false_eq_true, if_false] at HT
        obtain ⟨m, hm⟩ : ∃ m, m = (thL (s.take k)).length := ⟨_, rfl⟩
        have hmk : m ≤ 200 := by have := thL_take s k; omega
        obtain ⟨va, vc, hvf⟩ := hR.out.1.rg.form
        rw [← hm] at hvf
        subst hvf
        have HOW : Hid (wr.ownsRow w.heap.size 24 1 (.slice va m vc) m ((thL (s.take k)).flatMap flC)) := by
          have h3 := hR.out.1
          unfold OFl OG at h3
          rw [← hm] at h3
          exact h3
        have HM : Hid (m = (thL (s.take k)).length ∧ OFl wr w.heap.size (.slice va m vc) (thL (s.take k)) ∧ Below w.heap.size w wr) := ⟨hm, hR.out⟩
        have hws : w.heap.size ≤ wr.heap.size := HM.out.2.2.size
        clear hm hR hv
        go_wp2_with (fail)
        refine (HN.out _).mono ?_
        rintro e w3 ⟨rfl, hw3⟩
        subst w3
        go_wp2_with (at_builtin; refine wpList_append_own _ rfl _ _ 34 rfl w.heap.size 24 i0 (.float .f64 0) 1 8 Try.underlying34 hi hz0 hz1 hz2 rfl (by decide) _ _ _ rfl (World.ownsRow.alloc HOW.out _) ⟨wr.heap.size, 0, none⟩ 1 1 [.float .f64 z] rfl rfl (World.news_of_block (cs := #[.float .f64 z]) (t := 24) (fr := (0, 0)) (heap_alloc_new wr _)) (by simp [Value.oneCell']) (by unfold maxLen; omega) (by omega) (by simp; omega) ?_; intro v6 w6 hown6 hgrow6 _)
        have R6 : Hid (OFl w6 w.heap.size v6 (thL (s.take (k + 1))) ∧ Below w.heap.size w w6) := by
          refine ⟨by rw [HT.out]; exact OFl.snoc (by rw [← HM.out.1]; exact hown6), ?_⟩
          exact (HM.out.2.2.alloc HM.out.2.2.size _).grown hgrow6 (by simp; have := HM.out.2.2.size; omega) (fun q hq => (OG.lt HM.out.2.1 q hq).1)
        clear hown6 hgrow6 HOW HM HT c0
        go_wp2
        go_roundw
        case rel => exact ⟨k + 1, _, by omega, rfl, by go_num, R6.out⟩
        case measure => simp [intOf]; omega
      · rw [hv] at HN HT
        simp only [if_true] at HT
        have R6 : Hid (OFl wr w.heap.size v (thL (s.take (k + 1))) ∧ Below w.heap.size w wr) := by unfold Hid; rw [HT.out]; exact hR.out
        clear hR hv
        go_wp2_with (fail)
        refine (HN.out _).mono ?_
        rintro e w3 ⟨rfl, hw3⟩
        subst w3
        go_wp2
        go_roundw
        case rel => exact ⟨k + 1, _, by omega, rfl, by go_num, R6.out⟩
        case measure => simp [intOf]; omega
    · have HE : Hid (OFl wr w.heap.size v (thL s) ∧ Below w.heap.size w wr) := by
        have h3 := hR.out
        rw [List.take_of_length_le (by rw [← H.out.2]; omega)] at h3
        exact h3
      clear hR
      go_wp2
      go_returns
      exact ⟨_, rfl, HE.out.1, HE.out.2⟩
set_option maxRecDepth 10000 in
set_option maxHeartbeats 3200000 in
theorem spec_list {w : World} {v : Value} {s : List Nat} (hn : s.length ≤ 1048576) (h : RFl w v s) :
    Calls Try.prog 35 #[v] w fun e w' => ∃ v', e = .returned (.tuple #[v', .int .i64 (mnC s)]) ∧ OFl w' w.heap.size v' (toL s) ∧ Below w.heap.size w w' := by
  obtain ⟨a, c, rfl⟩ := h.form
  obtain ⟨n, hnn⟩ : ∃ n, n = s.length := ⟨_, rfl⟩
  rw [← hnn] at hn h ⊢
  by_cases h200 : (200 : Int) < (n : Int)
  · have HC : Hid (mnC s = 2) := by unfold Hid mnC; rw [if_pos (by omega)]
    clear h hnn
    go_enter Try.func35, Try.ntmps35
    go_wp2
    go_returns
    exact ⟨.slice none 0 0, by rw [HC.out]; rfl, by rw [toL, HC.out, if_neg (by decide)]; exact og_nil _ _, Below.refl _ _⟩
  have H : Hid (RFl w (.slice a n c) s ∧ n = s.length ∧ s.length ≤ 200) := ⟨h, hnn, by omega⟩
  clear h hnn
  go_enter Try.func35, Try.ntmps35
  go_wp2_with (fail)
  refine (spec_there H.out.2.2 H.out.1).mono ?_
  rintro e w3 ⟨v', rfl, ho, hb⟩
  obtain ⟨m, hm⟩ : ∃ m, m = (thL s).length := ⟨_, rfl⟩
  obtain ⟨va, vc, hvf⟩ := ho.rg.form
  rw [← hm] at hvf
  subst hvf
  have HE : Hid (OFl w3 w.heap.size (.slice va m vc) (thL s) ∧ Below w.heap.size w w3) := ⟨ho, hb⟩
  clear ho hb
  by_cases h0 : m = 0
  · have HC : Hid (mnC s = 4) := by unfold Hid mnC; rw [if_neg (by rw [← H.out.2.1]; omega), if_pos (List.length_eq_zero_iff.1 (by omega))]
    subst h0
    clear hm
    go_wp2
    go_returns
    exact ⟨_, by rw [HC.out]; rfl, by rw [toL, HC.out, if_neg (by decide)]; exact og_nil _ _, HE.out.2⟩
  · have HC : Hid (mnC s = 0) := by unfold Hid mnC; rw [if_neg (by rw [← H.out.2.1]; omega), if_neg (fun h => by rw [h] at hm; simp at hm; omega)]
    have h01 : ¬ (m : Int) = 0 := by omega
    have hq1 : ((m : Int) == 0) = false := by simpa using h01
    clear hm
    go_wp2
    go_returns
    exact ⟨_, by rw [HC.out]; rfl, by rw [toL, HC.out, if_pos rfl]; exact HE.out.1, HE.out.2⟩
set_option maxRecDepth 10000 in
set_option maxHeartbeats 3200000 in
theorem spec_sum {w : World} {v : Value} {s : List Nat} (hn : s.length ≤ 1048576) (h : RFl w v s) :
    Calls Try.prog 36 #[v] w fun e w' => ∃ y, e = .returned (.float .f64 y) ∧ fv y = smO (s.map fv) ∧ Below w.heap.size w w' := by
  obtain ⟨a, c, rfl⟩ := h.form
  obtain ⟨n, hnn⟩ : ∃ n, n = s.length := ⟨_, rfl⟩
  rw [← hnn] at hn h ⊢
  have H : Hid (RFl w (.slice a n c) s ∧ n = s.length) := ⟨h, hnn⟩
  clear h hnn
  go_enter Try.func36, Try.ntmps36
  go_wp2
  go_loopw [3, 4] (fun f i wr => ∃ k y : Nat, k ≤ n ∧ i = .int .i64 k ∧ f = .float .f64 y ∧ Hid (fv y = smO ((s.take k).map fv) ∧ Below w.heap.size w wr)) (fun _ i _ => n - (intOf i).toNat)
  case atStart => exact ⟨0, 0, Nat.zero_le _, rfl, rfl, fv_zero, Below.refl _ _⟩
  case round =>
    obtain ⟨k, y, hk, rfl, rfl, hR⟩ := hrel
    by_cases hlt : k < n
    · obtain ⟨g, o, z, ha, hg, hz, c0⟩ := rf_at (H.out.1.below hR.out.2) hlt
      subst ha
      have HP : Hid (∀ W, fv (fres .add y z W) = smO ((s.take (k + 1)).map fv)) := fun W => by rw [fv_fres, smO_step hz, hR.out.1]
      have HB : Hid (Below w.heap.size w wr) := hR.out.2
      clear hz hR
      have b0 : (0 : Int) ≤ (k : Int) := by omega
      have b1 : (k : Int) < (n : Int) := by omega
      go_wp2
      go_roundw
      case rel => exact ⟨k + 1, _, by omega, by go_num, rfl, HP.out _, below_drewN HB.out _⟩
      case measure => simp [intOf]; omega
    · have HE : Hid (fv y = smO (s.map fv) ∧ Below w.heap.size w wr) := by
        have h3 := hR.out
        rw [List.take_of_length_le (by rw [← H.out.2]; omega)] at h3
        exact h3
      clear hR
      go_wp2
      go_returns
      exact ⟨_, rfl, HE.out.1, HE.out.2⟩
set_option maxRecDepth 10000 in
set_option maxHeartbeats 3200000 in
theorem spec_mean {w : World} {v : Value} {s : List Nat} (hn : s.length ≤ 1048576) (h : RFl w v s) :
    Calls Try.prog 17 #[v] w fun e w' => ∃ y, e = .returned (.agg #[.int .i64 (mnC s), .int .i64 (mnN s), .float .f64 y]) ∧ fv y = mnV s ∧ Below w.heap.size w w' := by
  obtain ⟨C, hC⟩ : ∃ C, C = mnC s := ⟨_, rfl⟩
  have HTH : Hid (∀ W, RFl W v s → Calls Try.prog 35 #[v] W fun e w' => ∃ v', e = .returned (.tuple #[v', .int .i64 C]) ∧ OFl w' W.heap.size v' (toL s) ∧ Below W.heap.size W w') := fun W hW => by rw [hC]; exact spec_list hn hW
  have H : Hid (RFl w v s ∧ s.length ≤ 1048576 ∧ mnC s = C) := ⟨h, hn, hC.symm⟩
  obtain ⟨a, c, rfl⟩ := h.form
  obtain ⟨n, hnn⟩ : ∃ n, n = s.length := ⟨_, rfl⟩
  have H2 : Hid (RFl w (.slice a n c) s ∧ s.length ≤ 1048576 ∧ mnC s = C) := by unfold Hid; rw [hnn]; exact H.out
  rw [← hnn] at HTH ⊢
  rw [← hC]
  clear h hn hC hnn H
  have H := H2
  clear H2
  go_enter Try.func17, Try.ntmps17
  go_wp2_with (fail)
  refine (HTH.out _ (H.out.1.below (by (repeat' (first | (with_reducible exact Below.refl _ _) | (with_reducible assumption) | (with_reducible refine Below.setCell ?_ ?_ _) | (with_reducible refine Below.alloc ?_ ?_ _) | (with_reducible refine below_drewN ?_ _) | (with_reducible refine Below.drew ?_) | (with_reducible exact Nat.le_refl _) | omega | (simp; done) | (simp; omega)))))).mono ?_
  rintro e w3 ⟨v', rfl, ho, hb⟩
  have hs3 : w.heap.size < w3.heap.size := by have := hb.size; simp at this; omega
  have HB : Hid (Below w.heap.size w w3 ∧ w3.heap[w.heap.size]? = some (.cells #[.int .i64 0, .int .i64 0, .float .f64 0] 36)) := ⟨Below.trans (by (repeat' (first | (with_reducible exact Below.refl _ _) | (with_reducible assumption) | (with_reducible refine Below.setCell ?_ ?_ _) | (with_reducible refine Below.alloc ?_ ?_ _) | (with_reducible refine below_drewN ?_ _) | (with_reducible refine Below.drew ?_) | (with_reducible exact Nat.le_refl _) | omega | (simp; done) | (simp; omega)))) (hb.mono (by simp)), (hb.block w.heap.size (by simp)).trans (heap_alloc_new _ _)⟩
  have HO : Hid (OFl w3 (w.heap.size + 1) v' (toL s)) := by have h3 := ho; simp at h3; exact h3
  clear ho hb
  obtain ⟨q0, q1, q2, f0, f1, f2, ql⟩ := three_q HB.out.2
  by_cases h0 : C = 0
  · subst h0
    have hto : toL s = thL s := by rw [toL, H.out.2.2, if_pos rfl]
    rw [hto] at HO
    clear hto
    obtain ⟨m, hm⟩ : ∃ m, m = (thL s).length := ⟨_, rfl⟩
    obtain ⟨va, vc, hvf⟩ := HO.out.rg.form
    rw [← hm] at hvf
    subst hvf
    have HV : Hid (mnN s = m ∧ mnV s = avO (thL s)) := by
      refine ⟨?_, ?_⟩
      · rw [mnN, H.out.2.2, if_pos rfl, hm]
      · rw [mnV, H.out.2.2, if_pos rfl]
    have HL : Hid ((thL s).length ≤ 1048576) := Nat.le_trans (thL_len s) H.out.2.1
    have HMM : Hid (m = (thL s).length) := hm
    clear hm q0 q1 q2 f0 f1 f2 ql
    go_wp2_with (fail)
    refine (spec_sum HL.out HO.out.rg).mono ?_
    rintro e w5 ⟨y, rfl, hy, hb5⟩
    have HB5 : Hid (Below w.heap.size w w5 ∧ w5.heap[w.heap.size]? = some (.cells #[.int .i64 0, .int .i64 0, .float .f64 0] 36)) := ⟨HB.out.1.trans (hb5.mono HB.out.1.size), (hb5.block _ hs3).trans HB.out.2⟩
    have HY : Hid (∀ W, fv (fres .quo y (floatOfInt .f64 m) W) = avO (thL s)) := fun W => by rw [fv_fres, hy, HMM.out]; rfl
    clear hb5 hy
    obtain ⟨q0, q1, q2, f0, f1, f2, ql⟩ := three_q HB5.out.2
    go_wp2
    try simp only [Exit.inBlock, Exit.then]
    refine bodyPost_ret (by simp [results, Try.results17, go_sem, q0, q1, q2, ql]; try rfl) rfl ⟨_, by rw [HV.out.1], by rw [HV.out.2]; exact HY.out _, ?_⟩
    exact (((below_drewN HB5.out.1 _).setCell (Nat.le_refl _) _).setCell (Nat.le_refl _) _).setCell (Nat.le_refl _) _
  · have HV : Hid (mnN s = 0 ∧ mnV s = some 0) := by
      refine ⟨?_, ?_⟩
      · rw [mnN, H.out.2.2, if_neg h0]
      · rw [mnV, H.out.2.2, if_neg h0]
    have hq0 : (C != 0) = true := by simpa using h0
    go_wp2
    try simp only [Exit.inBlock, Exit.then]
    refine bodyPost_ret (by simp [results, Try.results17, go_sem, q0, q1, q2, ql]; try rfl) rfl ⟨0, by rw [HV.out.1], by rw [HV.out.2]; exact fv_zero, ?_⟩
    exact ((HB.out.1.setCell (Nat.le_refl _) _).setCell (Nat.le_refl _) _).setCell (Nat.le_refl _) _

end Go.Proofs.Ytmemjohpimjmpaa
