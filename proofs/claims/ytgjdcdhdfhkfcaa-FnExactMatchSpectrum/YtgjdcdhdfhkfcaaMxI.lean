/- Proved here: MatchSpectrum of the program: mxC, mxN, mxV. -/
import Derived.Test.YtgjdcdhdfhkfcaaMxG
import Derived.Test.YtgjdcdhdfhkfcaaMxQ
import Derived.Deep.DeepCutAuto
namespace Go.Proofs.Ytgjdcdhdfhkfcaa
open Go.RowKit
set_option linter.unusedVariables false
set_option linter.unusedSimpArgs false

set_option maxRecDepth 20000 in
set_option maxHeartbeats 12800000 in
theorem impl_match {w : World} {g1 g2 : Nat} {ls : List (List Nat)} {sp : List Nat} (hn : SmL ls) (hm : sp.length ≤ 1048576) (h : RsL w (.slice (some ⟨g1, 0, none⟩) ls.length ls.length) ls) (h2 : RFl w (.slice (some ⟨g2, 0, none⟩) sp.length sp.length) sp) :
    Calls Try.prog 34 #[.slice (some ⟨g1, 0, none⟩) ls.length ls.length, .slice (some ⟨g2, 0, none⟩) sp.length sp.length] w fun e w' => ∃ y, e = .returned (.agg #[.int .i64 (mxC ls sp), .int .i64 (mxN ls sp), .float .f64 y]) ∧ fv y = mxV ls sp ∧ Below w.heap.size w w' := by
  obtain ⟨n, hnn⟩ : ∃ n, n = ls.length := ⟨_, rfl⟩
  obtain ⟨m, hmm⟩ : ∃ m, m = sp.length := ⟨_, rfl⟩
  obtain ⟨C, hC⟩ : ∃ C, C = mxC ls sp := ⟨_, rfl⟩
  have hn' : n ≤ 1048576 := by rw [hnn]; exact hn.len
  have H : Hid (RsL w (.slice (some ⟨g1, 0, none⟩) n n) ls ∧ RFl w (.slice (some ⟨g2, 0, none⟩) m m) sp ∧ n = ls.length ∧ m = sp.length ∧ SmL ls ∧ C = mxC ls sp ∧ C = if 20 < n ∨ 200 < m then 2 else if n = 0 then 4 else if lnF ls sp then 0 else 1) := ⟨by rw [hnn]; exact h, by rw [hmm]; exact h2, hnn, hmm, hn, hC, by rw [hC, mxC, hnn, hmm]⟩
  have HF : Hid (∀ W, RsL W (.slice (some ⟨g1, 0, none⟩) n n) ls → Calls Try.prog 57 #[.slice (some ⟨g1, 0, none⟩) n n, .slice (some ⟨g2, 0, none⟩) m m] W fun e w' => e = .returned (.int .i64 C) ∧ w' = W) := fun W hW => by rw [hC, hmm]; exact impl_lf hn hm hW
  have HMS : Hid (∀ (W : World) (j : Nat) (ua : Option Addr) (un uc : Nat), (ls.getD j []).length = m → RFl W (.slice ua un uc) (ls.getD j []) → RFl W (.slice (some ⟨g2, 0, none⟩) m m) sp → Calls Try.prog 58 #[.slice ua un uc, .slice (some ⟨g2, 0, none⟩) m m] W fun e w' => ∃ y, e = .returned (.float .f64 y) ∧ fv y = msO (ls.getD j []) sp ∧ Below W.heap.size W w') := fun W j ua un uc hl hr1 hr2 => impl_miss (H.out.2.2.2.2.1.row j) (by rw [hl]; exact H.out.2.2.2.1.symm) hr1 hr2
  rw [← hnn, ← hmm, ← hC]
  clear h h2 hnn hmm hC hn hm
  obtain ⟨W0, hW0⟩ : ∃ W, W = w.alloc (.cells #[.int .i64 0, .int .i64 0, .float .f64 0] 57) := ⟨_, rfl⟩
  have HW0 : Hid (Below w.heap.size w W0 ∧ W0.heap[w.heap.size]? = some (.cells #[.int .i64 0, .int .i64 0, .float .f64 0] 57)) := by
    rw [hW0]; exact ⟨by (repeat' (first | (with_reducible exact Below.refl _ _) | (with_reducible assumption) | (with_reducible refine Below.setCell ?_ ?_ _) | (with_reducible refine Below.alloc ?_ ?_ _) | (with_reducible refine below_drewN ?_ _) | (with_reducible refine Below.drew ?_) | (with_reducible exact Nat.le_refl _) | omega | (simp; done) | (simp; omega))), heap_alloc_new _ _⟩
  go_enter Try.func34, Try.ntmps34
  go_wp2_with (fail)
  rw [← hW0]
  clear hW0
  refine (HF.out _ (H.out.1.below HW0.out.1)).mono ?_
  rintro e w3 ⟨rfl, hw3⟩
  subst w3
  clear HF
  obtain ⟨q0, q1, q2, f0, f1, f2, ql⟩ := three_m HW0.out.2
  by_cases h0 : C = 0
  case neg =>
    have HV : Hid (mxN ls sp = 0 ∧ mxV ls sp = some 0) := by
      refine ⟨?_, ?_⟩
      · rw [mxN, ← H.out.2.2.2.2.2.1, if_neg h0]
      · rw [mxV, ← H.out.2.2.2.2.2.1, if_neg h0]
    have hq0 : (C != 0) = true := by simpa using h0
    have HB : Hid (Below w.heap.size w W0) := HW0.out.1
    go_wp2
    try simp only [Exit.inBlock, Exit.then]
    refine bodyPost_ret (by simp [results, Try.results34, go_sem, q0, q1, q2, ql]; try rfl) rfl ⟨0, by rw [HV.out.1], by rw [HV.out.2]; decide, ?_⟩
    have hb := HB.out
    (repeat' (first | (with_reducible exact Below.refl _ _) | (with_reducible assumption) | (with_reducible refine Below.setCell ?_ ?_ _) | (with_reducible refine Below.alloc ?_ ?_ _) | (with_reducible refine below_drewN ?_ _) | (with_reducible refine Below.drew ?_) | (with_reducible exact Nat.le_refl _) | omega | (simp; done) | (simp; omega)))
  subst h0
  have hcc : n ≤ 20 ∧ m ≤ 200 ∧ 0 < n ∧ lnF ls sp := by
    have h3 := H.out.2.2.2.2.2.2
    by_cases a : 20 < n ∨ 200 < m
    · rw [if_pos a] at h3; omega
    rw [if_neg a] at h3
    by_cases b : n = 0
    · rw [if_pos b] at h3; omega
    rw [if_neg b] at h3
    by_cases c : lnF ls sp
    · exact ⟨by omega, by omega, by omega, c⟩
    · rw [if_neg c] at h3; omega
  have HV : Hid (mxN ls sp = ((bsO ls sp (n - 1)).1 : Int) ∧ mxV ls sp = (bsO ls sp (n - 1)).2) := by
    refine ⟨?_, ?_⟩
    · rw [mxN, ← H.out.2.2.2.2.2.1, if_pos rfl, H.out.2.2.1]
    · rw [mxV, ← H.out.2.2.2.2.2.1, if_pos rfl, H.out.2.2.1]
  have HLN : Hid (∀ j, j < n → (ls.getD j []).length = m) := fun j hj => by rw [H.out.2.2.2.1]; exact hcc.2.2.2 j (by rw [← H.out.2.2.1]; exact hj)
  have hnb : 0 < n ∧ n ≤ 20 := ⟨hcc.2.2.1, hcc.1⟩
  clear hcc q0 q1 q2 f0 f1 f2 ql
  obtain ⟨g, o, ua, un, uc, ha, hg, c0, hun, hrd⟩ := (H.out.1.below HW0.out.1).at hnb.1
  injection ha with ha
  injection ha with ha1 ha2
  subst ha1 ha2
  rw [Nat.zero_add] at c0
  have b10 : (0 : Int) < (n : Int) := by omega
  have HR0 : Hid (RFl W0 (.slice ua un uc) (ls.getD 0 [])) := hrd
  clear hun hrd
  go_wp2_with (fail)
  refine (HMS.out _ 0 ua un uc (HLN.out 0 hnb.1) HR0.out (H.out.2.1.below HW0.out.1)).mono ?_
  rintro e w2 ⟨y, rfl, hy, hb⟩
  obtain ⟨K, hK⟩ : ∃ K, K = w2.heap.size := ⟨_, rfl⟩
  have HB2 : Hid (Below w.heap.size w w2 ∧ w2.heap[w.heap.size]? = some (.cells #[.int .i64 0, .int .i64 0, .float .f64 0] 57) ∧ w.heap.size < K ∧ fv y = (bsO ls sp 0).2 ∧ K = w2.heap.size) := ⟨HW0.out.1.trans (hb.mono HW0.out.1.size), (hb.block _ (ltOf HW0.out.2)).trans HW0.out.2, by rw [hK]; exact Nat.lt_of_lt_of_le (ltOf HW0.out.2) hb.size, hy, hK⟩
  clear hb hy c0 HR0 hg
  have e1 : (n : Int) - 1 = ((n - 1 : Nat) : Int) := by omega
  obtain ⟨N, hN⟩ : ∃ N, N = n - 1 := ⟨_, rfl⟩
  rw [← hN] at e1
  have s1 : (1 : Int) ≤ (n : Int) := by omega
  have s2 : n - 1 = N := hN.symm
  have HNN : Hid (N = n - 1) := hN
  clear hN
  go_upto_region 5 with fail
  obtain ⟨V, hV⟩ : ∃ V, V = w2.alloc (.cells #[.int .i64 0, .int .i64 0, .float .f64 y] 57) := ⟨_, rfl⟩
  rw [← hV, ← hK]
  have HV0 : Hid (Below w.heap.size w V ∧ V.heap[w.heap.size]? = some (.cells #[.int .i64 0, .int .i64 0, .float .f64 0] 57) ∧ V.heap[K]? = some (.cells #[.int .i64 0, .int .i64 0, .float .f64 y] 57)) := by
    refine ⟨?_, ?_, ?_⟩
    · rw [hV]; exact HB2.out.1.alloc HB2.out.1.size _
    · rw [hV]; exact ((Below.refl w2.heap.size w2).alloc (Nat.le_refl _) _).block _ (by have := HB2.out.2.2; omega) |>.trans HB2.out.2.1
    · rw [hV, hK]; exact heap_alloc_new _ _
  have HYB : Hid (w.heap.size < K ∧ fv y = (bsO ls sp 0).2) := ⟨HB2.out.2.2.1, HB2.out.2.2.2.1⟩
  clear hV hK HB2 HW0
  by_cases hn1 : n = 1
  · have HE : Hid (mxN ls sp = 0 ∧ mxV ls sp = fv y) := by
      rw [show n - 1 = 0 by omega] at HV
      exact ⟨by rw [HV.out.1]; rfl, by rw [HV.out.2, HYB.out.2]⟩
    obtain rfl : N = 0 := by have := HNN.out; omega
    subst hn1
    obtain ⟨k0, k1, k2, j0, j1, j2, kl⟩ := three_m HV0.out.2.2
    obtain ⟨q0, q1, q2, f0, f1, f2, ql⟩ := three_m HV0.out.2.1
    have HB : Hid (Below w.heap.size w V) := HV0.out.1
    clear HV HNN HV0
    go_wp2
    refine wp_loop_rounds 1 ?_
    rw [rounds_succ]
    go_wp2
    try simp only [Exit.inBlock, Exit.then]
    refine bodyPost_ret (by simp [results, Try.results34, go_sem, q0, q1, q2, ql]; try rfl) rfl ⟨y, by rw [HE.out.1], by rw [HE.out.2], ?_⟩
    have hb := HB.out
    (repeat' (first | (with_reducible exact Below.refl _ _) | (with_reducible assumption) | (with_reducible refine Below.setCell ?_ ?_ _) | (with_reducible refine Below.alloc ?_ ?_ _) | (with_reducible refine below_drewN ?_ _) | (with_reducible refine Below.drew ?_) | (with_reducible exact Nat.le_refl _) | omega | (simp; done) | (simp; omega)))
  have hn2 : ¬ (n : Int) = 1 := by omega
  have hn3 : ¬ 1 = n := by omega
  have hn4 : ¬ n - 1 = 0 := by omega
  have hn5 : ¬ N = 0 := by have := HNN.out; omega
  go_wp2
  clear hn2 hn3 hn4 hn5 s2
  go_loopw [26] (fun i wr => ∃ k : Nat, k ≤ N ∧ i = .int .i64 k ∧ Hid (∃ y : Nat, fv y = (bsO ls sp k).2 ∧ wr.heap[K]? = some (.cells #[.int .i64 0, .int .i64 ((bsO ls sp k).1 : Nat), .float .f64 y] 57) ∧ wr.heap[w.heap.size]? = some (.cells #[.int .i64 0, .int .i64 0, .float .f64 0] 57) ∧ Below w.heap.size w wr)) (fun i _ => N - (intOf i).toNat)
  case atStart => exact ⟨0, Nat.zero_le _, rfl, y, HYB.out.2, HV0.out.2.2, HV0.out.2.1, HV0.out.1⟩
  case round =>
    clear HV0
    obtain ⟨k, hk, rfl, hR⟩ := hrel
    obtain ⟨y, hy, hbk, hrs, hbl⟩ := hR.out
    obtain ⟨A, hA⟩ : ∃ A : Nat, A = (bsO ls sp k).1 := ⟨_, rfl⟩
    rw [← hA] at hbk
    have HR : Hid (fv y = (bsO ls sp k).2 ∧ wr.heap[K]? = some (.cells #[.int .i64 0, .int .i64 A, .float .f64 y] 57) ∧ wr.heap[w.heap.size]? = some (.cells #[.int .i64 0, .int .i64 0, .float .f64 0] 57) ∧ Below w.heap.size w wr ∧ A = (bsO ls sp k).1) := ⟨hy, hbk, hrs, hbl, hA⟩
    clear hy hbk hrs hbl hA hR
    have hNn := HNN.out
    by_cases hlt : k < N
    · obtain ⟨g, o, ua, un, uc, ha, hg, c0, hun, hrd⟩ := (H.out.1.below HR.out.2.2.2.1).at (show k + 1 < n by omega)
      injection ha with ha
      injection ha with ha1 ha2
      subst ha1 ha2
      rw [Nat.zero_add, Nat.add_comm] at c0
      have HRK : Hid (RFl wr (.slice ua un uc) (ls.getD (k + 1) [])) := hrd
      have b0 : (0 : Int) ≤ (k : Int) := by omega
      have b1 : (k : Int) < (N : Int) := by omega
      have b2 : k + 1 < n := by omega
      clear hun hrd hNn
      go_wp2_with (fail)
      refine (HMS.out _ (k + 1) ua un uc (HLN.out (k + 1) b2) HRK.out (H.out.2.1.below HR.out.2.2.2.1)).mono ?_
      rintro e w4 ⟨x, rfl, hx, hb4⟩
      have HW4 : Hid (w4.heap[K]? = some (.cells #[.int .i64 0, .int .i64 A, .float .f64 y] 57) ∧ w4.heap[w.heap.size]? = some (.cells #[.int .i64 0, .int .i64 0, .float .f64 0] 57) ∧ Below w.heap.size w w4) := ⟨(hb4.block _ (ltOf HR.out.2.1)).trans HR.out.2.1, (hb4.block _ (ltOf HR.out.2.2.1)).trans HR.out.2.2.1, HR.out.2.2.2.1.trans (hb4.mono HR.out.2.2.2.1.size)⟩
      have HX : Hid (fv x = msO (ls.getD (k + 1) []) sp) := hx
      clear hb4 hx c0 hg HRK
      obtain ⟨q0, q1, q2, f0, f1, f2, ql⟩ := three_m HW4.out.1
      obtain ⟨B, hB⟩ : ∃ B, B = lessO (fv x) (fv y) := ⟨_, rfl⟩
      have HLE : Hid (∀ W, Calls Try.prog 59 #[.float .f64 x, .float .f64 y] W fun e w' => e = .returned (.bool B) ∧ w' = W) := fun W => by rw [hB]; exact impl_less x y W
      have HBB : Hid (bsO ls sp (k + 1) = if B then (k + 1, msO (ls.getD (k + 1) []) sp) else bsO ls sp k) := by unfold Hid; rw [bsO, hB, HX.out, HR.out.1]
      clear hB
      have e2 : IntKind.i64.wrap ((k : Int) + 1) = ((k + 1 : Nat) : Int) := by rw [IntKind.wrap_i64]; omega
      have hKne : Hid (w.heap.size ≠ K) := by have := HYB.out.1; unfold Hid; omega
      cases B
      · simp only [Bool.false_eq_true, if_false] at HBB
        have HP : Hid (∃ y : Nat, fv y = (bsO ls sp (k + 1)).2 ∧ w4.heap[K]? = some (.cells #[.int .i64 0, .int .i64 ((bsO ls sp (k + 1)).1 : Nat), .float .f64 y] 57) ∧ w4.heap[w.heap.size]? = some (.cells #[.int .i64 0, .int .i64 0, .float .f64 0] 57) ∧ Below w.heap.size w w4) := by
          refine ⟨y, ?_, ?_, HW4.out.2.1, HW4.out.2.2⟩
          · rw [HBB.out]; exact HR.out.1
          · rw [HBB.out, ← HR.out.2.2.2.2]; exact HW4.out.1
        go_wp2_with (fail)
        refine (HLE.out _).mono ?_
        rintro e w3 ⟨rfl, hw3⟩
        subst w3
        clear HLE
        go_wp2
        go_roundw
        case rel => exact ⟨k + 1, by omega, by go_num, HP.out⟩
        case measure => simp [intOf]; omega
      · simp only [if_true] at HBB
        have HP : Hid (∃ y : Nat, fv y = (bsO ls sp (k + 1)).2 ∧ (((w4.setCell ⟨K, 0, none⟩ (.int .i64 0)).setCell ⟨K, 1, none⟩ (.int .i64 ((k + 1 : Nat) : Int))).setCell ⟨K, 2, none⟩ (.float .f64 x)).heap[K]? = some (.cells #[.int .i64 0, .int .i64 ((bsO ls sp (k + 1)).1 : Nat), .float .f64 y] 57) ∧ (((w4.setCell ⟨K, 0, none⟩ (.int .i64 0)).setCell ⟨K, 1, none⟩ (.int .i64 ((k + 1 : Nat) : Int))).setCell ⟨K, 2, none⟩ (.float .f64 x)).heap[w.heap.size]? = some (.cells #[.int .i64 0, .int .i64 0, .float .f64 0] 57) ∧ Below w.heap.size w (((w4.setCell ⟨K, 0, none⟩ (.int .i64 0)).setCell ⟨K, 1, none⟩ (.int .i64 ((k + 1 : Nat) : Int))).setCell ⟨K, 2, none⟩ (.float .f64 x))) := by
          refine ⟨x, ?_, ?_, ?_, ?_⟩
          · rw [HBB.out]; exact HX.out
          · rw [HBB.out]
            have t1 := heap_setCell_same w4 K 0 _ _ (.int .i64 0) HW4.out.1
            have t2 := heap_setCell_same _ K 1 _ _ (.int .i64 ((k + 1 : Nat) : Int)) t1
            have t3 := heap_setCell_same _ K 2 _ _ (.float .f64 x) t2
            exact t3
          · rw [heap_setCell_other _ _ _ _ (by exact hKne.out), heap_setCell_other _ _ _ _ (by exact hKne.out), heap_setCell_other _ _ _ _ (by exact hKne.out)]
            exact HW4.out.2.1
          · have hle : w.heap.size ≤ K := by have := HYB.out.1; omega
            exact ((HW4.out.2.2.setCell (p := ⟨K, 0, none⟩) hle _).setCell (p := ⟨K, 1, none⟩) hle _).setCell (p := ⟨K, 2, none⟩) hle _
        go_wp2_with (fail)
        refine (HLE.out _).mono ?_
        rintro e w3 ⟨rfl, hw3⟩
        subst w3
        clear HLE
        go_wp2
        go_roundw
        case rel => exact ⟨k + 1, by omega, by go_num, HP.out⟩
        case measure => simp [intOf]; omega
    · have HE : Hid (mxN ls sp = (A : Int) ∧ mxV ls sp = fv y) := by
        rw [show n - 1 = k by omega] at HV
        exact ⟨by rw [HV.out.1, ← HR.out.2.2.2.2], by rw [HV.out.2, HR.out.1]⟩
      obtain ⟨k0, k1, k2, j0, j1, j2, kl⟩ := three_m HR.out.2.1
      obtain ⟨q0, q1, q2, f0, f1, f2, ql⟩ := three_m HR.out.2.2.1
      have HB : Hid (Below w.heap.size w wr) := HR.out.2.2.2.1
      clear hNn
      go_wp2
      try simp only [Exit.inBlock, Exit.then]
      refine bodyPost_ret (by simp [results, Try.results34, go_sem, q0, q1, q2, ql]; try rfl) rfl ⟨y, by rw [HE.out.1], by rw [HE.out.2], ?_⟩
      have hb := HB.out
      (repeat' (first | (with_reducible exact Below.refl _ _) | (with_reducible assumption) | (with_reducible refine Below.setCell ?_ ?_ _) | (with_reducible refine Below.alloc ?_ ?_ _) | (with_reducible refine below_drewN ?_ _) | (with_reducible refine Below.drew ?_) | (with_reducible exact Nat.le_refl _) | omega | (simp; done) | (simp; omega)))

end Go.Proofs.Ytgjdcdhdfhkfcaa
