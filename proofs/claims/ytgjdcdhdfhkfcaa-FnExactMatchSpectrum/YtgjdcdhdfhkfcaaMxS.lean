/- Proved here: MatchSpectrum of the model: mxC, mxN, mxV. -/
import Derived.Test.YtgjdcdhdfhkfcaaMxH
import Derived.Test.YtgjdcdhdfhkfcaaMxQ
import Derived.Deep.DeepCutAuto
namespace Go.Proofs.Ytgjdcdhdfhkfcaa
open Go.RowKit
set_option linter.unusedVariables false
set_option linter.unusedSimpArgs false

set_option maxRecDepth 20000 in
set_option maxHeartbeats 12800000 in
theorem spec_match {w : World} {g1 g2 : Nat} {ls : List (List Nat)} {sp : List Nat} (hn : SmL ls) (hm : sp.length ≤ 1048576) (h : RsL w (.slice (some ⟨g1, 0, none⟩) ls.length ls.length) ls) (h2 : RFl w (.slice (some ⟨g2, 0, none⟩) sp.length sp.length) sp) :
    Calls Try.prog 33 #[.slice (some ⟨g1, 0, none⟩) ls.length ls.length, .slice (some ⟨g2, 0, none⟩) sp.length sp.length] w fun e w' => ∃ y, e = .returned (.agg #[.int .i64 (mxC ls sp), .int .i64 (mxN ls sp), .float .f64 y]) ∧ fv y = mxV ls sp ∧ Below w.heap.size w w' := by
  obtain ⟨n, hnn⟩ : ∃ n, n = ls.length := ⟨_, rfl⟩
  obtain ⟨m, hmm⟩ : ∃ m, m = sp.length := ⟨_, rfl⟩
  obtain ⟨C, hC⟩ : ∃ C, C = mxC ls sp := ⟨_, rfl⟩
  have hn' : n ≤ 1048576 := by rw [hnn]; exact hn.len
  have H : Hid (RsL w (.slice (some ⟨g1, 0, none⟩) n n) ls ∧ RFl w (.slice (some ⟨g2, 0, none⟩) m m) sp ∧ n = ls.length ∧ m = sp.length ∧ SmL ls ∧ C = mxC ls sp ∧ C = if 20 < n ∨ 200 < m then 2 else if n = 0 then 4 else if lnF ls sp then 0 else 1) := ⟨by rw [hnn]; exact h, by rw [hmm]; exact h2, hnn, hmm, hn, hC, by rw [hC, mxC, hnn, hmm]⟩
  have HMS : Hid (∀ (W : World) (j : Nat) (ua : Option Addr) (un uc : Nat), (ls.getD j []).length = m → RFl W (.slice ua un uc) (ls.getD j []) → RFl W (.slice (some ⟨g2, 0, none⟩) m m) sp → Calls Try.prog 56 #[.slice ua un uc, .slice (some ⟨g2, 0, none⟩) m m] W fun e w' => ∃ y, e = .returned (.float .f64 y) ∧ fv y = msO (ls.getD j []) sp ∧ Below W.heap.size W w') := fun W j ua un uc hl hr1 hr2 => spec_miss (H.out.2.2.2.2.1.row j) (by rw [hl]; exact H.out.2.2.2.1.symm) hr1 hr2
  rw [← hnn, ← hmm, ← hC]
  rw [← hmm] at hm
  clear h h2 hnn hmm hC hn
  by_cases c1 : (20 : Int) < (n : Int)
  · have HC : Hid (C = 2 ∧ mxN ls sp = 0 ∧ mxV ls sp = some 0) := by
      have e : C = 2 := by rw [H.out.2.2.2.2.2.2, if_pos (.inl (by omega))]
      have e2 : mxC ls sp = 2 := by rw [← H.out.2.2.2.2.2.1]; exact e
      exact ⟨e, by rw [mxN, e2, if_neg (by decide)], by rw [mxV, e2, if_neg (by decide)]⟩
    
    clear H HMS
    go_enter Try.func33, Try.ntmps33
    go_wp2
    go_returns
    exact ⟨0, by rw [HC.out.1, HC.out.2.1], by rw [HC.out.2.2]; decide, by (repeat' (first | (with_reducible exact Below.refl _ _) | (with_reducible assumption) | (with_reducible refine Below.setCell ?_ ?_ _) | (with_reducible refine Below.alloc ?_ ?_ _) | (with_reducible refine below_drewN ?_ _) | (with_reducible refine Below.drew ?_) | (with_reducible exact Nat.le_refl _) | omega | (simp; done) | (simp; omega)))⟩
  by_cases c2 : (200 : Int) < (m : Int)
  · have HC : Hid (C = 2 ∧ mxN ls sp = 0 ∧ mxV ls sp = some 0) := by
      have e : C = 2 := by rw [H.out.2.2.2.2.2.2, if_pos (.inr (by omega))]
      have e2 : mxC ls sp = 2 := by rw [← H.out.2.2.2.2.2.1]; exact e
      exact ⟨e, by rw [mxN, e2, if_neg (by decide)], by rw [mxV, e2, if_neg (by decide)]⟩
    
    clear H HMS
    go_enter Try.func33, Try.ntmps33
    go_wp2
    go_returns
    exact ⟨0, by rw [HC.out.1, HC.out.2.1], by rw [HC.out.2.2]; decide, by (repeat' (first | (with_reducible exact Below.refl _ _) | (with_reducible assumption) | (with_reducible refine Below.setCell ?_ ?_ _) | (with_reducible refine Below.alloc ?_ ?_ _) | (with_reducible refine below_drewN ?_ _) | (with_reducible refine Below.drew ?_) | (with_reducible exact Nat.le_refl _) | omega | (simp; done) | (simp; omega)))⟩
  by_cases c3 : n = 0
  · have HC : Hid (C = 4 ∧ mxN ls sp = 0 ∧ mxV ls sp = some 0) := by
      have e : C = 4 := by rw [H.out.2.2.2.2.2.2, if_neg (by omega), if_pos c3]
      have e2 : mxC ls sp = 4 := by rw [← H.out.2.2.2.2.2.1]; exact e
      exact ⟨e, by rw [mxN, e2, if_neg (by decide)], by rw [mxV, e2, if_neg (by decide)]⟩
    subst c3
    clear H HMS
    go_enter Try.func33, Try.ntmps33
    go_wp2
    go_returns
    exact ⟨0, by rw [HC.out.1, HC.out.2.1], by rw [HC.out.2.2]; decide, by (repeat' (first | (with_reducible exact Below.refl _ _) | (with_reducible assumption) | (with_reducible refine Below.setCell ?_ ?_ _) | (with_reducible refine Below.alloc ?_ ?_ _) | (with_reducible refine below_drewN ?_ _) | (with_reducible refine Below.drew ?_) | (with_reducible exact Nat.le_refl _) | omega | (simp; done) | (simp; omega)))⟩
  have c3' : ((n : Int) == 0) = false := by simp; omega
  have c3'' : ¬ (n : Int) = 0 := by omega
  have hnb : 0 < n ∧ n ≤ 20 := by omega
  obtain ⟨W0, hW0⟩ : ∃ W, W = w.alloc (.cells #[.int .i64 0, .int .i64 0, .float .f64 0] 57) := ⟨_, rfl⟩
  have HW0 : Hid (Below w.heap.size w W0 ∧ W0.heap[w.heap.size]? = some (.cells #[.int .i64 0, .int .i64 0, .float .f64 0] 57)) := by
    rw [hW0]; exact ⟨by (repeat' (first | (with_reducible exact Below.refl _ _) | (with_reducible assumption) | (with_reducible refine Below.setCell ?_ ?_ _) | (with_reducible refine Below.alloc ?_ ?_ _) | (with_reducible refine below_drewN ?_ _) | (with_reducible refine Below.drew ?_) | (with_reducible exact Nat.le_refl _) | omega | (simp; done) | (simp; omega))), heap_alloc_new _ _⟩
  go_enter Try.func33, Try.ntmps33
  go_wp2
  rw [← hW0]
  clear hW0
  go_loopw [5] (fun i wr => ∃ k : Nat, k ≤ n ∧ i = .int .i64 k ∧ wr = W0 ∧ Hid (∀ j, j < k → (ls.getD j []).length = m)) (fun i _ => n - (intOf i).toNat)
  case atStart => exact ⟨0, Nat.zero_le _, rfl, rfl, fun j hj => absurd hj (Nat.not_lt_zero _)⟩
  case round =>
    obtain ⟨k, hk, rfl, rfl, hR⟩ := hrel
    by_cases hlt : k < n
    · obtain ⟨g, o, ua, un, uc, ha, hg, c0, hun, hrd⟩ := (H.out.1.below HW0.out.1).at hlt
      injection ha with ha
      injection ha with ha1 ha2
      subst ha1 ha2
      rw [Nat.zero_add] at c0
      have hub : un ≤ 1048576 := by rw [hun]; exact H.out.2.2.2.2.1.row k
      have HU : Hid (un = (ls.getD k []).length) := hun
      clear hun hrd
      have b0 : (0 : Int) ≤ (k : Int) := by omega
      have b1 : (k : Int) < (n : Int) := by omega
      by_cases hc : (un : Int) = (m : Int)
      · have hq : ((un : Int) != (m : Int)) = false := by simpa using hc
        have HS : Hid (∀ j, j < k + 1 → (ls.getD j []).length = m) := fun j hj => by
          by_cases hjk : j = k
          · subst hjk; rw [← HU.out]; omega
          · exact hR.out j (by omega)
        clear hR
        go_wp2
        go_roundw
        case rel => exact ⟨k + 1, by omega, by go_num, by first | rfl | trivial, HS.out⟩
        case measure => simp [intOf]; omega
      · have hq : ((un : Int) != (m : Int)) = true := by simpa using hc
        have HX : Hid (C = 1 ∧ mxN ls sp = 0 ∧ mxV ls sp = some 0) := by
          have e : C = 1 := by
            rw [H.out.2.2.2.2.2.2, if_neg (by omega), if_neg (by omega), if_neg]
            intro h3
            have := h3 k (by rw [← H.out.2.2.1]; exact hlt)
            rw [← HU.out, ← H.out.2.2.2.1] at this
            omega
          have e2 : mxC ls sp = 1 := by rw [← H.out.2.2.2.2.2.1]; exact e
          exact ⟨e, by rw [mxN, e2, if_neg (by decide)], by rw [mxV, e2, if_neg (by decide)]⟩
        obtain ⟨q0, q1, q2, f0, f1, f2, ql⟩ := three_m HW0.out.2
        clear hR
        go_wp2
        try simp only [Exit.inBlock, Exit.then]
        refine bodyPost_ret (by simp [results, Try.results33, go_sem, q0, q1, q2, ql]; try rfl) rfl ⟨0, by rw [HX.out.1, HX.out.2.1], by rw [HX.out.2.2]; decide, ?_⟩
        have hb := HW0.out.1
        (repeat' (first | (with_reducible exact Below.refl _ _) | (with_reducible assumption) | (with_reducible refine Below.setCell ?_ ?_ _) | (with_reducible refine Below.alloc ?_ ?_ _) | (with_reducible refine below_drewN ?_ _) | (with_reducible refine Below.drew ?_) | (with_reducible exact Nat.le_refl _) | omega | (simp; done) | (simp; omega)))
    · have HLN : Hid (∀ j, j < n → (ls.getD j []).length = m) := fun j hj => hR.out j (by omega)
      have HC0 : Hid (C = 0 ∧ mxN ls sp = ((bsO ls sp (n - 1)).1 : Int) ∧ mxV ls sp = (bsO ls sp (n - 1)).2) := by
        have e : C = 0 := by
          rw [H.out.2.2.2.2.2.2, if_neg (by omega), if_neg (by omega), if_pos]
          intro i hi
          rw [HLN.out i (by rw [H.out.2.2.1]; exact hi), H.out.2.2.2.1]
        have e2 : mxC ls sp = 0 := by rw [← H.out.2.2.2.2.2.1]; exact e
        exact ⟨e, by rw [mxN, e2, if_pos rfl, H.out.2.2.1], by rw [mxV, e2, if_pos rfl, H.out.2.2.1]⟩
      have bk : ¬ (k : Int) < (n : Int) := by omega
      clear hR
      obtain ⟨g, o, ua, un, uc, ha, hg, c0, hun, hrd⟩ := (H.out.1.below HW0.out.1).at hnb.1
      injection ha with ha
      injection ha with ha1 ha2
      subst ha1 ha2
      rw [Nat.zero_add] at c0
      have b10 : (0 : Int) < (n : Int) := by omega
      have HR0 : Hid (RFl wr (.slice ua un uc) (ls.getD 0 [])) := hrd
      clear hun hrd hlt
      go_wp2_with (fail)
      refine (HMS.out _ 0 ua un uc (HLN.out 0 hnb.1) HR0.out (H.out.2.1.below HW0.out.1)).mono ?_
      rintro e w2 ⟨y, rfl, hy, hb⟩
      obtain ⟨K, hK⟩ : ∃ K, K = w2.heap.size := ⟨_, rfl⟩
      have HB2 : Hid (Below w.heap.size w w2 ∧ w2.heap[w.heap.size]? = some (.cells #[.int .i64 0, .int .i64 0, .float .f64 0] 57) ∧ w.heap.size < K ∧ fv y = (bsO ls sp 0).2 ∧ K = w2.heap.size) := ⟨HW0.out.1.trans (hb.mono HW0.out.1.size), (hb.block _ (ltOf HW0.out.2)).trans HW0.out.2, by rw [hK]; exact Nat.lt_of_lt_of_le (ltOf HW0.out.2) hb.size, hy, hK⟩
      clear hb hy c0 HR0 hg bk
      go_upto_region 11 with fail
      obtain ⟨V, hV⟩ : ∃ V, V = w2.alloc (.cells #[.int .i64 0, .int .i64 0, .float .f64 y] 57) := ⟨_, rfl⟩
      rw [← hV, ← hK]
      have HV0 : Hid (Below w.heap.size w V ∧ V.heap[w.heap.size]? = some (.cells #[.int .i64 0, .int .i64 0, .float .f64 0] 57) ∧ V.heap[K]? = some (.cells #[.int .i64 0, .int .i64 0, .float .f64 y] 57)) := by
        refine ⟨?_, ?_, ?_⟩
        · rw [hV]; exact HB2.out.1.alloc HB2.out.1.size _
        · rw [hV]; exact ((Below.refl w2.heap.size w2).alloc (Nat.le_refl _) _).block _ (by have := HB2.out.2.2; omega) |>.trans HB2.out.2.1
        · rw [hV, hK]; exact heap_alloc_new _ _
      have HYB : Hid (w.heap.size < K ∧ fv y = (bsO ls sp 0).2) := ⟨HB2.out.2.2.1, HB2.out.2.2.2.1⟩
      clear hV hK HB2 HW0
      go_wp2
      go_loopw [7] (fun i wr => ∃ k k1 : Nat, k + 1 ≤ n ∧ i = .int .i64 k1 ∧ Hid (k1 = k + 1 ∧ ∃ y : Nat, fv y = (bsO ls sp k).2 ∧ wr.heap[K]? = some (.cells #[.int .i64 0, .int .i64 ((bsO ls sp k).1 : Nat), .float .f64 y] 57) ∧ wr.heap[w.heap.size]? = some (.cells #[.int .i64 0, .int .i64 0, .float .f64 0] 57) ∧ Below w.heap.size w wr)) (fun i _ => n - (intOf i).toNat)
      case atStart => exact ⟨0, 1, by omega, rfl, rfl, y, HYB.out.2, HV0.out.2.2, HV0.out.2.1, HV0.out.1⟩
      case round =>
        clear HV0
        obtain ⟨k, k1, hk, rfl, hR⟩ := hrel
        have hkk := hR.out.1
        obtain ⟨y, hy, hbk, hrs, hbl⟩ := hR.out.2
        obtain ⟨A, hA⟩ : ∃ A : Nat, A = (bsO ls sp k).1 := ⟨_, rfl⟩
        rw [← hA] at hbk
        have HR : Hid (fv y = (bsO ls sp k).2 ∧ wr.heap[K]? = some (.cells #[.int .i64 0, .int .i64 A, .float .f64 y] 57) ∧ wr.heap[w.heap.size]? = some (.cells #[.int .i64 0, .int .i64 0, .float .f64 0] 57) ∧ Below w.heap.size w wr ∧ A = (bsO ls sp k).1) := ⟨hy, hbk, hrs, hbl, hA⟩
        clear hy hbk hrs hbl hA hR
        by_cases hlt : k1 < n
        · obtain ⟨g, o, ua, un, uc, ha, hg, c0, hun, hrd⟩ := (H.out.1.below HR.out.2.2.2.1).at hlt
          injection ha with ha
          injection ha with ha1 ha2
          subst ha1 ha2
          rw [Nat.zero_add] at c0
          have HRK : Hid (RFl wr (.slice ua un uc) (ls.getD k1 []) ∧ k1 = k + 1) := ⟨hrd, hkk⟩
          have b0 : (0 : Int) ≤ (k1 : Int) := by omega
          have b1 : (k1 : Int) < (n : Int) := by omega
          clear hun hrd hkk
          go_wp2_with (fail)
          refine (HMS.out _ k1 ua un uc (HLN.out k1 hlt) HRK.out.1 (H.out.2.1.below HR.out.2.2.2.1)).mono ?_
          rintro e w4 ⟨x, rfl, hx, hb4⟩
          have HW4 : Hid (w4.heap[K]? = some (.cells #[.int .i64 0, .int .i64 A, .float .f64 y] 57) ∧ w4.heap[w.heap.size]? = some (.cells #[.int .i64 0, .int .i64 0, .float .f64 0] 57) ∧ Below w.heap.size w w4) := ⟨(hb4.block _ (ltOf HR.out.2.1)).trans HR.out.2.1, (hb4.block _ (ltOf HR.out.2.2.1)).trans HR.out.2.2.1, HR.out.2.2.2.1.trans (hb4.mono HR.out.2.2.2.1.size)⟩
          have HX : Hid (fv x = msO (ls.getD (k + 1) []) sp) := by unfold Hid; rw [← HRK.out.2]; exact hx
          clear hb4 hx c0 hg
          obtain ⟨q0, q1, q2, f0, f1, f2, ql⟩ := three_m HW4.out.1
          obtain ⟨B, hB⟩ : ∃ B, B = lessO (fv x) (fv y) := ⟨_, rfl⟩
          have HBB : Hid (bsO ls sp (k + 1) = if B then (k + 1, msO (ls.getD (k + 1) []) sp) else bsO ls sp k) := by unfold Hid; rw [bsO, hB, HX.out, HR.out.1]
          have HLO : Hid (B = (decide (ltF x y) || ((fv y).isNone && !(fv x).isNone))) := by unfold Hid; rw [hB]; exact less_ord x y
          have HNX : Hid (∀ W, Calls Try.prog 50 #[.float .f64 x] W fun e w' => e = .returned (.bool (fv x).isNone) ∧ w' = W) := fun W => spec_isNaN x W
          have HNY : Hid (∀ W, Calls Try.prog 50 #[.float .f64 y] W fun e w' => e = .returned (.bool (fv y).isNone) ∧ w' = W) := fun W => spec_isNaN y W
          clear hB
          have hKne : Hid (w.heap.size ≠ K) := by have := HYB.out.1; unfold Hid; omega
          have HPF : Hid (B = false → ∃ y : Nat, fv y = (bsO ls sp (k + 1)).2 ∧ w4.heap[K]? = some (.cells #[.int .i64 0, .int .i64 ((bsO ls sp (k + 1)).1 : Nat), .float .f64 y] 57) ∧ w4.heap[w.heap.size]? = some (.cells #[.int .i64 0, .int .i64 0, .float .f64 0] 57) ∧ Below w.heap.size w w4) := fun hBf => by
            have h9 := HBB.out
            rw [hBf] at h9
            simp only [Bool.false_eq_true, if_false] at h9
            refine ⟨y, ?_, ?_, HW4.out.2.1, HW4.out.2.2⟩
            · rw [h9]; exact HR.out.1
            · rw [h9, ← HR.out.2.2.2.2]; exact HW4.out.1
          have HPT : Hid (B = true → ∃ y : Nat, fv y = (bsO ls sp (k + 1)).2 ∧ ((w4.setCell ⟨K, 1, none⟩ (.int .i64 (k1 : Int))).setCell ⟨K, 2, none⟩ (.float .f64 x)).heap[K]? = some (.cells #[.int .i64 0, .int .i64 ((bsO ls sp (k + 1)).1 : Nat), .float .f64 y] 57) ∧ ((w4.setCell ⟨K, 1, none⟩ (.int .i64 (k1 : Int))).setCell ⟨K, 2, none⟩ (.float .f64 x)).heap[w.heap.size]? = some (.cells #[.int .i64 0, .int .i64 0, .float .f64 0] 57) ∧ Below w.heap.size w ((w4.setCell ⟨K, 1, none⟩ (.int .i64 (k1 : Int))).setCell ⟨K, 2, none⟩ (.float .f64 x))) := fun hBt => by
            have h9 := HBB.out
            rw [hBt] at h9
            simp only [if_true] at h9
            refine ⟨x, ?_, ?_, ?_, ?_⟩
            · rw [h9]; exact HX.out
            · rw [h9]
              have t2 := heap_setCell_same _ K 1 _ _ (.int .i64 (k1 : Int)) HW4.out.1
              have t3 := heap_setCell_same _ K 2 _ _ (.float .f64 x) t2
              rw [HRK.out.2] at t3 ⊢
              exact t3
            · rw [heap_setCell_other _ _ _ _ (by exact hKne.out), heap_setCell_other _ _ _ _ (by exact hKne.out)]
              exact HW4.out.2.1
            · have hle : w.heap.size ≤ K := by have := HYB.out.1; omega
              exact (HW4.out.2.2.setCell (p := ⟨K, 1, none⟩) hle _).setCell (p := ⟨K, 2, none⟩) hle _
          have HKK : Hid (k1 = k + 1) := HRK.out.2
          clear HRK HBB HX HR
          by_cases hc : ltF x y
          · have qo : (FloatKind.f64.format.order x y == some .lt) = true := by rw [ord_lt, decide_eq_true hc]
            have HP := HPT.out (by rw [HLO.out, decide_eq_true hc]; rfl)
            have HP2 : Hid _ := HP
            clear HP hc HPT HPF HLO
            go_wp2
            go_roundw
            case rel => exact ⟨k + 1, k1 + 1, by have := HKK.out; omega, by go_num, by have := HKK.out; omega, HP2.out⟩
            case measure => simp [intOf]; omega
          · have qo : (FloatKind.f64.format.order x y == some .lt) = false := by rw [ord_lt, decide_eq_false hc]
            cases e1 : (fv y).isNone
            · have HP2 : Hid _ := HPF.out (by rw [HLO.out, decide_eq_false hc, e1]; rfl)
              rw [e1] at HNY
              clear hc HPT HPF HLO e1
              go_wp2_with (fail)
              refine (HNY.out _).mono ?_
              rintro e w3 ⟨rfl, hw3⟩
              subst w3
              go_wp2
              go_roundw
              case rel => exact ⟨k + 1, k1 + 1, by have := HKK.out; omega, by go_num, by have := HKK.out; omega, HP2.out⟩
              case measure => simp [intOf]; omega
            · rw [e1] at HNY
              cases e2 : (fv x).isNone
              · have HP2 : Hid _ := HPT.out (by rw [HLO.out, decide_eq_false hc, e1, e2]; rfl)
                rw [e2] at HNX
                clear hc HPT HPF HLO e1 e2
                go_wp2_with (fail)
                refine (HNY.out _).mono ?_
                rintro e w3 ⟨rfl, hw3⟩
                subst w3
                go_wp2_with (fail)
                refine (HNX.out _).mono ?_
                rintro e w3 ⟨rfl, hw3⟩
                subst w3
                go_wp2
                go_roundw
                case rel => exact ⟨k + 1, k1 + 1, by have := HKK.out; omega, by go_num, by have := HKK.out; omega, HP2.out⟩
                case measure => simp [intOf]; omega
              · have HP2 : Hid _ := HPF.out (by rw [HLO.out, decide_eq_false hc, e1, e2]; rfl)
                rw [e2] at HNX
                clear hc HPT HPF HLO e1 e2
                go_wp2_with (fail)
                refine (HNY.out _).mono ?_
                rintro e w3 ⟨rfl, hw3⟩
                subst w3
                go_wp2_with (fail)
                refine (HNX.out _).mono ?_
                rintro e w3 ⟨rfl, hw3⟩
                subst w3
                go_wp2
                go_roundw
                case rel => exact ⟨k + 1, k1 + 1, by have := HKK.out; omega, by go_num, by have := HKK.out; omega, HP2.out⟩
                case measure => simp [intOf]; omega
        · have HE : Hid (C = 0 ∧ mxN ls sp = (A : Int) ∧ mxV ls sp = fv y) := by
            rw [show n - 1 = k by omega] at HC0
            exact ⟨HC0.out.1, by rw [HC0.out.2.1, ← HR.out.2.2.2.2], by rw [HC0.out.2.2, HR.out.1]⟩
          obtain ⟨k0, k1', k2, j0, j1, j2, kl⟩ := three_m HR.out.2.1
          obtain ⟨q0, q1, q2, f0, f1, f2, ql⟩ := three_m HR.out.2.2.1
          have HB : Hid (Below w.heap.size w wr) := HR.out.2.2.2.1
          clear hkk
          go_wp2
          try simp only [Exit.inBlock, Exit.then]
          refine bodyPost_ret (by simp [results, Try.results33, go_sem, q0, q1, q2, ql]; try rfl) rfl ⟨y, by rw [HE.out.1, HE.out.2.1], by rw [HE.out.2.2], ?_⟩
          have hb := HB.out
          (repeat' (first | (with_reducible exact Below.refl _ _) | (with_reducible assumption) | (with_reducible refine Below.setCell ?_ ?_ _) | (with_reducible refine Below.alloc ?_ ?_ _) | (with_reducible refine below_drewN ?_ _) | (with_reducible refine Below.drew ?_) | (with_reducible exact Nat.le_refl _) | omega | (simp; done) | (simp; omega)))

end Go.Proofs.Ytgjdcdhdfhkfcaa
