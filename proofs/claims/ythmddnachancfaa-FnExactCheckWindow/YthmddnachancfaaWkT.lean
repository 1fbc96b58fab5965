/- Proved here: CheckWindow of the model. -/
import Derived.Test.YthmddnachancfaaWkS
import Derived.Test.YthmddnachancfaaWnX
namespace Go.Proofs.Ythmddnachancfaa
open Go.RowKit
set_option linter.unusedVariables false
set_option linter.unusedSimpArgs false

set_option maxRecDepth 10000 in
set_option maxHeartbeats 25600000 in
theorem spec_ck (C A x0 y0 x1 y1 : Int) {w : World} {v : Value} {ls : List (List Int)} (hn : SmR ls) (h : RdR w v ls) :
    Calls Try.prog 23 #[v, .agg #[.int .i64 C, .int .i64 A, .int .i64 x0, .int .i64 y0, .int .i64 x1, .int .i64 y1]] w fun e w' => e = .returned (.bool (ckW ls C A x0 y0 x1 y1)) ∧ Below w.heap.size w w' := by
  obtain ⟨a, c, rfl⟩ := h.form
  obtain ⟨n, hnn⟩ : ∃ n, n = ls.length := ⟨_, rfl⟩
  obtain ⟨R, hR⟩ : ∃ R, R = ckW ls C A x0 y0 x1 y1 := ⟨_, rfl⟩
  obtain ⟨D, hD⟩ : ∃ C, C = pmC ls := ⟨_, rfl⟩
  rw [← hR]
  rw [← hnn] at h ⊢
  have HF : Hid (∀ W, Below w.heap.size w W → Calls Try.prog 45 #[.slice a n c] W fun e w' => e = .returned (.int .i64 D) ∧ Below W.heap.size W w') := fun W hW => by rw [hD]; exact spec_pm hn (h.below hW)
  have H : Hid (RdR w (.slice a n c) ls ∧ n = ls.length ∧ R = ckW ls C A x0 y0 x1 y1 ∧ D = pmC ls) := ⟨h, hnn, hR, hD⟩
  clear h hn hnn hR hD
  obtain ⟨V0, hV0⟩ : ∃ V, V = w.alloc (.cells #[.int .i64 C, .int .i64 A, .int .i64 x0, .int .i64 y0, .int .i64 x1, .int .i64 y1] 36) := ⟨_, rfl⟩
  have HV0 : Hid (V0.heap[w.heap.size]? = some (.cells #[.int .i64 C, .int .i64 A, .int .i64 x0, .int .i64 y0, .int .i64 x1, .int .i64 y1] 36) ∧ Below w.heap.size w V0) := by
    rw [hV0]; exact ⟨heap_alloc_new w _, by (repeat' (first | (with_reducible exact Below.refl _ _) | (with_reducible assumption) | (with_reducible refine Below.setCell ?_ ?_ _) | (with_reducible refine Below.alloc ?_ ?_ _) | (with_reducible refine below_drewN ?_ _) | (with_reducible refine Below.drew ?_) | (with_reducible exact Nat.le_refl _) | omega | (simp; done) | (simp; omega)))⟩
  go_enter Try.func23, Try.ntmps23
  go_wp2_with (fail)
  rw [← hV0]
  clear hV0
  refine (HF.out _ HV0.out.2).mono ?_
  rintro e w1 ⟨rfl, hb1⟩
  have HV1 : Hid (w1.heap[w.heap.size]? = some (.cells #[.int .i64 C, .int .i64 A, .int .i64 x0, .int .i64 y0, .int .i64 x1, .int .i64 y1] 36) ∧ Below w.heap.size w w1) := ⟨(hb1.block _ (ltOf HV0.out.1)).trans HV0.out.1, HV0.out.2.trans (hb1.mono HV0.out.2.size)⟩
  clear HF HV0 hb1
  obtain ⟨p0, p1, p2, p3, p4, p5, _, pl⟩ := sixS HV1.out.1
  by_cases hD0 : D = 0
  case neg =>
    obtain rfl : R = false := by rw [H.out.2.2.1]; exact ck_no6 (by rw [← H.out.2.2.2]; exact hD0)
    have hA1 : (D != 0) = true := by simpa using hD0
    go_wp2
    go_returns
    exact ⟨rfl, HV1.out.2⟩
  by_cases hC0 : C = 0
  case neg =>
    obtain rfl : R = false := by rw [H.out.2.2.1]; exact ck_no2 hC0
    have hA1 : (C != 0) = true := by simpa using hC0
    subst hD0
    go_wp2
    go_returns
    exact ⟨rfl, HV1.out.2⟩
  have hpm : pmC ls = 0 := H.out.2.2.2.symm.trans hD0
  have hG := pmC_good hpm
  obtain ⟨wd, hwd⟩ : ∃ n, n = (ls.getD 0 []).length := ⟨_, rfl⟩
  have hn16 : n ≤ 16 := by rw [H.out.2.1]; exact hG.h1
  have hn0 : 0 < n := by rw [H.out.2.1]; exact hG.h0
  have hw16 : wd ≤ 16 := by rw [hwd]; exact hG.w1
  have HC : Hid (C = 0 ∧ pmC ls = 0 ∧ wd = (ls.getD 0 []).length ∧ GG 1 ls) := ⟨hC0, hpm, hwd, hG⟩
  obtain ⟨q, hq⟩ : ∃ q, q = decide (0 ≤ x0 ∧ x0 < x1 ∧ x1 ≤ (wd : Int) ∧ 0 ≤ y0 ∧ y0 < y1 ∧ y1 ≤ (n : Int)) := ⟨_, rfl⟩
  have HIN : Hid (∀ W, Below w.heap.size w W → Calls Try.prog 52 #[.slice a n c, .agg #[.int .i64 x0, .int .i64 y0, .int .i64 x1, .int .i64 y1]] W fun e w' => e = .returned (.bool q) ∧ Below W.heap.size W w') := fun W hW => by
    rw [hq, hwd]; exact spec_within x0 y0 x1 y1 hn0 (by omega) (by rw [← hwd]; omega) (H.out.1.below hW)
  have hC2 : (C != 0) = false := by rw [hC0]; simp
  clear hG hwd hpm hC0
  subst hD0
  go_wp2_with (fail)
  refine (HIN.out _ HV1.out.2).mono ?_
  rintro e w2 ⟨rfl, hb2⟩
  have HV2 : Hid (w2.heap[w.heap.size]? = some (.cells #[.int .i64 C, .int .i64 A, .int .i64 x0, .int .i64 y0, .int .i64 x1, .int .i64 y1] 36) ∧ Below w.heap.size w w2) := ⟨(hb2.block _ (ltOf HV1.out.1)).trans HV1.out.1, HV1.out.2.trans (hb2.mono HV1.out.2.size)⟩
  clear HIN HV1 hb2 p0 p1 p2 p3 p4 p5 pl
  obtain ⟨p0, p1, p2, p3, p4, p5, _, pl⟩ := sixS HV2.out.1
  by_cases hin : 0 ≤ x0 ∧ x0 < x1 ∧ x1 ≤ (wd : Int) ∧ 0 ≤ y0 ∧ y0 < y1 ∧ y1 ≤ (n : Int)
  case neg =>
    obtain rfl : q = false := by rw [hq]; exact decide_eq_false hin
    obtain rfl : R = false := by
      rw [H.out.2.2.1]; refine ck_no4 ?_; rw [← HC.out.2.2.1, ← H.out.2.1]; exact hin
    clear hin hq
    go_wp2
    go_returns
    exact ⟨rfl, HV2.out.2⟩
  obtain rfl : q = true := by rw [hq]; exact decide_eq_true hin
  clear hq
  obtain ⟨S, hSS⟩ : ∃ S, S = (x1 - x0) * (y1 - y0) := ⟨_, rfl⟩
  have hS0 : 0 ≤ S ∧ S ≤ 256 := by
    rw [hSS]
    refine ⟨Int.mul_nonneg (by omega) (by omega), ?_⟩
    have h1 := Int.mul_le_mul (show x1 - x0 ≤ 16 by omega) (show y1 - y0 ≤ 16 by omega) (by omega) (by omega)
    omega
  have e1 : IntKind.i64.wrap (x1 - x0) = x1 - x0 := by rw [IntKind.wrap_i64]; omega
  have e2 : IntKind.i64.wrap (y1 - y0) = y1 - y0 := by rw [IntKind.wrap_i64]; omega
  have e3 : IntKind.i64.wrap ((x1 - x0) * (y1 - y0)) = S := by rw [← hSS, IntKind.wrap_i64]; omega
  obtain ⟨b, hb⟩ : ∃ b, b = lwB ls := ⟨_, rfl⟩
  obtain ⟨T, hT⟩ : ∃ T, T = onN ls x0.toNat (x1.toNat - x0.toNat) y0.toNat (y1.toNat - y0.toNat) := ⟨_, rfl⟩
  have HBST : Hid (∀ W, Below w.heap.size w W → Calls Try.prog 48 #[.slice a n c] W fun e w' => e = .returned (.tuple #[.agg #[.int .i64 b.x0, .int .i64 b.y0, .int .i64 b.x1, .int .i64 b.y1], .int .i64 b.a]) ∧ Below W.heap.size W w') := fun W hW => by
    rw [hb]; exact spec_best HC.out.2.2.2 (H.out.1.below hW)
  have HON : Hid (∀ W, Below w.heap.size w W → Calls Try.prog 53 #[.slice a n c, .agg #[.int .i64 x0, .int .i64 y0, .int .i64 x1, .int .i64 y1]] W fun e w' => e = .returned (.int .i64 T) ∧ Below W.heap.size W w') := fun W hW => by
    rw [hT]
    have := spec_ones x0.toNat y0.toNat x1.toNat y1.toNat HC.out.2.2.2 (by omega) (by rw [← HC.out.2.2.1]; omega) (by omega) (by omega) (H.out.1.below hW)
    rw [show ((x0.toNat : Nat) : Int) = x0 by omega, show ((x1.toNat : Nat) : Int) = x1 by omega, show ((y0.toNat : Nat) : Int) = y0 by omega, show ((y1.toNat : Nat) : Int) = y1 by omega] at this
    exact this
  have HFIN : Hid (R = (decide (S = A) && decide (T = S) && decide (b.a = S))) := by
    unfold Hid
    have hTS : T = S ↔ agB (oneP ls) x0.toNat x1.toNat y0.toNat (y1 - y0).toNat = true := by
      rw [← onN_full HC.out.2.2.2 (by omega), show (y1 - y0).toNat = y1.toNat - y0.toNat by omega, hT, hSS]
      have e5 : x1 - x0 = ((x1.toNat - x0.toNat : Nat) : Int) := by omega
      have e6 : y1 - y0 = ((y1.toNat - y0.toNat : Nat) : Int) := by omega
      rw [e5, e6, Int.mul_comm]
    by_cases h1 : S = A
    · by_cases h2 : b.a = S
      · rw [H.out.2.2.1, HC.out.1, ck_yes HC.out.2.1 (by rw [← HC.out.2.2.1, ← H.out.2.1]; exact hin) (by rw [← h1, hSS]) (by rw [← hb, h2, h1])]
        rw [decide_eq_true h1, decide_eq_true h2]
        by_cases h3 : T = S
        · rw [decide_eq_true h3, hTS.1 h3]; rfl
        · rw [decide_eq_false h3]
          simp only [Bool.and_false, Bool.false_and, Bool.true_and]
          rw [← Bool.not_eq_true]; exact fun e => h3 (hTS.2 e)
      · rw [decide_eq_false h2, Bool.and_false, H.out.2.2.1]
        exact ck_no3 (by rw [← hb, ← h1]; exact fun e => h2 e.symm)
    · rw [decide_eq_false h1, H.out.2.2.1]
      simp only [Bool.false_and]
      exact ck_no5 (by rw [← hSS]; exact fun e => h1 e.symm)
  clear hin hSS hb hT H HC
  go_upto_region 4 with fail
  go_wp2_with (fail)
  refine (HBST.out _ HV2.out.2).mono ?_
  rintro e w3 ⟨rfl, hb3⟩
  have HV3 : Hid (w3.heap[w.heap.size]? = some (.cells #[.int .i64 C, .int .i64 A, .int .i64 x0, .int .i64 y0, .int .i64 x1, .int .i64 y1] 36) ∧ Below w.heap.size w w3) := ⟨(hb3.block _ (ltOf HV2.out.1)).trans HV2.out.1, HV2.out.2.trans (hb3.mono HV2.out.2.size)⟩
  clear HBST HV2 hb3 p0 p1 p2 p3 p4 p5 pl
  go_upto_region 5 with fail
  obtain ⟨U, hU⟩ : ∃ U, U = w3.alloc (.cells #[.int .i64 b.x0, .int .i64 b.y0, .int .i64 b.x1, .int .i64 b.y1] 34) := ⟨_, rfl⟩
  have HU : Hid (U.heap[w.heap.size]? = some (.cells #[.int .i64 C, .int .i64 A, .int .i64 x0, .int .i64 y0, .int .i64 x1, .int .i64 y1] 36) ∧ Below w.heap.size w U) := by
    have hbU : Below w3.heap.size w3 U := by rw [hU]; (repeat' (first | (with_reducible exact Below.refl _ _) | (with_reducible assumption) | (with_reducible refine Below.setCell ?_ ?_ _) | (with_reducible refine Below.alloc ?_ ?_ _) | (with_reducible refine below_drewN ?_ _) | (with_reducible refine Below.drew ?_) | (with_reducible exact Nat.le_refl _) | omega | (simp; done) | (simp; omega)))
    exact ⟨(hbU.block _ (ltOf HV3.out.1)).trans HV3.out.1, HV3.out.2.trans (hbU.mono HV3.out.2.size)⟩
  rw [← hU]
  clear hU HV3
  obtain ⟨p0, p1, p2, p3, p4, p5, _, pl⟩ := sixS HU.out.1
  by_cases h1 : S = A
  case neg =>
    obtain rfl : R = false := by rw [HFIN.out, decide_eq_false h1]; rfl
    have hq1 : (S == A) = false := by simpa using h1
    clear h1
    go_wp2
    go_returns
    exact ⟨rfl, HU.out.2⟩
  have hq1 : (S == A) = true := by simpa using h1
  have HF2 : Hid (R = (decide (T = S) && decide (b.a = S))) := by unfold Hid; rw [HFIN.out, decide_eq_true h1, Bool.true_and]
  clear h1 HFIN
  go_wp2_with (fail)
  refine (HON.out _ HU.out.2).mono ?_
  rintro e w4 ⟨rfl, hb4⟩
  have HB4 : Hid (Below w.heap.size w w4) := HU.out.2.trans (hb4.mono HU.out.2.size)
  clear HON HU hb4 p0 p1 p2 p3 p4 p5 pl
  by_cases h2 : T = S
  case neg =>
    obtain rfl : R = false := by rw [HF2.out, decide_eq_false h2]; rfl
    have hq2 : (T == S) = false := by simpa using h2
    clear h2
    go_wp2
    go_returns
    exact ⟨rfl, HB4.out⟩
  have hq2 : (T == S) = true := by simpa using h2
  have HF3 : Hid (R = (b.a == S)) := by
    unfold Hid; rw [HF2.out, decide_eq_true h2, Bool.true_and]; by_cases e : b.a = S <;> simp [e]
  clear h2 HF2
  go_wp2
  go_returns
  exact ⟨by rw [HF3.out]; rfl, HB4.out⟩

end Go.Proofs.Ythmddnachancfaa
