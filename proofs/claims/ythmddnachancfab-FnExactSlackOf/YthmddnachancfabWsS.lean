/- Proved here: SlackOf of the model. -/
import Derived.Test.YthmddnachancfabWsM
import Derived.Test.YthmddnachancfabWkS
import Derived.Test.YthmddnachancfabGfS
import Derived.Test.YthmddnachancfabMxS
import Derived.Test.YthmddnachancfabInS
import Derived.Deep.DeepCutAuto
namespace Go.Proofs.Ythmddnachancfab
open Go.RowKit
set_option linter.unusedVariables false
set_option linter.unusedSimpArgs false

set_option maxHeartbeats 800000 in
theorem spec_size10 (x : Int) (hx : -10000000 ≤ x ∧ x ≤ 10000000) (w : World) : Calls Try.prog 26 #[.int .i64 x] w fun e w' => e = .returned (.int .i64 (ab10 x)) ∧ w' = w := by
  unfold ab10
  by_cases h : x < 0
  · rw [if_pos h]
    have e1 : IntKind.i64.wrap (-x) = -x := by rw [IntKind.wrap_i64]; omega
    go_enter Try.func26, Try.ntmps26
    go_wp2
    go_returns
    exact ⟨rfl, rfl⟩
  · rw [if_neg h]
    go_enter Try.func26, Try.ntmps26
    go_wp2
    go_returns
    exact ⟨rfl, rfl⟩

set_option maxRecDepth 10000 in
set_option maxHeartbeats 25600000 in
theorem spec_sl (C A x0 y0 x1 y1 want : Int) {w : World} {v : Value} {ls : List (List Int)} (hn : SmR ls) (h : RdC w v ls) :
    Calls Try.prog 10 #[v, .agg #[.int .i64 C, .int .i64 A, .int .i64 x0, .int .i64 y0, .int .i64 x1, .int .i64 y1], .int .i64 want] w fun e w' => e = .returned (.agg #[.int .i64 (slC ls C x0 y0 x1 y1 want), .int .i64 (slV ls C x0 y0 x1 y1 want)]) ∧ Below w.heap.size w w' := by
  obtain ⟨a, c, rfl⟩ := h.1.form
  obtain ⟨n, hnn⟩ : ∃ n, n = ls.length := ⟨_, rfl⟩
  obtain ⟨F, hF⟩ : ∃ C, C = gfC ls 1000000 := ⟨_, rfl⟩
  obtain ⟨D, hD⟩ : ∃ D, D = slC ls C x0 y0 x1 y1 want := ⟨_, rfl⟩
  obtain ⟨E, hE⟩ : ∃ D, D = slV ls C x0 y0 x1 y1 want := ⟨_, rfl⟩
  obtain ⟨wd, hwd⟩ : ∃ n, n = (ls.getD 0 []).length := ⟨_, rfl⟩
  rw [← hD, ← hE]
  have HDE : Hid (D = (if F = 0 then (if C = 0 ∧ (0 ≤ x0 ∧ x0 < x1 ∧ x1 ≤ (wd : Int) ∧ 0 ≤ y0 ∧ y0 < y1 ∧ y1 ≤ (n : Int)) then (if 0 ≤ want ∧ want ≤ 1000000 then 0 else 3) else 1) else F) ∧ E = if D = 0 then slB ls want y0.toNat x0.toNat (x1 - x0).toNat (y1 - y0).toNat else 0) := ⟨by rw [hD, hF, hnn, hwd]; rfl, by rw [hE, hD]; rfl⟩
  rw [← hnn] at h ⊢
  have HF : Hid (∀ W, Below w.heap.size w W → Calls Try.prog 22 #[.slice a n c] W fun e w' => e = .returned (.int .i64 F) ∧ Below W.heap.size W w') := fun W hW => by rw [hF]; exact spec_gf hn (h.1.below hW)
  have H : Hid (RdC w (.slice a n c) ls ∧ n = ls.length ∧ F = gfC ls 1000000 ∧ wd = (ls.getD 0 []).length) := ⟨h, hnn, hF, hwd⟩
  clear h hn hnn hF hD hE hwd
  obtain ⟨V, hV⟩ : ∃ V, V = (w.alloc (.cells #[.int .i64 C, .int .i64 A, .int .i64 x0, .int .i64 y0, .int .i64 x1, .int .i64 y1] 33)).alloc (.cells #[.int .i64 0, .int .i64 0] 40) := ⟨_, rfl⟩
  obtain ⟨k0, k1, hb, hs⟩ := al2 hV
  have HV : Hid (V.heap[w.heap.size]? = some (.cells #[.int .i64 C, .int .i64 A, .int .i64 x0, .int .i64 y0, .int .i64 x1, .int .i64 y1] 33) ∧ V.heap[w.heap.size + 1]? = some (.cells #[.int .i64 0, .int .i64 0] 40) ∧ Below w.heap.size w V) := ⟨k0, k1, hb⟩
  clear k0 k1 hb hs
  go_enter Try.func10, Try.ntmps10
  go_wp2_with (fail)
  rw [← hV]
  clear hV
  refine (HF.out _ HV.out.2.2).mono ?_
  rintro e w1 ⟨rfl, hb1⟩
  have HV1 : Hid (w1.heap[w.heap.size]? = some (.cells #[.int .i64 C, .int .i64 A, .int .i64 x0, .int .i64 y0, .int .i64 x1, .int .i64 y1] 33) ∧ w1.heap[w.heap.size + 1]? = some (.cells #[.int .i64 0, .int .i64 0] 40) ∧ Below w.heap.size w w1) := ⟨(hb1.block _ (ltOf HV.out.1)).trans HV.out.1, (hb1.block _ (ltOf HV.out.2.1)).trans HV.out.2.1, HV.out.2.2.trans (hb1.mono HV.out.2.2.size)⟩
  clear HF HV hb1
  obtain ⟨p0, p1, p2, p3, p4, p5, _, pl⟩ := sixS HV1.out.1
  obtain ⟨q0, q1, qf0, qf1, ql⟩ := two_of HV1.out.2.1
  by_cases hF0 : F = 0
  case neg =>
    have HZ : Hid (D = F ∧ E = 0) := by
      have := HDE.out; rw [if_neg hF0] at this; refine ⟨this.1, ?_⟩; rw [this.2, if_neg (by rw [this.1]; exact hF0)]
    have hA1 : (F != 0) = true := by simpa using hF0
    go_wp2
    try simp only [Exit.inBlock, Exit.then]
    refine bodyPost_ret (by simp [results, Try.results10, go_sem, q0, q1, ql]; try rfl) rfl ⟨by rw [HZ.out.1, HZ.out.2]; try rfl, ?_⟩
    have hb := HV1.out.2.2
    (repeat' (first | (with_reducible exact Below.refl _ _) | (with_reducible assumption) | (with_reducible refine Below.setCell ?_ ?_ _) | (with_reducible refine Below.alloc ?_ ?_ _) | (with_reducible refine below_drewN ?_ _) | (with_reducible refine Below.drew ?_) | (with_reducible exact Nat.le_refl _) | omega | (simp; done) | (simp; omega)))
  have HDE1 : Hid (D = (if C = 0 ∧ (0 ≤ x0 ∧ x0 < x1 ∧ x1 ≤ (wd : Int) ∧ 0 ≤ y0 ∧ y0 < y1 ∧ y1 ≤ (n : Int)) then (if 0 ≤ want ∧ want ≤ 1000000 then 0 else 3) else 1) ∧ E = if D = 0 then slB ls want y0.toNat x0.toNat (x1 - x0).toNat (y1 - y0).toNat else 0) := by
    have := HDE.out; rw [if_pos hF0] at this; exact this
  have hG := gfC_good (H.out.2.2.1.symm.trans hF0)
  have hn16 : n ≤ 16 := by rw [H.out.2.1]; exact hG.h1
  have hn0 : 0 < n := by rw [H.out.2.1]; exact hG.h0
  have hw16 : wd ≤ 16 := by rw [H.out.2.2.2]; exact hG.w1
  have HG : Hid (GG 1000000 ls ∧ Sh n wd ls) := ⟨hG, by have := hG.sh; rw [← H.out.2.1, ← H.out.2.2.2] at this; exact this⟩
  clear HDE hG
  subst hF0
  by_cases hC0 : C = 0
  case neg =>
    have hno : ¬ (C = 0 ∧ (0 ≤ x0 ∧ x0 < x1 ∧ x1 ≤ (wd : Int) ∧ 0 ≤ y0 ∧ y0 < y1 ∧ y1 ≤ (n : Int))) := fun e => hC0 e.1
    have HZ : Hid (D = 1 ∧ E = 0) := by
      have := HDE1.out; rw [if_neg hno] at this; refine ⟨this.1, ?_⟩; rw [this.2, if_neg (by rw [this.1]; decide)]
    have hA1 : (C != 0) = true := by simpa using hC0
    clear hno
    go_wp2
    try simp only [Exit.inBlock, Exit.then]
    refine bodyPost_ret (by simp [results, Try.results10, go_sem, q0, q1, ql]; try rfl) rfl ⟨by rw [HZ.out.1, HZ.out.2]; try rfl, ?_⟩
    have hb := HV1.out.2.2
    (repeat' (first | (with_reducible exact Below.refl _ _) | (with_reducible assumption) | (with_reducible refine Below.setCell ?_ ?_ _) | (with_reducible refine Below.alloc ?_ ?_ _) | (with_reducible refine below_drewN ?_ _) | (with_reducible refine Below.drew ?_) | (with_reducible exact Nat.le_refl _) | omega | (simp; done) | (simp; omega)))
  have hA1 : (C != 0) = false := by rw [hC0]; simp
  obtain ⟨q, hq⟩ : ∃ q, q = decide (0 ≤ x0 ∧ x0 < x1 ∧ x1 ≤ (wd : Int) ∧ 0 ≤ y0 ∧ y0 < y1 ∧ y1 ≤ (n : Int)) := ⟨_, rfl⟩
  have HIN : Hid (∀ W, Below w.heap.size w W → Calls Try.prog 23 #[.slice a n c, .agg #[.int .i64 x0, .int .i64 y0, .int .i64 x1, .int .i64 y1]] W fun e w' => e = .returned (.bool q) ∧ Below W.heap.size W w') := fun W hW => by
    rw [hq, H.out.2.2.2]; exact spec_within x0 y0 x1 y1 hn0 (by omega) (by rw [← H.out.2.2.2]; omega) (H.out.1.1.below hW)
  have HC0 : Hid (C = 0) := hC0
  clear hC0
  go_wp2_with (fail)
  refine (HIN.out _ HV1.out.2.2).mono ?_
  rintro e w2 ⟨rfl, hb2⟩
  have HV2 : Hid (w2.heap[w.heap.size]? = some (.cells #[.int .i64 C, .int .i64 A, .int .i64 x0, .int .i64 y0, .int .i64 x1, .int .i64 y1] 33) ∧ w2.heap[w.heap.size + 1]? = some (.cells #[.int .i64 0, .int .i64 0] 40) ∧ Below w.heap.size w w2) := ⟨(hb2.block _ (ltOf HV1.out.1)).trans HV1.out.1, (hb2.block _ (ltOf HV1.out.2.1)).trans HV1.out.2.1, HV1.out.2.2.trans (hb2.mono HV1.out.2.2.size)⟩
  clear HIN HV1 hb2 p0 p1 p2 p3 p4 p5 pl q0 q1 qf0 qf1 ql
  by_cases hin : 0 ≤ x0 ∧ x0 < x1 ∧ x1 ≤ (wd : Int) ∧ 0 ≤ y0 ∧ y0 < y1 ∧ y1 ≤ (n : Int)
  case neg =>
    have hno : ¬ (C = 0 ∧ (0 ≤ x0 ∧ x0 < x1 ∧ x1 ≤ (wd : Int) ∧ 0 ≤ y0 ∧ y0 < y1 ∧ y1 ≤ (n : Int))) := fun e => hin e.2
    have HZ : Hid (D = 1 ∧ E = 0) := by
      have := HDE1.out; rw [if_neg hno] at this; refine ⟨this.1, ?_⟩; rw [this.2, if_neg (by rw [this.1]; decide)]
    obtain rfl : q = false := by rw [hq]; exact decide_eq_false hin
    clear hno hin hq
    obtain ⟨q0, q1, qf0, qf1, ql⟩ := two_of HV2.out.2.1
    go_wp2
    try simp only [Exit.inBlock, Exit.then]
    refine bodyPost_ret (by simp [results, Try.results10, go_sem, q0, q1, ql]; try rfl) rfl ⟨by rw [HZ.out.1, HZ.out.2]; try rfl, ?_⟩
    have hb := HV2.out.2.2
    (repeat' (first | (with_reducible exact Below.refl _ _) | (with_reducible assumption) | (with_reducible refine Below.setCell ?_ ?_ _) | (with_reducible refine Below.alloc ?_ ?_ _) | (with_reducible refine below_drewN ?_ _) | (with_reducible refine Below.drew ?_) | (with_reducible exact Nat.le_refl _) | omega | (simp; done) | (simp; omega)))
  obtain rfl : q = true := by rw [hq]; exact decide_eq_true hin
  have hall : C = 0 ∧ (0 ≤ x0 ∧ x0 < x1 ∧ x1 ≤ (wd : Int) ∧ 0 ≤ y0 ∧ y0 < y1 ∧ y1 ≤ (n : Int)) := ⟨HC0.out, hin⟩
  have HDE2 : Hid (D = (if 0 ≤ want ∧ want ≤ 1000000 then 0 else 3) ∧ E = if D = 0 then slB ls want y0.toNat x0.toNat (x1 - x0).toNat (y1 - y0).toNat else 0) := by
    have := HDE1.out; rw [if_pos hall] at this; exact this
  clear hall HDE1 hq HC0
  obtain ⟨X0, hX0⟩ : ∃ X : Nat, (X : Int) = x0 := ⟨x0.toNat, by omega⟩
  obtain ⟨X1, hX1⟩ : ∃ X : Nat, (X : Int) = x1 := ⟨x1.toNat, by omega⟩
  obtain ⟨Y0, hY0⟩ : ∃ X : Nat, (X : Int) = y0 := ⟨y0.toNat, by omega⟩
  obtain ⟨Y1, hY1⟩ : ∃ X : Nat, (X : Int) = y1 := ⟨y1.toNat, by omega⟩
  subst hX0 hX1 hY0 hY1
  have hin2 : X0 < X1 ∧ X1 ≤ wd ∧ Y0 < Y1 ∧ Y1 ≤ n := by omega
  rw [show ((X1 : Int) - (X0 : Int)).toNat = X1 - X0 by omega, show ((Y1 : Int) - (Y0 : Int)).toNat = Y1 - Y0 by omega, Int.toNat_natCast, Int.toNat_natCast] at HDE2
  clear hin
  obtain ⟨p0, p1, p2, p3, p4, p5, _, pl⟩ := sixS HV2.out.1
  obtain ⟨q0, q1, qf0, qf1, ql⟩ := two_of HV2.out.2.1
  obtain ⟨r, hr⟩ : ∃ r, r = decide (0 ≤ want ∧ want ≤ 1000000) := ⟨_, rfl⟩
  have HI : Hid (∀ V, Calls Try.prog 24 #[.int .i64 want, .int .i64 0, .int .i64 1000000] V fun e w' => e = .returned (.bool r) ∧ w' = V) := fun V => by rw [hr]; exact spec_in10 want 0 1000000 V
  go_wp2_with (fail)
  refine (HI.out _).mono ?_
  rintro e w5 ⟨rfl, hw5⟩
  subst hw5
  clear HI
  by_cases hwt : 0 ≤ want ∧ want ≤ 1000000
  case neg =>
    have HZ : Hid (D = 3 ∧ E = 0) := by
      have := HDE2.out; rw [if_neg hwt] at this; refine ⟨this.1, ?_⟩; rw [this.2, if_neg (by rw [this.1]; decide)]
    obtain rfl : r = false := by rw [hr]; exact decide_eq_false hwt
    clear hwt hr
    go_wp2
    try simp only [Exit.inBlock, Exit.then]
    refine bodyPost_ret (by simp [results, Try.results10, go_sem, q0, q1, ql]; try rfl) rfl ⟨by rw [HZ.out.1, HZ.out.2]; try rfl, ?_⟩
    have hb := HV2.out.2.2
    (repeat' (first | (with_reducible exact Below.refl _ _) | (with_reducible assumption) | (with_reducible refine Below.setCell ?_ ?_ _) | (with_reducible refine Below.alloc ?_ ?_ _) | (with_reducible refine below_drewN ?_ _) | (with_reducible refine Below.drew ?_) | (with_reducible exact Nat.le_refl _) | omega | (simp; done) | (simp; omega)))
  obtain rfl : r = true := by rw [hr]; exact decide_eq_true hwt
  have HZ : Hid (D = 0 ∧ E = slB ls want Y0 X0 (X1 - X0) (Y1 - Y0)) := by
    have := HDE2.out; rw [if_pos hwt] at this; refine ⟨this.1, ?_⟩; rw [this.2, if_pos this.1]
  clear hr HDE2
  have HRC : Hid (RdR w5 (.slice a n c) ls) := H.out.1.1.below HV2.out.2.2
  obtain ⟨g, o, ua, un, uc, rfl, hg, _, _, _⟩ := HRC.out.at hn0
  have HM : Hid (∀ a b V, Calls Try.prog 25 #[.int .i64 a, .int .i64 b] V fun e w' => e = .returned (.int .i64 (if b > a then b else a)) ∧ w' = V) := spec_mx
  clear H
  go_wp2
  clear q0 q1 qf0 qf1 ql p0 p1 p2 p3 p4 p5 pl
  go_loopw [8, 9] (fun s i wr => ∃ (m : Nat) (z : Int), Y0 ≤ m ∧ m ≤ Y1 ∧ i = .int .i64 m ∧ s = .int .i64 z ∧ wr = w5 ∧ Hid (z = slB ls want Y0 X0 (X1 - X0) (m - Y0))) (fun _ i _ => Y1 - (intOf i).toNat)
  case atStart => exact ⟨Y0, 0, Nat.le_refl _, by omega, rfl, rfl, rfl, by rw [Nat.sub_self]; rfl⟩
  case round =>
    obtain ⟨m, z, hm0, hm, rfl, rfl, rfl, hR⟩ := hrel
    obtain ⟨p0, p1, p2, p3, p4, p5, _, pl⟩ := sixS HV2.out.1
    by_cases hlt : m < Y1
    · have b1 : (m : Int) < (Y1 : Int) := by omega
      have HZK : Hid (z = slB ls want Y0 X0 (X1 - X0) (m - Y0)) := hR.out
      clear hR
      obtain ⟨wy, hwy⟩ : ∃ x, x = wr := ⟨_, rfl⟩
      subst hwy
      go_wp2
      clear p0 p1 p2 p3 p4 p5 pl
      go_loopw [8, 10] (fun s i wr => ∃ (q : Nat) (u : Int), X0 ≤ q ∧ q ≤ X1 ∧ i = .int .i64 q ∧ s = .int .i64 u ∧ wr = wy ∧ Hid (u = slR ls want m X0 (q - X0) z)) (fun _ i _ => X1 - (intOf i).toNat)
      case atStart => exact ⟨X0, z, Nat.le_refl _, by omega, rfl, rfl, rfl, by rw [Nat.sub_self]; rfl⟩
      case round =>
        obtain ⟨q, u, hq0, hq, rfl, rfl, rfl, hR2⟩ := hrel
        obtain ⟨p0, p1, p2, p3, p4, p5, _, pl⟩ := sixS HV2.out.1
        by_cases hlt2 : q < X1
        · obtain ⟨g', o', ra, rn, rc, he, hg1, a0, hrn, hrd⟩ := HRC.out.at (show m < n by omega)
          injection he with he
          injection he with he1 he2
          subst he1 he2
          rw [HG.out.2.wd m (by omega)] at hrn
          obtain ⟨rg, ro, rfl, hrg, d0⟩ := rd_at hrd (show q < rn by omega)
          obtain ⟨x, hx⟩ : ∃ x, x = (ls.getD m []).getD q 0 := ⟨_, rfl⟩
          rw [← hx] at d0
          have hxb := HG.out.1.at m q
          rw [← hx] at hxb
          obtain ⟨v, hv⟩ : ∃ v, v = ab10 (x - want) := ⟨_, rfl⟩
          have hw7 : IntKind.i64.wrap (x - want) = x - want := by rw [IntKind.wrap_i64]; omega
          have HS : Hid (Calls Try.prog 26 #[.int .i64 (x - want)] wr fun e w' => e = .returned (.int .i64 v) ∧ w' = wr) := by
            rw [hv]; exact spec_size10 (x - want) (by omega) wr
          have HN : Hid (slR ls want m X0 (q + 1 - X0) z = mx10 u v) := by
            unfold Hid; rw [show q + 1 - X0 = (q - X0) + 1 by omega, slR, ← hR2.out, hv, hx, show X0 + (q - X0) = q by omega]; rfl
          have b2 : (0 : Int) ≤ (q : Int) := by omega
          have b3 : (q : Int) < (rn : Int) := by omega
          have b4 : (0 : Int) ≤ (m : Int) := by omega
          have b5 : (m : Int) < (n : Int) := by omega
          have b6 : (q : Int) < (X1 : Int) := by omega
          clear hx hv hR2 hxb hrd hrn
          go_wp2_with (fail)
          refine HS.out.mono ?_
          rintro e w7 ⟨rfl, rfl⟩
          clear HS
          go_wp2_with (fail)
          refine (HM.out u v _).mono ?_
          rintro e w8 ⟨rfl, rfl⟩
          obtain ⟨t, ht⟩ : ∃ t, t = if v > u then v else u := ⟨_, rfl⟩
          rw [← ht]
          have HN2 : Hid (t = slR ls want m X0 (q + 1 - X0) z) := by unfold Hid; rw [HN.out, mx10, ht]
          clear HN ht
          go_wp2
          go_roundw
          case rel => exact ⟨q + 1, t, by omega, by omega, by go_num, rfl, by first | rfl | trivial, HN2.out⟩
          case measure => simp [intOf]; omega
        · have HN : Hid (u = slB ls want Y0 X0 (X1 - X0) (m + 1 - Y0)) := by
            unfold Hid; rw [show m + 1 - Y0 = (m - Y0) + 1 by omega, slB, ← HZK.out, hR2.out, show q = X1 by omega, show Y0 + (m - Y0) = m by omega]
          clear hR2
          go_wp2
          go_roundw
          case rel => exact ⟨m + 1, u, by omega, by omega, by go_num, rfl, by first | rfl | trivial, HN.out⟩
          case measure => simp [intOf]; omega
    · have HE : Hid (E = z) := by unfold Hid; rw [HZ.out.2, hR.out, show m = Y1 by omega]
      clear hR
      obtain ⟨q0, q1, qf0, qf1, ql⟩ := two_of HV2.out.2.1
      go_wp2
      try simp only [Exit.inBlock, Exit.then]
      refine bodyPost_ret (by simp [results, Try.results10, go_sem, q0, q1, ql]; try rfl) rfl ⟨by rw [HZ.out.1, HE.out]; try rfl, ?_⟩
      have hb := HV2.out.2.2
      (repeat' (first | (with_reducible exact Below.refl _ _) | (with_reducible assumption) | (with_reducible refine Below.setCell ?_ ?_ _) | (with_reducible refine Below.alloc ?_ ?_ _) | (with_reducible refine below_drewN ?_ _) | (with_reducible refine Below.drew ?_) | (with_reducible exact Nat.le_refl _) | omega | (simp; done) | (simp; omega)))

end Go.Proofs.Ythmddnachancfab
