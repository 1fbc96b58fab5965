/- Proved here: SlackOf of the program. -/
import Derived.Test.YthmddnachancfabWsM
import Derived.Test.YthmddnachancfabWkI
import Derived.Test.YthmddnachancfabGfI
import Derived.Deep.DeepCutAuto
namespace Go.Proofs.Ythmddnachancfab
open Go.RowKit
set_option linter.unusedVariables false
set_option linter.unusedSimpArgs false

set_option maxHeartbeats 800000 in
theorem impl_size10 (x : Int) (hx : -10000000 ≤ x ∧ x ≤ 10000000) (w : World) : Calls Try.prog 32 #[.int .i64 x] w fun e w' => e = .returned (.int .i64 (ab10 x)) ∧ w' = w := by
  unfold ab10
  by_cases h : x < 0
  · rw [if_pos h]
    have e1 : IntKind.i64.wrap (-x) = -x := by rw [IntKind.wrap_i64]; omega
    go_enter Try.func32, Try.ntmps32
    go_wp2
    go_returns
    exact ⟨rfl, rfl⟩
  · rw [if_neg h]
    go_enter Try.func32, Try.ntmps32
    go_wp2
    go_returns
    exact ⟨rfl, rfl⟩

set_option maxRecDepth 10000 in
set_option maxHeartbeats 25600000 in
theorem impl_sl (C A x0 y0 x1 y1 want : Int) {w : World} {v : Value} {ls : List (List Int)} (hn : SmR ls) (h : RdC w v ls) :
    Calls Try.prog 12 #[v, .agg #[.int .i64 C, .int .i64 A, .int .i64 x0, .int .i64 y0, .int .i64 x1, .int .i64 y1], .int .i64 want] w fun e w' => e = .returned (.agg #[.int .i64 (slC ls C x0 y0 x1 y1 want), .int .i64 (slV ls C x0 y0 x1 y1 want)]) ∧ Below w.heap.size w w' := by
  obtain ⟨a, c, rfl⟩ := h.1.form
  obtain ⟨n, hnn⟩ : ∃ n, n = ls.length := ⟨_, rfl⟩
  obtain ⟨F, hF⟩ : ∃ C, C = gfC ls 1000000 := ⟨_, rfl⟩
  obtain ⟨D, hD⟩ : ∃ D, D = slC ls C x0 y0 x1 y1 want := ⟨_, rfl⟩
  obtain ⟨E, hE⟩ : ∃ D, D = slV ls C x0 y0 x1 y1 want := ⟨_, rfl⟩
  obtain ⟨wd, hwd⟩ : ∃ n, n = (ls.getD 0 []).length := ⟨_, rfl⟩
  rw [← hD, ← hE]
  have HDE : Hid (D = (if F = 0 then (if C = 0 ∧ (0 ≤ x0 ∧ x0 < x1 ∧ x1 ≤ (wd : Int) ∧ 0 ≤ y0 ∧ y0 < y1 ∧ y1 ≤ (n : Int)) then (if 0 ≤ want ∧ want ≤ 1000000 then 0 else 3) else 1) else F) ∧ E = if D = 0 then slB ls want y0.toNat x0.toNat (x1 - x0).toNat (y1 - y0).toNat else 0) := ⟨by rw [hD, hF, hnn, hwd]; rfl, by rw [hE, hD]; rfl⟩
  rw [← hnn] at h ⊢
  have HF : Hid (∀ W, Below w.heap.size w W → Calls Try.prog 28 #[.slice a n c] W fun e w' => e = .returned (.int .i64 F) ∧ w' = W) := fun W hW => by rw [hF]; exact impl_gf hn (h.1.below hW)
  have H : Hid (RdC w (.slice a n c) ls ∧ n = ls.length ∧ F = gfC ls 1000000 ∧ wd = (ls.getD 0 []).length) := ⟨h, hnn, hF, hwd⟩
  clear h hn hnn hF hD hE hwd
  obtain ⟨V, hV⟩ : ∃ V, V = (w.alloc (.cells #[.int .i64 C, .int .i64 A, .int .i64 x0, .int .i64 y0, .int .i64 x1, .int .i64 y1] 33)).alloc (.cells #[.int .i64 0, .int .i64 0] 40) := ⟨_, rfl⟩
  obtain ⟨k0, k1, hb, hs⟩ := al2 hV
  have HV : Hid (V.heap[w.heap.size]? = some (.cells #[.int .i64 C, .int .i64 A, .int .i64 x0, .int .i64 y0, .int .i64 x1, .int .i64 y1] 33) ∧ V.heap[w.heap.size + 1]? = some (.cells #[.int .i64 0, .int .i64 0] 40) ∧ Below w.heap.size w V) := ⟨k0, k1, hb⟩
  clear k0 k1 hb hs
  obtain ⟨p0, p1, p2, p3, p4, p5, _, pl⟩ := sixS HV.out.1
  obtain ⟨q0, q1, qf0, qf1, ql⟩ := two_of HV.out.2.1
  go_enter Try.func12, Try.ntmps12
  go_wp2_with (fail)
  rw [← hV]
  clear hV
  refine (HF.out _ HV.out.2.2).mono ?_
  rintro e w1 ⟨rfl, hw1⟩
  subst hw1
  clear HF
  by_cases hF0 : F = 0
  case neg =>
    have HZ : Hid (D = F ∧ E = 0) := by
      have := HDE.out; rw [if_neg hF0] at this; refine ⟨this.1, ?_⟩; rw [this.2, if_neg (by rw [this.1]; exact hF0)]
    have hA1 : (F != 0) = true := by simpa using hF0
    go_wp2
    try simp only [Exit.inBlock, Exit.then]
    refine bodyPost_ret (by simp [results, Try.results12, go_sem, q0, q1, ql]; try rfl) rfl ⟨by rw [HZ.out.1, HZ.out.2]; try rfl, ?_⟩
    have hb := HV.out.2.2
    (repeat' (first | (with_reducible exact Below.refl _ _) | (with_reducible assumption) | (with_reducible refine Below.setCell ?_ ?_ _) | (with_reducible refine Below.alloc ?_ ?_ _) | (with_reducible refine below_drewN ?_ _) | (with_reducible refine Below.drew ?_) | (with_reducible exact Nat.le_refl _) | omega | (simp; done) | (simp; omega)))
  have HDE1 : Hid (D = (if C = 0 ∧ (0 ≤ x0 ∧ x0 < x1 ∧ x1 ≤ (wd : Int) ∧ 0 ≤ y0 ∧ y0 < y1 ∧ y1 ≤ (n : Int)) then (if 0 ≤ want ∧ want ≤ 1000000 then 0 else 3) else 1) ∧ E = if D = 0 then slB ls want y0.toNat x0.toNat (x1 - x0).toNat (y1 - y0).toNat else 0) := by
    have := HDE.out; rw [if_pos hF0] at this; exact this
  have hG := gfC_good (H.out.2.2.1.symm.trans hF0)
  have hn16 : n ≤ 16 := by rw [H.out.2.1]; exact hG.h1
  have hn0 : 0 < n := by rw [H.out.2.1]; exact hG.h0
  have hw16 : wd ≤ 16 := by rw [H.out.2.2.2]; exact hG.w1
  have HG : Hid (GG 1000000 ls ∧ Sh n wd ls) := ⟨hG, by have := hG.sh; rw [← H.out.2.1, ← H.out.2.2.2] at this; exact this⟩
  clear HDE hG
  subst hF0
  go_upto_region 4 with fail
  have HEND : Hid (∀ V, Below w1.heap.size w1 V → Calls Try.prog 30 #[.agg #[.slice a n c, .slice none 0 0, .int .i64 0, .int .i64 0]] V fun e w' => e = .returned (.agg #[.int .i64 wd, .int .i64 n]) ∧ Below V.heap.size V w') := fun V hV => by
    rw [H.out.2.2.2]; exact impl_end hn0 (by omega) (H.out.1.1.below (HV.out.2.2.trans (hV.mono HV.out.2.2.size)))
  obtain ⟨q, hq⟩ : ∃ q, q = decide (0 ≤ x0 ∧ x0 < x1 ∧ x1 ≤ (wd : Int) ∧ 0 ≤ y0 ∧ y0 < y1 ∧ y1 ≤ (n : Int)) := ⟨_, rfl⟩
  have HIN : Hid (∀ W, Calls Try.prog 29 #[.agg #[.int .i64 x0, .int .i64 y0, .int .i64 x1, .int .i64 y1], .agg #[.int .i64 wd, .int .i64 n]] W fun e w' => e = .returned (.bool q) ∧ Below W.heap.size W w') := fun W => by
    rw [hq]; exact impl_within x0 y0 x1 y1 wd n (by omega) (by omega) W
  by_cases hC0 : C = 0
  case neg =>
    have hno : ¬ (C = 0 ∧ (0 ≤ x0 ∧ x0 < x1 ∧ x1 ≤ (wd : Int) ∧ 0 ≤ y0 ∧ y0 < y1 ∧ y1 ≤ (n : Int))) := fun e => hC0 e.1
    have HZ : Hid (D = 1 ∧ E = 0) := by
      have := HDE1.out; rw [if_neg hno] at this; refine ⟨this.1, ?_⟩; rw [this.2, if_neg (by rw [this.1]; decide)]
    have hA1 : (C != 0) = true := by simpa using hC0
    have hA2 : (C == 0) = false := by simpa using hC0
    clear hno
    (refine wp_region_und (by kernel_rfl) (by kernel_rfl) (fun hund => ?_); (repeat (go_big_quiet_step (first | (go_at_call 30; with_reducible refine und_call ?_ (HEND.out _ (Und.below _)); exact Nat.le_refl _) | (go_at_call 29; with_reducible refine und_call ?_ (HIN.out _); exact Nat.le_refl _)))); with_reducible refine wpQuiet_nil ?_; clear hund; intro W1 hb1; obtain ⟨hc1, hf1⟩ := undcell hb1)
    have HW : Hid (W1.heap[w.heap.size + 1]? = some (.cells #[.int .i64 0, .int .i64 0] 40) ∧ Below w.heap.size w W1) := ⟨(hb1.block _ (ltOf HV.out.2.1)).trans HV.out.2.1, HV.out.2.2.trans (hb1.mono HV.out.2.2.size)⟩
    clear hb1 hc1 hf1 q0 q1 qf0 qf1 ql
    obtain ⟨q0, q1, qf0, qf1, ql⟩ := two_of HW.out.1
    go_wp2
    try simp only [Exit.inBlock, Exit.then]
    refine bodyPost_ret (by simp [results, Try.results12, go_sem, q0, q1, ql]; try rfl) rfl ⟨by rw [HZ.out.1, HZ.out.2]; try rfl, ?_⟩
    have hb := HW.out.2
    (repeat' (first | (with_reducible exact Below.refl _ _) | (with_reducible assumption) | (with_reducible refine Below.setCell ?_ ?_ _) | (with_reducible refine Below.alloc ?_ ?_ _) | (with_reducible refine below_drewN ?_ _) | (with_reducible refine Below.drew ?_) | (with_reducible exact Nat.le_refl _) | omega | (simp; done) | (simp; omega)))
  have hA1 : (C != 0) = false := by rw [hC0]; simp
  by_cases hin : 0 ≤ x0 ∧ x0 < x1 ∧ x1 ≤ (wd : Int) ∧ 0 ≤ y0 ∧ y0 < y1 ∧ y1 ≤ (n : Int)
  case neg =>
    have hno : ¬ (C = 0 ∧ (0 ≤ x0 ∧ x0 < x1 ∧ x1 ≤ (wd : Int) ∧ 0 ≤ y0 ∧ y0 < y1 ∧ y1 ≤ (n : Int))) := fun e => hin e.2
    have HZ : Hid (D = 1 ∧ E = 0) := by
      have := HDE1.out; rw [if_neg hno] at this; refine ⟨this.1, ?_⟩; rw [this.2, if_neg (by rw [this.1]; decide)]
    obtain rfl : q = false := by rw [hq]; exact decide_eq_false hin
    clear hno hin hq hC0
    (refine wp_region_und (by kernel_rfl) (by kernel_rfl) (fun hund => ?_); (repeat (go_big_quiet_step (first | (go_at_call 30; with_reducible refine und_call ?_ (HEND.out _ (Und.below _)); exact Nat.le_refl _) | (go_at_call 29; with_reducible refine und_call ?_ (HIN.out _); exact Nat.le_refl _)))); with_reducible refine wpQuiet_nil ?_; clear hund; intro W1 hb1; obtain ⟨hc1, hf1⟩ := undcell hb1)
    have HW : Hid (W1.heap[w.heap.size + 1]? = some (.cells #[.int .i64 0, .int .i64 0] 40) ∧ Below w.heap.size w W1) := ⟨(hb1.block _ (ltOf HV.out.2.1)).trans HV.out.2.1, HV.out.2.2.trans (hb1.mono HV.out.2.2.size)⟩
    clear hb1 hc1 hf1 q0 q1 qf0 qf1 ql
    obtain ⟨q0, q1, qf0, qf1, ql⟩ := two_of HW.out.1
    go_wp2
    try simp only [Exit.inBlock, Exit.then]
    refine bodyPost_ret (by simp [results, Try.results12, go_sem, q0, q1, ql]; try rfl) rfl ⟨by rw [HZ.out.1, HZ.out.2]; try rfl, ?_⟩
    have hb := HW.out.2
    (repeat' (first | (with_reducible exact Below.refl _ _) | (with_reducible assumption) | (with_reducible refine Below.setCell ?_ ?_ _) | (with_reducible refine Below.alloc ?_ ?_ _) | (with_reducible refine below_drewN ?_ _) | (with_reducible refine Below.drew ?_) | (with_reducible exact Nat.le_refl _) | omega | (simp; done) | (simp; omega)))
  obtain rfl : q = true := by rw [hq]; exact decide_eq_true hin
  have hall : C = 0 ∧ (0 ≤ x0 ∧ x0 < x1 ∧ x1 ≤ (wd : Int) ∧ 0 ≤ y0 ∧ y0 < y1 ∧ y1 ≤ (n : Int)) := ⟨hC0, hin⟩
  have HDE2 : Hid (D = (if 0 ≤ want ∧ want ≤ 1000000 then 0 else 3) ∧ E = if D = 0 then slB ls want y0.toNat x0.toNat (x1 - x0).toNat (y1 - y0).toNat else 0) := by
    have := HDE1.out; rw [if_pos hall] at this; exact this
  clear hall HDE1 hq hC0
  obtain ⟨X0, hX0⟩ : ∃ X : Nat, (X : Int) = x0 := ⟨x0.toNat, by omega⟩
  obtain ⟨X1, hX1⟩ : ∃ X : Nat, (X : Int) = x1 := ⟨x1.toNat, by omega⟩
  obtain ⟨Y0, hY0⟩ : ∃ X : Nat, (X : Int) = y0 := ⟨y0.toNat, by omega⟩
  obtain ⟨Y1, hY1⟩ : ∃ X : Nat, (X : Int) = y1 := ⟨y1.toNat, by omega⟩
  subst hX0 hX1 hY0 hY1
  have hin2 : X0 < X1 ∧ X1 ≤ wd ∧ Y0 < Y1 ∧ Y1 ≤ n := by omega
  rw [show ((X1 : Int) - (X0 : Int)).toNat = X1 - X0 by omega, show ((Y1 : Int) - (Y0 : Int)).toNat = Y1 - Y0 by omega, Int.toNat_natCast, Int.toNat_natCast] at HDE2
  clear hin
  (refine wp_region_und (by kernel_rfl) (by kernel_rfl) (fun hund => ?_); (repeat (go_big_quiet_step (first | (go_at_call 30; with_reducible refine und_call ?_ (HEND.out _ (Und.below _)); exact Nat.le_refl _) | (go_at_call 29; with_reducible refine und_call ?_ (HIN.out _); exact Nat.le_refl _)))); with_reducible refine wpQuiet_nil ?_; clear hund; intro W1 hb1; obtain ⟨hc1, hf1⟩ := undcell hb1)
  have HW : Hid (W1.heap[w.heap.size]? = some (.cells #[.int .i64 C, .int .i64 A, .int .i64 X0, .int .i64 Y0, .int .i64 X1, .int .i64 Y1] 33) ∧ W1.heap[w.heap.size + 1]? = some (.cells #[.int .i64 0, .int .i64 0] 40) ∧ Below w.heap.size w W1) := ⟨(hb1.block _ (ltOf HV.out.1)).trans HV.out.1, (hb1.block _ (ltOf HV.out.2.1)).trans HV.out.2.1, HV.out.2.2.trans (hb1.mono HV.out.2.2.size)⟩
  clear hb1 hc1 hf1 q0 q1 qf0 qf1 ql p0 p1 p2 p3 p4 p5 pl HEND HIN HV
  obtain ⟨p0, p1, p2, p3, p4, p5, _, pl⟩ := sixS HW.out.1
  obtain ⟨q0, q1, qf0, qf1, ql⟩ := two_of HW.out.2.1
  obtain ⟨r, hr⟩ : ∃ r, r = decide (0 ≤ want ∧ want ≤ 1000000) := ⟨_, rfl⟩
  have HI : Hid (∀ V, Calls Try.prog 31 #[.int .i64 want, .int .i64 0, .int .i64 1000000] V fun e w' => e = .returned (.bool r) ∧ w' = V) := fun V => impl_insC want 0 1000000 r hr V
  go_wp2_with (fail)
  refine (HI.out _).mono ?_
  rintro e w5 ⟨rfl, hw5⟩
  subst hw5
  clear HI
  by_cases hwt : 0 ≤ want ∧ want ≤ 1000000
  case neg =>
    have HZ : Hid (D = 3 ∧ E = 0) := by
      have := HDE2.out; rw [if_neg hwt] at this; refine ⟨this.1, ?_⟩; rw [this.2, if_neg (by rw [this.1]; decide)]
    obtain rfl : r = false := by rw [hr]; exact decide_eq_false hwt
    clear hwt hr
    go_wp2
    try simp only [Exit.inBlock, Exit.then]
    refine bodyPost_ret (by simp [results, Try.results12, go_sem, q0, q1, ql]; try rfl) rfl ⟨by rw [HZ.out.1, HZ.out.2]; try rfl, ?_⟩
    have hb := HW.out.2.2
    (repeat' (first | (with_reducible exact Below.refl _ _) | (with_reducible assumption) | (with_reducible refine Below.setCell ?_ ?_ _) | (with_reducible refine Below.alloc ?_ ?_ _) | (with_reducible refine below_drewN ?_ _) | (with_reducible refine Below.drew ?_) | (with_reducible exact Nat.le_refl _) | omega | (simp; done) | (simp; omega)))
  obtain rfl : r = true := by rw [hr]; exact decide_eq_true hwt
  have HZ : Hid (D = 0 ∧ E = slB ls want Y0 X0 (X1 - X0) (Y1 - Y0)) := by
    have := HDE2.out; rw [if_pos hwt] at this; refine ⟨this.1, ?_⟩; rw [this.2, if_pos this.1]
  clear hr HDE2
  have HRC : Hid (RdC w5 (.slice a n c) ls) := H.out.1.below HW.out.2.2
  obtain ⟨g, o, ua, un, uc, rfl, hg, _, _, _⟩ := HRC.out.1.at hn0
  have hnc : n ≤ c := HRC.out.2.1 _ _ _ rfl
  have y1c : (0 : Int) ≤ (Y0 : Int) := by omega
  have y2c : (Y0 : Int) ≤ (Y1 : Int) := by omega
  have y3c : (Y1 : Int) ≤ (c : Int) := by omega
  have y4c : ¬ c = Y0 := by omega
  clear H
  go_wp2
  obtain ⟨dy, hdy⟩ : ∃ d, d = Y1 - Y0 := ⟨_, rfl⟩
  obtain ⟨dx, hdx⟩ : ∃ d, d = X1 - X0 := ⟨_, rfl⟩
  obtain ⟨cc, hcc⟩ : ∃ d, d = c - Y0 := ⟨_, rfl⟩
  rw [← hdy, ← hcc]
  have HD : Hid (dy = Y1 - Y0 ∧ dx = X1 - X0 ∧ E = slB ls want Y0 X0 dx dy) := ⟨hdy, hdx, by rw [hdx, hdy]; exact HZ.out.2⟩
  have hdb : Y0 + dy = Y1 ∧ X0 + dx = X1 := by omega
  clear hdy hdx hcc
  clear q0 q1 qf0 qf1 ql p0 p1 p2 p3 p4 p5 pl
  go_loopw [8, 45] (fun s i wr => ∃ (k : Nat) (z : Int), k ≤ dy ∧ i = .int .i64 k ∧ s = .int .i64 z ∧ wr = w5 ∧ Hid (z = slB ls want Y0 X0 dx k)) (fun _ i _ => dy - (intOf i).toNat)
  case atStart => exact ⟨0, 0, Nat.zero_le _, rfl, rfl, rfl, rfl⟩
  case round =>
    obtain ⟨k, z, hk, rfl, rfl, rfl, hR⟩ := hrel
    obtain ⟨p0, p1, p2, p3, p4, p5, _, pl⟩ := sixS HW.out.1
    by_cases hlt : k < dy
    · obtain ⟨g', o', ra, rn, rc, he, hg1, a0, hrn, hrd⟩ := HRC.out.1.at (show Y0 + k < n by omega)
      injection he with he
      injection he with he1 he2
      subst he1 he2
      have hrc : rn ≤ rc := HRC.out.2.2 g o n c (Y0 + k) ra rn rc rfl (by omega) a0
      rw [HG.out.2.wd (Y0 + k) (by omega)] at hrn
      rw [show o + (Y0 + k) = o + Y0 + k by omega] at a0
      obtain ⟨rg, ro, rfl, hrg, _⟩ := rd_at hrd (show X0 < rn by omega)
      have HRD : Hid (RdI wr (.slice (some ⟨rg, ro, none⟩) rn rc) (ls.getD (Y0 + k) [])) := hrd
      have HZK : Hid (z = slB ls want Y0 X0 dx k) := hR.out
      have b0 : (0 : Int) ≤ (k : Int) := by omega
      have b1 : (k : Int) < (dy : Int) := by omega
      have x1c : (0 : Int) ≤ (X0 : Int) := by omega
      have x2c : (X0 : Int) ≤ (X1 : Int) := by omega
      have x3c : (X1 : Int) ≤ (rc : Int) := by omega
      have x4c : ¬ rc = X0 := by omega
      have HRN : Hid (rn = wd ∧ rn ≤ rc) := ⟨hrn, hrc⟩
      clear hrd hR hrn hrc
      obtain ⟨wy, hwy⟩ : ∃ x, x = wr := ⟨_, rfl⟩
      subst hwy
      go_wp2
      rw [show X1 - X0 = dx from HD.out.2.1.symm]
      clear a0 hg1 p0 p1 p2 p3 p4 p5 pl
      go_loopw [8, 58] (fun s i wr => ∃ (q : Nat) (u : Int), q ≤ dx ∧ i = .int .i64 q ∧ s = .int .i64 u ∧ wr = wy ∧ Hid (u = slR ls want (Y0 + k) X0 q z)) (fun _ i _ => dx - (intOf i).toNat)
      case atStart => exact ⟨0, z, Nat.zero_le _, rfl, rfl, rfl, rfl⟩
      case round =>
        obtain ⟨q, u, hq, rfl, rfl, rfl, hR2⟩ := hrel
        by_cases hlt2 : q < dx
        · obtain ⟨rg', ro', he, hrg1, d0⟩ := rd_at HRD.out (show X0 + q < rn by have := HRN.out.1; omega)
          injection he with he
          injection he with he1 he2
          subst he1 he2
          obtain ⟨x, hx⟩ : ∃ x, x = (ls.getD (Y0 + k) []).getD (X0 + q) 0 := ⟨_, rfl⟩
          rw [← hx] at d0
          rw [show ro + (X0 + q) = ro + X0 + q by omega] at d0
          have hxb := HG.out.1.at (Y0 + k) (X0 + q)
          rw [← hx] at hxb
          obtain ⟨m, hm⟩ : ∃ m, m = ab10 (x - want) := ⟨_, rfl⟩
          have hw7 : IntKind.i64.wrap (x - want) = x - want := by rw [IntKind.wrap_i64]; omega
          have HS : Hid (Calls Try.prog 32 #[.int .i64 (x - want)] wr fun e w' => e = .returned (.int .i64 m) ∧ w' = wr) := by
            rw [hm]; exact impl_size10 (x - want) (by omega) wr
          have HN : Hid (slR ls want (Y0 + k) X0 (q + 1) z = mx10 u m) := by
            unfold Hid; rw [slR, ← hR2.out, hm, hx]; rfl
          have b2 : (0 : Int) ≤ (q : Int) := by omega
          have b3 : (q : Int) < (dx : Int) := by omega
          clear hx hm hR2 hxb
          go_wp2_with (fail)
          refine HS.out.mono ?_
          rintro e w7 ⟨rfl, rfl⟩
          clear HS
          by_cases hgt : m > u
          · have HN2 : Hid (m = slR ls want (Y0 + k) X0 (q + 1) z) := by unfold Hid; rw [HN.out, mx10, if_pos hgt]
            clear HN
            go_wp2
            go_roundw
            case rel => exact ⟨q + 1, m, by omega, by go_num, rfl, by first | rfl | trivial, HN2.out⟩
            case measure => simp [intOf]; omega
          · have HN2 : Hid (u = slR ls want (Y0 + k) X0 (q + 1) z) := by unfold Hid; rw [HN.out, mx10, if_neg hgt]
            clear HN
            go_wp2
            go_roundw
            case rel => exact ⟨q + 1, u, by omega, by go_num, rfl, by first | rfl | trivial, HN2.out⟩
            case measure => simp [intOf]; omega
        · have HN : Hid (u = slB ls want Y0 X0 dx (k + 1)) := by
            unfold Hid; rw [slB, ← HZK.out, hR2.out, show q = dx by omega]
          clear hR2
          go_wp2
          go_roundw
          case rel => exact ⟨k + 1, u, by omega, by go_num, rfl, by first | rfl | trivial, HN.out⟩
          case measure => simp [intOf]; omega
    · have HE : Hid (E = z) := by unfold Hid; rw [HD.out.2.2, hR.out, show k = dy by omega]
      clear hR
      obtain ⟨q0, q1, qf0, qf1, ql⟩ := two_of HW.out.2.1
      go_wp2
      try simp only [Exit.inBlock, Exit.then]
      refine bodyPost_ret (by simp [results, Try.results12, go_sem, q0, q1, ql]; try rfl) rfl ⟨by rw [HZ.out.1, HE.out]; try rfl, ?_⟩
      have hb := HW.out.2.2
      (repeat' (first | (with_reducible exact Below.refl _ _) | (with_reducible assumption) | (with_reducible refine Below.setCell ?_ ?_ _) | (with_reducible refine Below.alloc ?_ ?_ _) | (with_reducible refine below_drewN ?_ _) | (with_reducible refine Below.drew ?_) | (with_reducible exact Nat.le_refl _) | omega | (simp; done) | (simp; omega)))

end Go.Proofs.Ythmddnachancfab
