/- Proved here: a box within a grid and the ones in a box, of the model (l10Within, l10Ones). -/
import Derived.Test.YthmddnachancfaaWkM
import Derived.Test.YthmddnachancfaaWnE
import Derived.Deep.DeepCutAuto
namespace Go.Proofs.Ythmddnachancfaa
open Go.RowKit
set_option linter.unusedVariables false
set_option linter.unusedSimpArgs false

set_option maxRecDepth 10000 in
set_option maxHeartbeats 12800000 in
theorem spec_within (x0 y0 x1 y1 : Int) {w : World} {a : Option Addr} {n c : Nat} {ls : List (List Int)} (hn : 0 < n) (hm : n ≤ 1048576) (hw : (ls.getD 0 []).length ≤ 1048576) (h : RdR w (.slice a n c) ls) :
    Calls Try.prog 52 #[.slice a n c, .agg #[.int .i64 x0, .int .i64 y0, .int .i64 x1, .int .i64 y1]] w fun e w' => e = .returned (.bool (decide (0 ≤ x0 ∧ x0 < x1 ∧ x1 ≤ ((ls.getD 0 []).length : Int) ∧ 0 ≤ y0 ∧ y0 < y1 ∧ y1 ≤ (n : Int)))) ∧ Below w.heap.size w w' := by
  obtain ⟨g, o, ua, un, uc, rfl, hg, c0, hun, hrd⟩ := h.at hn
  rw [← hun] at hw ⊢
  clear hun hrd h
  simp only [Nat.add_zero] at c0
  have z1 : (0 : Int) < (n : Int) := by omega
  obtain ⟨r, hr⟩ : ∃ r, r = decide (0 ≤ x0 ∧ x0 < x1 ∧ x1 ≤ (un : Int) ∧ 0 ≤ y0 ∧ y0 < y1 ∧ y1 ≤ (n : Int)) := ⟨_, rfl⟩
  rw [← hr]
  have HR : Hid ((¬ (0 ≤ x0 ∧ x0 < x1 ∧ x1 ≤ (un : Int) ∧ 0 ≤ y0 ∧ y0 < y1 ∧ y1 ≤ (n : Int)) → r = false) ∧ ((0 ≤ x0 ∧ x0 < x1 ∧ x1 ≤ (un : Int) ∧ 0 ≤ y0 ∧ y0 < y1 ∧ y1 ≤ (n : Int)) → r = true)) := ⟨fun h => by rw [hr]; exact decide_eq_false h, fun h => by rw [hr]; exact decide_eq_true h⟩
  clear hr
  obtain ⟨V, hV⟩ : ∃ V, V = w.alloc (.cells #[.int .i64 x0, .int .i64 y0, .int .i64 x1, .int .i64 y1] 34) := ⟨_, rfl⟩
  have HB : Hid (V.heap[w.heap.size]? = some (.cells #[.int .i64 x0, .int .i64 y0, .int .i64 x1, .int .i64 y1] 34) ∧ Below w.heap.size w V) := by
    rw [hV]; exact ⟨heap_alloc_new w _, by (repeat' (first | (with_reducible exact Below.refl _ _) | (with_reducible assumption) | (with_reducible refine Below.setCell ?_ ?_ _) | (with_reducible refine Below.alloc ?_ ?_ _) | (with_reducible refine below_drewN ?_ _) | (with_reducible refine Below.drew ?_) | (with_reducible exact Nat.le_refl _) | omega | (simp; done) | (simp; omega)))⟩
  obtain ⟨p0, p1, p2, p3, pl⟩ := four_of HB.out.1
  have c1 := (HB.out.2.cell (p := ⟨g, o, none⟩) hg).trans c0
  have hg1 := Nat.lt_of_lt_of_le hg HB.out.2.size
  clear c0 hg
  by_cases h1 : 0 ≤ x0
  case neg =>
    obtain rfl := HR.out.1 (fun e => h1 e.1)
    go_enter Try.func52, Try.ntmps52
    go_wp2_with (fail)
    rw [← hV]
    have h1d : decide (0 ≤ x0) = false := decide_eq_false (by omega)
    clear hV
    (refine wp_region_und (by kernel_rfl) (by kernel_rfl) (fun hund => ?_); (repeat (go_big_quiet_step (fail))); with_reducible refine wpQuiet_nil ?_; clear hund; intro W1 hb1; obtain ⟨hc1, hf1⟩ := undcell hb1)
    have HB1 : Hid (Below w.heap.size w W1) := HB.out.2.trans (hb1.mono HB.out.2.size)
    clear hb1 hc1 hf1
    go_wp2
    go_returns
    exact ⟨rfl, HB1.out⟩
  by_cases h2 : 0 ≤ y0
  case neg =>
    obtain rfl := HR.out.1 (fun e => h2 e.2.2.2.1)
    go_enter Try.func52, Try.ntmps52
    go_wp2_with (fail)
    rw [← hV]
    have h1d : decide (0 ≤ x0) = true := decide_eq_true (by omega)
    have h2d : decide (0 ≤ y0) = false := decide_eq_false (by omega)
    clear hV
    (refine wp_region_und (by kernel_rfl) (by kernel_rfl) (fun hund => ?_); (repeat (go_big_quiet_step (fail))); with_reducible refine wpQuiet_nil ?_; clear hund; intro W1 hb1; obtain ⟨hc1, hf1⟩ := undcell hb1)
    have HB1 : Hid (Below w.heap.size w W1) := HB.out.2.trans (hb1.mono HB.out.2.size)
    clear hb1 hc1 hf1
    go_wp2
    go_returns
    exact ⟨rfl, HB1.out⟩
  by_cases h3 : x0 < x1
  case neg =>
    obtain rfl := HR.out.1 (fun e => h3 e.2.1)
    go_enter Try.func52, Try.ntmps52
    go_wp2_with (fail)
    rw [← hV]
    have h1d : decide (0 ≤ x0) = true := decide_eq_true (by omega)
    have h2d : decide (0 ≤ y0) = true := decide_eq_true (by omega)
    have h3d : decide (x0 < x1) = false := decide_eq_false (by omega)
    clear hV
    (refine wp_region_und (by kernel_rfl) (by kernel_rfl) (fun hund => ?_); (repeat (go_big_quiet_step (fail))); with_reducible refine wpQuiet_nil ?_; clear hund; intro W1 hb1; obtain ⟨hc1, hf1⟩ := undcell hb1)
    have HB1 : Hid (Below w.heap.size w W1) := HB.out.2.trans (hb1.mono HB.out.2.size)
    clear hb1 hc1 hf1
    go_wp2
    go_returns
    exact ⟨rfl, HB1.out⟩
  by_cases h4 : y0 < y1
  case neg =>
    obtain rfl := HR.out.1 (fun e => h4 e.2.2.2.2.1)
    go_enter Try.func52, Try.ntmps52
    go_wp2_with (fail)
    rw [← hV]
    have h1d : decide (0 ≤ x0) = true := decide_eq_true (by omega)
    have h2d : decide (0 ≤ y0) = true := decide_eq_true (by omega)
    have h3d : decide (x0 < x1) = true := decide_eq_true (by omega)
    have h4d : decide (y0 < y1) = false := decide_eq_false (by omega)
    clear hV
    (refine wp_region_und (by kernel_rfl) (by kernel_rfl) (fun hund => ?_); (repeat (go_big_quiet_step (fail))); with_reducible refine wpQuiet_nil ?_; clear hund; intro W1 hb1; obtain ⟨hc1, hf1⟩ := undcell hb1)
    have HB1 : Hid (Below w.heap.size w W1) := HB.out.2.trans (hb1.mono HB.out.2.size)
    clear hb1 hc1 hf1
    go_wp2
    go_returns
    exact ⟨rfl, HB1.out⟩
  by_cases h5 : x1 ≤ (un : Int)
  case neg =>
    obtain rfl := HR.out.1 (fun e => h5 e.2.2.1)
    go_enter Try.func52, Try.ntmps52
    go_wp2_with (fail)
    rw [← hV]
    have h1d : decide (0 ≤ x0) = true := decide_eq_true (by omega)
    have h2d : decide (0 ≤ y0) = true := decide_eq_true (by omega)
    have h3d : decide (x0 < x1) = true := decide_eq_true (by omega)
    have h4d : decide (y0 < y1) = true := decide_eq_true (by omega)
    have h5d : decide (x1 ≤ (un : Int)) = false := decide_eq_false (by omega)
    clear hV
    (refine wp_region_und (by kernel_rfl) (by kernel_rfl) (fun hund => ?_); (repeat (go_big_quiet_step (fail))); with_reducible refine wpQuiet_nil ?_; clear hund; intro W1 hb1; obtain ⟨hc1, hf1⟩ := undcell hb1)
    have HB1 : Hid (Below w.heap.size w W1) := HB.out.2.trans (hb1.mono HB.out.2.size)
    clear hb1 hc1 hf1
    go_wp2
    go_returns
    exact ⟨rfl, HB1.out⟩
  by_cases h6 : y1 ≤ (n : Int)
  case neg =>
    obtain rfl := HR.out.1 (fun e => h6 e.2.2.2.2.2)
    go_enter Try.func52, Try.ntmps52
    go_wp2_with (fail)
    rw [← hV]
    have h1d : decide (0 ≤ x0) = true := decide_eq_true (by omega)
    have h2d : decide (0 ≤ y0) = true := decide_eq_true (by omega)
    have h3d : decide (x0 < x1) = true := decide_eq_true (by omega)
    have h4d : decide (y0 < y1) = true := decide_eq_true (by omega)
    have h5d : decide (x1 ≤ (un : Int)) = true := decide_eq_true (by omega)
    have h6d : decide (y1 ≤ (n : Int)) = false := decide_eq_false (by omega)
    clear hV
    (refine wp_region_und (by kernel_rfl) (by kernel_rfl) (fun hund => ?_); (repeat (go_big_quiet_step (fail))); with_reducible refine wpQuiet_nil ?_; clear hund; intro W1 hb1; obtain ⟨hc1, hf1⟩ := undcell hb1)
    have HB1 : Hid (Below w.heap.size w W1) := HB.out.2.trans (hb1.mono HB.out.2.size)
    clear hb1 hc1 hf1
    go_wp2
    go_returns
    exact ⟨rfl, HB1.out⟩
  obtain rfl := HR.out.2 ⟨h1, h3, h5, h2, h4, h6⟩
  go_enter Try.func52, Try.ntmps52
  go_wp2_with (fail)
  rw [← hV]
  have h1d : decide (0 ≤ x0) = true := decide_eq_true (by omega)
  have h2d : decide (0 ≤ y0) = true := decide_eq_true (by omega)
  have h3d : decide (x0 < x1) = true := decide_eq_true (by omega)
  have h4d : decide (y0 < y1) = true := decide_eq_true (by omega)
  have h5d : decide (x1 ≤ (un : Int)) = true := decide_eq_true (by omega)
  have h6d : decide (y1 ≤ (n : Int)) = true := decide_eq_true (by omega)
  clear hV
  (refine wp_region_und (by kernel_rfl) (by kernel_rfl) (fun hund => ?_); (repeat (go_big_quiet_step (fail))); with_reducible refine wpQuiet_nil ?_; clear hund; intro W1 hb1; obtain ⟨hc1, hf1⟩ := undcell hb1)
  have HB1 : Hid (Below w.heap.size w W1) := HB.out.2.trans (hb1.mono HB.out.2.size)
  clear hb1 hc1 hf1
  go_wp2
  go_returns
  exact ⟨rfl, HB1.out⟩

set_option maxRecDepth 10000 in
set_option maxHeartbeats 12800000 in
theorem spec_ones (x0 y0 x1 y1 : Nat) {w : World} {a : Option Addr} {n c : Nat} {ls : List (List Int)} (hG : GG 1 ls) (hx : x0 ≤ x1) (hx1 : x1 ≤ (ls.getD 0 []).length) (hy : y0 ≤ y1) (hy1 : y1 ≤ n) (h : RdR w (.slice a n c) ls) :
    Calls Try.prog 53 #[.slice a n c, .agg #[.int .i64 x0, .int .i64 y0, .int .i64 x1, .int .i64 y1]] w fun e w' => e = .returned (.int .i64 (onN ls x0 (x1 - x0) y0 (y1 - y0))) ∧ Below w.heap.size w w' := by
  obtain ⟨wd, hwd⟩ : ∃ n, n = (ls.getD 0 []).length := ⟨_, rfl⟩
  have hnn := h.len
  have hn16 : n ≤ 16 := by rw [hnn]; exact hG.h1
  have hn0 : 0 < n := by rw [hnn]; exact hG.h0
  have hw16 : wd ≤ 16 := by rw [hwd]; exact hG.w1
  rw [← hwd] at hx1
  have HG : Hid (GG 1 ls ∧ RdR w (.slice a n c) ls ∧ Sh n wd ls) := ⟨hG, h, by have := hG.sh; rw [← hnn, ← hwd] at this; exact this⟩
  obtain ⟨R, hR⟩ : ∃ R, R = onN ls x0 (x1 - x0) y0 (y1 - y0) := ⟨_, rfl⟩
  rw [← hR]
  have HR : Hid (R = onN ls x0 (x1 - x0) y0 (y1 - y0)) := hR
  clear hG h hnn hwd hR
  obtain ⟨V, hV⟩ : ∃ V, V = w.alloc (.cells #[.int .i64 x0, .int .i64 y0, .int .i64 x1, .int .i64 y1] 34) := ⟨_, rfl⟩
  have HB : Hid (V.heap[w.heap.size]? = some (.cells #[.int .i64 x0, .int .i64 y0, .int .i64 x1, .int .i64 y1] 34) ∧ Below w.heap.size w V) := by
    rw [hV]; exact ⟨heap_alloc_new w _, by (repeat' (first | (with_reducible exact Below.refl _ _) | (with_reducible assumption) | (with_reducible refine Below.setCell ?_ ?_ _) | (with_reducible refine Below.alloc ?_ ?_ _) | (with_reducible refine below_drewN ?_ _) | (with_reducible refine Below.drew ?_) | (with_reducible exact Nat.le_refl _) | omega | (simp; done) | (simp; omega)))⟩
  obtain ⟨p0, p1, p2, p3, pl⟩ := four_of HB.out.1
  go_enter Try.func53, Try.ntmps53
  go_upto_region 1 with fail
  rw [← hV]
  clear hV
  go_wp2
  go_loopw [5, 6] (fun s i wr => ∃ (m : Nat) (z : Int), y0 ≤ m ∧ m ≤ y1 ∧ i = .int .i64 m ∧ s = .int .i64 z ∧ 0 ≤ z ∧ z ≤ 256 ∧ wr = V ∧ Hid (z = onN ls x0 (x1 - x0) y0 (m - y0))) (fun _ i _ => y1 - (intOf i).toNat)
  case atStart => exact ⟨y0, 0, Nat.le_refl _, hy, rfl, rfl, by omega, by omega, rfl, by rw [Nat.sub_self]; rfl⟩
  case round =>
    obtain ⟨m, z, hm0, hm, rfl, rfl, hz0, hz1, rfl, hR⟩ := hrel
    by_cases hlt : m < y1
    · have b1 : (m : Int) < (y1 : Int) := by omega
      have b0 : (0 : Int) ≤ (m : Int) := by omega
      have b2 : (m : Int) < (n : Int) := by omega
      obtain ⟨g, o, ra, rn, rc, rfl, hg, a0, hrn, hrd⟩ := (HG.out.2.1.below HB.out.2).at (show m < n by omega)
      rw [HG.out.2.2.wd m (by omega)] at hrn
      have HRD : Hid (RdI wr (.slice ra rn rc) (ls.getD m []) ∧ rn = wd) := ⟨hrd, hrn⟩
      have HZ : Hid (z = onN ls x0 (x1 - x0) y0 (m - y0)) := hR.out
      clear hrd hR
      obtain ⟨wy, hwy⟩ : ∃ x, x = wr := ⟨_, rfl⟩
      subst hwy
      go_wp2
      go_loopw [5, 7] (fun s i wr => ∃ (q : Nat) (u : Int), x0 ≤ q ∧ q ≤ x1 ∧ i = .int .i64 q ∧ s = .int .i64 u ∧ 0 ≤ u ∧ u ≤ 272 ∧ wr = wy ∧ Hid (u = z + rsum (fun i => at2 ls m (x0 + i)) (q - x0))) (fun _ i _ => x1 - (intOf i).toNat)
      case atStart => exact ⟨x0, z, Nat.le_refl _, hx, rfl, rfl, hz0, by omega, rfl, by unfold Hid; rw [Nat.sub_self, rsum]; omega⟩
      case round =>
        obtain ⟨q, u, hq0, hq, rfl, rfl, hu0, hu1, rfl, hR2⟩ := hrel
        by_cases hlt2 : q < x1
        · have d1 : (q : Int) < (x1 : Int) := by omega
          have d0 : (0 : Int) ≤ (q : Int) := by omega
          have d2 : (q : Int) < (rn : Int) := by omega
          obtain ⟨rg, ro, rfl, hrg, r0⟩ := rd_at HRD.out.1 (show q < rn by omega)
          obtain ⟨x, hx9⟩ : ∃ x, x = (ls.getD m []).getD q 0 := ⟨_, rfl⟩
          rw [← hx9] at r0
          have hxb := HG.out.1.bit m q
          unfold at2 at hxb
          rw [← hx9] at hxb
          have hsb := rsum_bd (p := fun i => at2 ls m (x0 + i)) (fun i => by rcases HG.out.1.bit m (x0 + i) with e | e <;> (rw [e]; omega)) (q - x0)
          have hu := hR2.out
          have hw5 : IntKind.i64.wrap (u + x) = u + x := by rw [IntKind.wrap_i64]; omega
          have HN : Hid (u + x = z + rsum (fun i => at2 ls m (x0 + i)) (q + 1 - x0)) := by
            unfold Hid
            rw [show q + 1 - x0 = (q - x0) + 1 by omega, rsum, hu, hx9, show x0 + (q - x0) = q by omega]
            show _ = z + (_ + (ls.getD m []).getD q 0)
            omega
          have hub : 0 ≤ u + x ∧ u + x ≤ 272 := by omega
          clear hx9 hsb hu hR2
          go_wp2
          go_roundw
          case rel => exact ⟨q + 1, u + x, by omega, by omega, by go_num, by first | rfl | (rw [hw5]), hub.1, hub.2, by first | rfl | trivial, HN.out⟩
          case measure => simp [intOf]; omega
        · have HN : Hid (u = onN ls x0 (x1 - x0) y0 (m + 1 - y0)) := by
            have e := hR2.out
            rw [show q = x1 by omega, HZ.out] at e
            unfold Hid
            rw [show m + 1 - y0 = (m - y0) + 1 by omega]
            rw [e]
            show _ = onN ls x0 (x1 - x0) y0 ((m - y0) + 1)
            unfold onN
            rw [rsum]
            show _ = _ + rsum (fun i => at2 ls (y0 + (m - y0)) (x0 + i)) (x1 - x0)
            rw [show y0 + (m - y0) = m by omega]
          have hnb := onN_bd HG.out.1 x0 (x1 - x0) y0 (m + 1 - y0)
          have hu2 : 0 ≤ u ∧ u ≤ 256 := by
            rw [HN.out]
            refine ⟨hnb.1, ?_⟩
            have h1 : (m + 1 - y0) * (x1 - x0) ≤ 16 * 16 := Nat.mul_le_mul (by omega) (by omega)
            have h2 : (((m + 1 - y0) * (x1 - x0) : Nat) : Int) = ((m + 1 - y0 : Nat) : Int) * ((x1 - x0 : Nat) : Int) := by rw [Int.natCast_mul]
            have h3 := hnb.2
            rw [← h2] at h3
            omega
          clear hR2 hnb HZ
          go_wp2
          go_roundw
          case rel => exact ⟨m + 1, u, by omega, by omega, by go_num, rfl, hu2.1, hu2.2, by first | rfl | trivial, HN.out⟩
          case measure => simp [intOf]; omega
    · have HE : Hid (R = z) := by unfold Hid; rw [HR.out, hR.out, show m = y1 by omega]
      clear hR
      go_wp2
      go_returns
      exact ⟨by rw [HE.out]; rfl, HB.out.2⟩

end Go.Proofs.Ythmddnachancfaa
