/- Proved here: a box within a grid, of the model (l10Within). -/
import Derived.Test.YthmddnachancfabWkM
import Derived.Test.YthmddnachancfabWnE
import Derived.Deep.DeepCutAuto
namespace Go.Proofs.Ythmddnachancfab
open Go.RowKit
set_option linter.unusedVariables false
set_option linter.unusedSimpArgs false

set_option maxRecDepth 10000 in
set_option maxHeartbeats 12800000 in
theorem spec_within (x0 y0 x1 y1 : Int) {w : World} {a : Option Addr} {n c : Nat} {ls : List (List Int)} (hn : 0 < n) (hm : n ≤ 1048576) (hw : (ls.getD 0 []).length ≤ 1048576) (h : RdR w (.slice a n c) ls) :
    Calls Try.prog 23 #[.slice a n c, .agg #[.int .i64 x0, .int .i64 y0, .int .i64 x1, .int .i64 y1]] w fun e w' => e = .returned (.bool (decide (0 ≤ x0 ∧ x0 < x1 ∧ x1 ≤ ((ls.getD 0 []).length : Int) ∧ 0 ≤ y0 ∧ y0 < y1 ∧ y1 ≤ (n : Int)))) ∧ Below w.heap.size w w' := by
  obtain ⟨g, o, ua, un, uc, rfl, hg, c0, hun, hrd⟩ := h.at hn
  rw [← hun] at hw ⊢
  clear hun hrd h
  simp only [Nat.add_zero] at c0
  have z1 : (0 : Int) < (n : Int) := by omega
  obtain ⟨r, hr⟩ : ∃ r, r = decide (0 ≤ x0 ∧ x0 < x1 ∧ x1 ≤ (un : Int) ∧ 0 ≤ y0 ∧ y0 < y1 ∧ y1 ≤ (n : Int)) := ⟨_, rfl⟩
  rw [← hr]
  have HR : Hid ((¬ (0 ≤ x0 ∧ x0 < x1 ∧ x1 ≤ (un : Int) ∧ 0 ≤ y0 ∧ y0 < y1 ∧ y1 ≤ (n : Int)) → r = false) ∧ ((0 ≤ x0 ∧ x0 < x1 ∧ x1 ≤ (un : Int) ∧ 0 ≤ y0 ∧ y0 < y1 ∧ y1 ≤ (n : Int)) → r = true)) := ⟨fun h => by rw [hr]; exact decide_eq_false h, fun h => by rw [hr]; exact decide_eq_true h⟩
  clear hr
  obtain ⟨V, hV⟩ : ∃ V, V = w.alloc (.cells #[.int .i64 x0, .int .i64 y0, .int .i64 x1, .int .i64 y1] 31) := ⟨_, rfl⟩
  have HB : Hid (V.heap[w.heap.size]? = some (.cells #[.int .i64 x0, .int .i64 y0, .int .i64 x1, .int .i64 y1] 31) ∧ Below w.heap.size w V) := by
    rw [hV]; exact ⟨heap_alloc_new w _, by (repeat' (first | (with_reducible exact Below.refl _ _) | (with_reducible assumption) | (with_reducible refine Below.setCell ?_ ?_ _) | (with_reducible refine Below.alloc ?_ ?_ _) | (with_reducible refine below_drewN ?_ _) | (with_reducible refine Below.drew ?_) | (with_reducible exact Nat.le_refl _) | omega | (simp; done) | (simp; omega)))⟩
  obtain ⟨p0, p1, p2, p3, pl⟩ := four_of HB.out.1
  have c1 := (HB.out.2.cell (p := ⟨g, o, none⟩) hg).trans c0
  have hg1 := Nat.lt_of_lt_of_le hg HB.out.2.size
  clear c0 hg
  by_cases h1 : 0 ≤ x0
  case neg =>
    obtain rfl := HR.out.1 (fun e => h1 e.1)
    go_enter Try.func23, Try.ntmps23
    go_wp2_with (fail)
    rw [← hV]
    have h1d : decide (0 ≤ x0) = false := decide_eq_false (by omega)
    clear hV
    (refine wp_region_und (by kernel_rfl) (by kernel_rfl) (fun hund => ?_); (repeat (go_big_quiet_step (fail))); with_reducible refine wpQuiet_nil ?_; clear hund; intro W1 hb1; obtain ⟨hc1, hf1⟩ := undcell hb1)
    have HB1 : Hid (Below w.heap.size w W1) := HB.out.2.trans (hb1.mono HB.out.2.size)
    clear hb1 hc1 hf1
    go_wp2
    go_returns
    exact ⟨rfl, HB1.out⟩
  by_cases h2 : 0 ≤ y0
  case neg =>
    obtain rfl := HR.out.1 (fun e => h2 e.2.2.2.1)
    go_enter Try.func23, Try.ntmps23
    go_wp2_with (fail)
    rw [← hV]
    have h1d : decide (0 ≤ x0) = true := decide_eq_true (by omega)
    have h2d : decide (0 ≤ y0) = false := decide_eq_false (by omega)
    clear hV
    (refine wp_region_und (by kernel_rfl) (by kernel_rfl) (fun hund => ?_); (repeat (go_big_quiet_step (fail))); with_reducible refine wpQuiet_nil ?_; clear hund; intro W1 hb1; obtain ⟨hc1, hf1⟩ := undcell hb1)
    have HB1 : Hid (Below w.heap.size w W1) := HB.out.2.trans (hb1.mono HB.out.2.size)
    clear hb1 hc1 hf1
    go_wp2
    go_returns
    exact ⟨rfl, HB1.out⟩
  by_cases h3 : x0 < x1
  case neg =>
    obtain rfl := HR.out.1 (fun e => h3 e.2.1)
    go_enter Try.func23, Try.ntmps23
    go_wp2_with (fail)
    rw [← hV]
    have h1d : decide (0 ≤ x0) = true := decide_eq_true (by omega)
    have h2d : decide (0 ≤ y0) = true := decide_eq_true (by omega)
    have h3d : decide (x0 < x1) = false := decide_eq_false (by omega)
    clear hV
    (refine wp_region_und (by kernel_rfl) (by kernel_rfl) (fun hund => ?_); (repeat (go_big_quiet_step (fail))); with_reducible refine wpQuiet_nil ?_; clear hund; intro W1 hb1; obtain ⟨hc1, hf1⟩ := undcell hb1)
    have HB1 : Hid (Below w.heap.size w W1) := HB.out.2.trans (hb1.mono HB.out.2.size)
    clear hb1 hc1 hf1
    go_wp2
    go_returns
    exact ⟨rfl, HB1.out⟩
  by_cases h4 : y0 < y1
  case neg =>
    obtain rfl := HR.out.1 (fun e => h4 e.2.2.2.2.1)
    go_enter Try.func23, Try.ntmps23
    go_wp2_with (fail)
    rw [← hV]
    have h1d : decide (0 ≤ x0) = true := decide_eq_true (by omega)
    have h2d : decide (0 ≤ y0) = true := decide_eq_true (by omega)
    have h3d : decide (x0 < x1) = true := decide_eq_true (by omega)
    have h4d : decide (y0 < y1) = false := decide_eq_false (by omega)
    clear hV
    (refine wp_region_und (by kernel_rfl) (by kernel_rfl) (fun hund => ?_); (repeat (go_big_quiet_step (fail))); with_reducible refine wpQuiet_nil ?_; clear hund; intro W1 hb1; obtain ⟨hc1, hf1⟩ := undcell hb1)
    have HB1 : Hid (Below w.heap.size w W1) := HB.out.2.trans (hb1.mono HB.out.2.size)
    clear hb1 hc1 hf1
    go_wp2
    go_returns
    exact ⟨rfl, HB1.out⟩
  by_cases h5 : x1 ≤ (un : Int)
  case neg =>
    obtain rfl := HR.out.1 (fun e => h5 e.2.2.1)
    go_enter Try.func23, Try.ntmps23
    go_wp2_with (fail)
    rw [← hV]
    have h1d : decide (0 ≤ x0) = true := decide_eq_true (by omega)
    have h2d : decide (0 ≤ y0) = true := decide_eq_true (by omega)
    have h3d : decide (x0 < x1) = true := decide_eq_true (by omega)
    have h4d : decide (y0 < y1) = true := decide_eq_true (by omega)
    have h5d : decide (x1 ≤ (un : Int)) = false := decide_eq_false (by omega)
    clear hV
    (refine wp_region_und (by kernel_rfl) (by kernel_rfl) (fun hund => ?_); (repeat (go_big_quiet_step (fail))); with_reducible refine wpQuiet_nil ?_; clear hund; intro W1 hb1; obtain ⟨hc1, hf1⟩ := undcell hb1)
    have HB1 : Hid (Below w.heap.size w W1) := HB.out.2.trans (hb1.mono HB.out.2.size)
    clear hb1 hc1 hf1
    go_wp2
    go_returns
    exact ⟨rfl, HB1.out⟩
  by_cases h6 : y1 ≤ (n : Int)
  case neg =>
    obtain rfl := HR.out.1 (fun e => h6 e.2.2.2.2.2)
    go_enter Try.func23, Try.ntmps23
    go_wp2_with (fail)
    rw [← hV]
    have h1d : decide (0 ≤ x0) = true := decide_eq_true (by omega)
    have h2d : decide (0 ≤ y0) = true := decide_eq_true (by omega)
    have h3d : decide (x0 < x1) = true := decide_eq_true (by omega)
    have h4d : decide (y0 < y1) = true := decide_eq_true (by omega)
    have h5d : decide (x1 ≤ (un : Int)) = true := decide_eq_true (by omega)
    have h6d : decide (y1 ≤ (n : Int)) = false := decide_eq_false (by omega)
    clear hV
    (refine wp_region_und (by kernel_rfl) (by kernel_rfl) (fun hund => ?_); (repeat (go_big_quiet_step (fail))); with_reducible refine wpQuiet_nil ?_; clear hund; intro W1 hb1; obtain ⟨hc1, hf1⟩ := undcell hb1)
    have HB1 : Hid (Below w.heap.size w W1) := HB.out.2.trans (hb1.mono HB.out.2.size)
    clear hb1 hc1 hf1
    go_wp2
    go_returns
    exact ⟨rfl, HB1.out⟩
  obtain rfl := HR.out.2 ⟨h1, h3, h5, h2, h4, h6⟩
  go_enter Try.func23, Try.ntmps23
  go_wp2_with (fail)
  rw [← hV]
  have h1d : decide (0 ≤ x0) = true := decide_eq_true (by omega)
  have h2d : decide (0 ≤ y0) = true := decide_eq_true (by omega)
  have h3d : decide (x0 < x1) = true := decide_eq_true (by omega)
  have h4d : decide (y0 < y1) = true := decide_eq_true (by omega)
  have h5d : decide (x1 ≤ (un : Int)) = true := decide_eq_true (by omega)
  have h6d : decide (y1 ≤ (n : Int)) = true := decide_eq_true (by omega)
  clear hV
  (refine wp_region_und (by kernel_rfl) (by kernel_rfl) (fun hund => ?_); (repeat (go_big_quiet_step (fail))); with_reducible refine wpQuiet_nil ?_; clear hund; intro W1 hb1; obtain ⟨hc1, hf1⟩ := undcell hb1)
  have HB1 : Hid (Below w.heap.size w W1) := HB.out.2.trans (hb1.mono HB.out.2.size)
  clear hb1 hc1 hf1
  go_wp2
  go_returns
  exact ⟨rfl, HB1.out⟩

end Go.Proofs.Ythmddnachancfab
