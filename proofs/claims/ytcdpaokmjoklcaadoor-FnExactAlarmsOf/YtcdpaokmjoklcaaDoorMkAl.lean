/- Proved here: how the laws' package marks lists of alarms, and compares and marks an answer with a code and such a list. -/
import Derived.Test.YtcdpaokmjoklcaaDoorLwS
import Derived.Test.YtcdpaokmjoklcaaDoorAlB
namespace Go.Proofs.YtcdpaokmjoklcaaDoor
open Go.RowKit
set_option linter.unusedVariables false
set_option linter.unusedSimpArgs false

set_option maxHeartbeats 800000 in
theorem markAlarmS_zero (a : Option Addr) (c : Nat) (z : Int) (w : World) :
    Calls Tryd.prog 22 #[.slice a 0 c, .int .i64 z] w fun e w' => e = .returned (.int .i64 z) ∧ w' = w := by
  go_enter Tryd.func22, Tryd.ntmps22
  go_wp2
  refine wp_loop_rounds 1 ?_
  rw [rounds_succ]
  go_wp2
  go_returns
  exact ⟨rfl, rfl⟩
theorem marksAlarm_step {ys : List Value} {n j : Nat} {z z0 : Int} (hl : ys.length = n * 2) (hj : j < n) (hz : z = z0 + 2 * (j : Int)) (h : ∀ t, t < j * 2 → ys[t]? = some (.int .i64 (z0 + (t : Int)))) :
    ∀ t, t < (j + 1) * 2 → (((ys.set (j * 2) (.int .i64 (z))).set (j * 2 + 1) (.int .i64 (z + 1))))[t]? = some (.int .i64 (z0 + (t : Int))) := by
  intro t ht
  rcases Nat.lt_or_ge t (j * 2) with h1 | h1
  · rw [List.getElem?_set_ne (by omega), List.getElem?_set_ne (by omega)]
    exact h t h1
  · rcases (by omega : t = j * 2 ∨ t = j * 2 + 1) with rfl | rfl
    · rw [List.getElem?_set_ne (by omega), List.getElem?_set_self (by (try simp); omega)]
      rw [show z = z0 + (((j * 2 : Nat)) : Int) by omega]
    · rw [List.getElem?_set_self (by (try simp); omega)]
      rw [show z + 1 = z0 + (((j * 2 + 1 : Nat)) : Int) by omega]

set_option maxRecDepth 10000 in
set_option maxHeartbeats 3200000 in
theorem markAlarmS_pos (g c n B : Nat) (ys : List Value) (z0 : Int) (w : World) (hn : n ≤ 1048576) (hz0 : 0 ≤ z0) (hz1 : z0 ≤ 1000000000000) (h : w.ownsRow B 38 2 (.slice (some ⟨g, 0, none⟩) n c) n ys) :
    Calls Tryd.prog 22 #[.slice (some ⟨g, 0, none⟩) n c, .int .i64 z0] w fun e w' => e = .returned (.int .i64 (z0 + 2 * (n : Int))) ∧ w'.ownsRow B 38 2 (.slice (some ⟨g, 0, none⟩) n c) n (mkV z0 (n * 2)) ∧ Only g w w' := by
  have H : Hid (w.ownsRow B 38 2 (.slice (some ⟨g, 0, none⟩) n c) n ys) := h
  clear h
  go_enter Tryd.func22, Tryd.ntmps22
  go_wp2
  go_loopw [1, 5] (fun q i wr => ∃ (j : Nat) (z : Int), j ≤ n ∧ i = .int .i64 j ∧ q = .int .i64 z ∧ 0 ≤ z ∧ z ≤ 1000100000000 ∧ Hid (z = z0 + 2 * (j : Int) ∧ ∃ ys : List Value, ys.length = n * 2 ∧ (∀ t, t < j * 2 → ys[t]? = some (.int .i64 (z0 + (t : Int)))) ∧ wr.ownsRow B 38 2 (.slice (some ⟨g, 0, none⟩) n c) n ys ∧ Only g w wr)) (fun _ i _ => n - (intOf i).toNat)
  case atStart => exact ⟨0, z0, Nat.zero_le _, rfl, rfl, by omega, by omega, by simp, ys, by have := H.out.1; omega, fun t ht => by omega, H.out, Only.refl _ _⟩
  case round =>
    clear H
    obtain ⟨j, z, hj, rfl, rfl, hzz0, hzz1, hR⟩ := hrel
    by_cases hlt : j < n
    · obtain ⟨hzj, ys, hyl, hyt, ho, hon⟩ := hR.out
      have HZ : Hid (z + 1 + 1 = z0 + 2 * ((j + 1 : Nat) : Int)) := by unfold Hid; omega
      have hz4 : z + 1 + 1 ≤ 1000100000000 := by omega
      have f0 := World.ownsRow.frozenAt ho (j * 2)
      have g0 : wr.cell? ⟨g, j * 2, none⟩ = some (ys.getD (j * 2) (.bool false)) := by rw [World.ownsRow.cellAt ho _ (by omega)]; simp [hyl, show j * 2 < n * 2 by omega]
      have f1 := World.ownsRow.frozenAt ho (j * 2 + 1)
      have g1 : wr.cell? ⟨g, j * 2 + 1, none⟩ = some (ys.getD (j * 2 + 1) (.bool false)) := by rw [World.ownsRow.cellAt ho _ (by omega)]; simp [hyl, show j * 2 + 1 < n * 2 by omega]
      have R : Hid (∃ ys : List Value, ys.length = n * 2 ∧ (∀ t, t < (j + 1) * 2 → ys[t]? = some (.int .i64 (z0 + (t : Int)))) ∧ (((wr.setCell ⟨g, j * 2, none⟩ (.int .i64 (z))).setCell ⟨g, j * 2 + 1, none⟩ (.int .i64 (z + 1)))).ownsRow B 38 2 (.slice (some ⟨g, 0, none⟩) n c) n ys ∧ Only g w (((wr.setCell ⟨g, j * 2, none⟩ (.int .i64 (z))).setCell ⟨g, j * 2 + 1, none⟩ (.int .i64 (z + 1))))) :=
        ⟨_, by simpa using hyl, marksAlarm_step hyl hlt hzj hyt, (World.ownsRow.stored (World.ownsRow.stored ho (j * 2) (.int .i64 (z))).1 (j * 2 + 1) (.int .i64 (z + 1))).1, ((hon.set _ _).set _ _)⟩
      have hgl : g < wr.heap.size := (World.ownsRow.lt ho g rfl).2
      clear ho hon hR hyl hzj hyt
      generalize ys.getD (j * 2) (.bool false) = v0 at g0
      generalize ys.getD (j * 2 + 1) (.bool false) = v1 at g1
      have b0 : (0 : Int) ≤ (j : Int) := by omega
      have b1 : (j : Int) < (n : Int) := by omega
      go_wp2
      go_roundw
      case rel => exact ⟨j + 1, _, by omega, by go_num, rfl, by omega, hz4, HZ.out, R.out⟩
      case measure => simp [intOf]; omega
    · have HR : Hid _ := hR.out
      clear hR
      go_wp2
      go_returns
      obtain ⟨hzj, ys, hyl, hyt, ho, hon⟩ := HR.out
      obtain rfl : j = n := by omega
      refine ⟨by rw [hzj]; rfl, ?_, hon⟩
      rw [← mkV_of hyl hyt]; exact ho
theorem markAlarmS_to {w : World} {B Z n : Nat} {v : Value} {ys : List Value} (z : Int) (hn : n ≤ 1048576) (hz0 : 0 ≤ z) (hz1 : z ≤ 1000000000000) (h : w.ownsRow B 38 2 v n ys) (hZ : ∀ g, v.ownBlock = some g → g < Z) :
    Calls Tryd.prog 22 #[v, .int .i64 z] w fun e w' => e = .returned (.int .i64 (z + 2 * (n : Int))) ∧ w'.ownsRow B 38 2 v n (mkV z (n * 2)) ∧ Chg B Z w w' := by
  rcases h.2 with ⟨rfl, rfl⟩ | ⟨g, cap, cur, rfl, hB, _⟩
  · refine (markAlarmS_zero none 0 z w).mono ?_
    rintro e w' ⟨rfl, rfl⟩
    refine ⟨by simp, ?_, Chg.refl _ _ _⟩
    have e : ys = [] := List.length_eq_zero_iff.1 (by have := h.1; omega)
    rw [e] at h
    simpa [mkV] using h
  · refine (markAlarmS_pos g cap n B ys z w hn hz0 hz1 h).mono ?_
    rintro e w' ⟨rfl, h1, h2⟩
    exact ⟨rfl, h1, Chg.only h2 hB (hZ g rfl)⟩

set_option maxHeartbeats 800000 in
theorem heldAlarmS_zero (a : Option Addr) (c : Nat) (z : Int) (w : World) :
    Calls Tryd.prog 23 #[.slice a 0 c, .int .i64 z] w fun e w' => e = .returned (.int .i64 z) ∧ w' = w := by
  go_enter Tryd.func23, Tryd.ntmps23
  go_wp2
  refine wp_loop_rounds 1 ?_
  rw [rounds_succ]
  go_wp2
  go_returns
  exact ⟨rfl, rfl⟩

set_option maxHeartbeats 3200000 in
theorem heldAlarmS_pos (g c n : Nat) (z0 : Int) (w : World) (hn : n ≤ 1048576) (hz0 : 0 ≤ z0) (hz1 : z0 ≤ 1000000000000) (h : ∀ t, t < n * 2 → w.cell? ⟨g, t, none⟩ = some (.int .i64 (z0 + (t : Int)))) :
    Calls Tryd.prog 23 #[.slice (some ⟨g, 0, none⟩) n c, .int .i64 z0] w fun e w' => e = .returned (.int .i64 (z0 + 2 * (n : Int))) ∧ w' = w := by
  have H : Hid (∀ t, t < n * 2 → w.cell? ⟨g, t, none⟩ = some (.int .i64 (z0 + (t : Int)))) := h
  clear h
  go_enter Tryd.func23, Tryd.ntmps23
  go_wp2
  go_loop [1, 5] (fun q i => ∃ (j : Nat) (z : Int), j ≤ n ∧ i = .int .i64 j ∧ q = .int .i64 z ∧ 0 ≤ z ∧ z ≤ 1000100000000 ∧ Hid (z = z0 + 2 * (j : Int))) (fun _ i => n - (intOf i).toNat)
  case atStart => exact ⟨0, z0, Nat.zero_le _, rfl, rfl, by omega, by omega, by unfold Hid; simp⟩
  case round =>
    obtain ⟨j, z, hj, rfl, rfl, hzz0, hzz1, hR⟩ := hrel
    by_cases hlt : j < n
    · have HZ : Hid (z + 1 + 1 = z0 + 2 * ((j + 1 : Nat) : Int)) := by unfold Hid; have := hR.out; omega
      have c0 := H.out (j * 2) (by omega)
      rw [show z0 + (((j * 2 : Nat)) : Int) = z by have := hR.out; omega] at c0
      have c1 := H.out (j * 2 + 1) (by omega)
      rw [show z0 + (((j * 2 + 1 : Nat)) : Int) = z + 1 by have := hR.out; omega] at c1
      have b0 : (0 : Int) ≤ (j : Int) := by omega
      have b1 : (j : Int) < (n : Int) := by omega
      have hz4 : z + 1 + 1 ≤ 1000100000000 := by have := HZ.out; omega
      clear hR
      go_wp2
      go_round
      case rel => exact ⟨j + 1, _, by omega, by go_num, rfl, by omega, hz4, HZ.out⟩
      case measure => simp [intOf]; omega
    · have e : Hid (z = z0 + 2 * (n : Int)) := by unfold Hid; rw [hR.out]; omega
      go_wp2
      go_returns
      exact ⟨by rw [← e.out]; rfl, rfl⟩
theorem heldAlarmS_to {w : World} {B n : Nat} {v : Value} (z : Int) (hn : n ≤ 1048576) (hz0 : 0 ≤ z) (hz1 : z ≤ 1000000000000) (h : w.ownsRow B 38 2 v n (mkV z (n * 2))) :
    Calls Tryd.prog 23 #[v, .int .i64 z] w fun e w' => e = .returned (.int .i64 (z + 2 * (n : Int))) ∧ w' = w := by
  rcases h.2 with ⟨rfl, rfl⟩ | ⟨g, cap, cur, rfl, hB, _⟩
  · refine (heldAlarmS_zero none 0 z w).mono ?_
    rintro e w' ⟨rfl, rfl⟩
    exact ⟨by simp, rfl⟩
  · refine heldAlarmS_pos g cap n z w hn hz0 hz1 fun t ht => ?_
    rw [World.ownsRow.cellAt (w := w) (g := g) (cap := cap) h t (by omega), mkV_at ht]

set_option maxHeartbeats 1600000 in
theorem eqAlarmsResult_to (C : Int) {w : World} {va vb : Value} {s : List Alm} (hn : s.length ≤ 1099511627776) (ha : RG 2 alC w va s) (hb : RG 2 alC w vb s) :
    Calls Tryd.prog 7 #[.agg #[.int .i64 C, va], .agg #[.int .i64 C, vb]] w fun e w' => e = .returned (.bool true) ∧ Below w.heap.size w w' := by
  obtain ⟨a1, c1', rfl⟩ := ha.form
  obtain ⟨a2, c2', rfl⟩ := hb.form
  obtain ⟨n, hnn⟩ : ∃ n, n = s.length := ⟨_, rfl⟩
  rw [← hnn] at ha hb ⊢
  have H : Hid (RG 2 alC w (.slice a1 n c1') s ∧ RG 2 alC w (.slice a2 n c2') s ∧ s.length ≤ 1099511627776) := ⟨ha, hb, hn⟩
  clear ha hb hn hnn
  go_enter Tryd.func7, Tryd.ntmps7
  go_wp2_with (fail)
  refine (eqAlarmS_same H.out.2.2 (H.out.1.below (by (repeat' (first | (with_reducible exact Below.refl _ _) | (with_reducible assumption) | (with_reducible refine Below.setCell ?_ ?_ _) | (with_reducible refine Below.alloc ?_ ?_ _) | (with_reducible refine below_drewN ?_ _) | (with_reducible refine Below.drew ?_) | (with_reducible exact Nat.le_refl _) | omega | (simp; done) | (simp; omega))))) (H.out.2.1.below (by (repeat' (first | (with_reducible exact Below.refl _ _) | (with_reducible assumption) | (with_reducible refine Below.setCell ?_ ?_ _) | (with_reducible refine Below.alloc ?_ ?_ _) | (with_reducible refine below_drewN ?_ _) | (with_reducible refine Below.drew ?_) | (with_reducible exact Nat.le_refl _) | omega | (simp; done) | (simp; omega)))))).mono ?_
  rintro e w1 ⟨rfl, hb1⟩
  have HB1 : Hid (Below w.heap.size w w1) := (show Below w.heap.size w _ from by (repeat' (first | (with_reducible exact Below.refl _ _) | (with_reducible assumption) | (with_reducible refine Below.setCell ?_ ?_ _) | (with_reducible refine Below.alloc ?_ ?_ _) | (with_reducible refine below_drewN ?_ _) | (with_reducible refine Below.drew ?_) | (with_reducible exact Nat.le_refl _) | omega | (simp; done) | (simp; omega)))).trans (hb1.mono (by simp; omega))
  clear hb1
  go_wp2
  go_returns
  exact ⟨rfl, HB1.out⟩

set_option maxHeartbeats 1600000 in
theorem markAlarmsResult_to (C : Int) {w : World} {B Z n : Nat} {v : Value} {ys : List Value} (z : Int) (hn : n ≤ 1048576) (hz0 : 0 ≤ z) (hz1 : z ≤ 1000000000000) (h : w.ownsRow B 38 2 v n ys) (hZ : ∀ g, v.ownBlock = some g → g < Z) :
    Calls Tryd.prog 10 #[.agg #[.int .i64 C, v], .int .i64 z] w fun e w' => e = .returned (.int .i64 (z + 2 * (n : Int))) ∧ w'.ownsRow B 38 2 v n (mkV z (n * 2)) ∧ Chg B Z w w' := by
  obtain ⟨a, c, rfl⟩ : ∃ a c, v = .slice a n c := by
    rcases h.2 with ⟨rfl, rfl⟩ | ⟨g, cap, cur, rfl, _⟩
    · exact ⟨_, _, rfl⟩
    · exact ⟨_, _, rfl⟩
  have H : Hid (w.ownsRow B 38 2 (.slice a n c) n ys ∧ (∀ g, (Value.slice a n c).ownBlock = some g → g < Z)) := ⟨h, hZ⟩
  clear h hZ
  obtain ⟨T, hT⟩ : ∃ T, T = z + 2 * (n : Int) := ⟨_, rfl⟩
  rw [← hT]
  have HT : Hid (T = z + 2 * (n : Int)) := hT
  clear hT
  go_enter Tryd.func10, Tryd.ntmps10
  go_wp2_with (fail)
  refine (markAlarmS_to z hn hz0 hz1 (ownsRow_keep H.out.1 fun g hg => Below.heap_alloc _ _ _ (World.ownsRow.lt H.out.1 g hg).2) H.out.2).mono ?_
  rintro e w1 ⟨rfl, hi, hc⟩
  have HC : Hid (w1.ownsRow B 38 2 (.slice a n c) n (mkV z (n * 2)) ∧ Chg B Z w w1) :=
    ⟨hi, (Chg.of_below (show Below w.heap.size w (w.alloc (.cells #[.int .i64 C, .slice a n c] 25)) from by (repeat' (first | (with_reducible exact Below.refl _ _) | (with_reducible assumption) | (with_reducible refine Below.setCell ?_ ?_ _) | (with_reducible refine Below.alloc ?_ ?_ _) | (with_reducible refine below_drewN ?_ _) | (with_reducible refine Below.drew ?_) | (with_reducible exact Nat.le_refl _) | omega | (simp; done) | (simp; omega))))).trans hc⟩
  clear hi hc
  rw [← HT.out]
  go_wp2
  go_returns
  exact ⟨rfl, HC.out.1, HC.out.2⟩

set_option maxHeartbeats 1600000 in
theorem heldAlarmsResult_to (C : Int) {w : World} {B n : Nat} {v : Value} (z : Int) (hn : n ≤ 1048576) (hz0 : 0 ≤ z) (hz1 : z ≤ 1000000000000) (h : w.ownsRow B 38 2 v n (mkV z (n * 2))) :
    Calls Tryd.prog 11 #[.agg #[.int .i64 C, v], .int .i64 z] w fun e w' => e = .returned (.int .i64 (z + 2 * (n : Int))) ∧ Below w.heap.size w w' := by
  obtain ⟨a, c, rfl⟩ : ∃ a c, v = .slice a n c := by
    rcases h.2 with ⟨rfl, rfl⟩ | ⟨g, cap, cur, rfl, _⟩
    · exact ⟨_, _, rfl⟩
    · exact ⟨_, _, rfl⟩
  have H : Hid (w.ownsRow B 38 2 (.slice a n c) n (mkV z (n * 2))) := h
  clear h
  obtain ⟨T, hT⟩ : ∃ T, T = z + 2 * (n : Int) := ⟨_, rfl⟩
  have hT0 : ¬ T < 0 := by omega
  have HT : Hid (T = z + 2 * (n : Int)) := hT
  rw [← hT]
  clear hT
  go_enter Tryd.func11, Tryd.ntmps11
  go_wp2_with (fail)
  refine (heldAlarmS_to z hn hz0 hz1 (ownsRow_keep H.out fun g hg => Below.heap_alloc _ _ _ (World.ownsRow.lt H.out g hg).2)).mono ?_
  rintro e w1 ⟨rfl, rfl⟩
  rw [← HT.out]
  go_wp2
  go_returns
  exact ⟨rfl, by (repeat' (first | (with_reducible exact Below.refl _ _) | (with_reducible assumption) | (with_reducible refine Below.setCell ?_ ?_ _) | (with_reducible refine Below.alloc ?_ ?_ _) | (with_reducible refine below_drewN ?_ _) | (with_reducible refine Below.drew ?_) | (with_reducible exact Nat.le_refl _) | omega | (simp; done) | (simp; omega)))⟩

end Go.Proofs.YtcdpaokmjoklcaaDoor
