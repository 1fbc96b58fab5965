/- Proved here: how the laws' package marks lists of approvals. -/
import Derived.Test.YtkacfjbhkgdpdaaMtK
import Derived.Test.YtkacfjbhkgdpdaaTlT
import Derived.BigQuiet
namespace Go.Proofs.Ytkacfjbhkgdpdaa
open Go.RowKit
set_option linter.unusedVariables false
set_option linter.unusedSimpArgs false

def stApproval (i : Nat) : Bool := decide (i = 0)

set_option maxHeartbeats 800000 in
theorem markApprovalS_zero (a : Option Addr) (c : Nat) (z : Int) (w : World) :
    Calls Try.prog 38 #[.slice a 0 c, .int .i64 z] w fun e w' => e = .returned (.int .i64 z) ∧ w' = w := by
  go_enter Try.func38, Try.ntmps38
  go_wp2
  refine wp_loop_rounds 1 ?_
  rw [rounds_succ]
  go_wp2
  go_returns
  exact ⟨rfl, rfl⟩
theorem marksApproval_step {ys : List Value} {n j : Nat} {z z0 : Int} {T0 : ByteArray} (hT0 : T0 = mtT (z)) (hl : ys.length = n * 2) (hj : j < n) (hz : z = z0 + 2 * (j : Int)) (h : ∀ t, t < j * 2 → ys[t]? = some (mkAt stApproval 2 z0 t)) :
    ∀ t, t < (j + 1) * 2 → (((ys.set (j * 2) (.string T0)).set (j * 2 + 1) (.int .i64 (z + 1))))[t]? = some (mkAt stApproval 2 z0 t) := by
  intro t ht
  rcases Nat.lt_or_ge t (j * 2) with h1 | h1
  · rw [List.getElem?_set_ne (by omega), List.getElem?_set_ne (by omega)]
    exact h t h1
  · rcases (by omega : t = j * 2 ∨ t = j * 2 + 1) with rfl | rfl
    · rw [List.getElem?_set_ne (by omega), List.getElem?_set_self (by (try simp); omega), mkAt_s (i := 0) (z := z) (by omega) (by decide) (by omega), hT0]
    · rw [List.getElem?_set_self (by (try simp); omega), mkAt_i (i := 1) (z := z + 1) (by omega) (by decide) (by omega)]

set_option maxRecDepth 10000 in
set_option maxHeartbeats 6400000 in
theorem markApprovalS_pos (g c n B : Nat) (ys : List Value) (z0 : Int) (w : World) (hn : n ≤ 1048576) (hz0 : 0 ≤ z0) (hz1 : z0 ≤ 1000000000000) (h : w.ownsRow B 72 2 (.slice (some ⟨g, 0, none⟩) n c) n ys) :
    Calls Try.prog 38 #[.slice (some ⟨g, 0, none⟩) n c, .int .i64 z0] w fun e w' => e = .returned (.int .i64 (z0 + 2 * (n : Int))) ∧ w'.ownsRow B 72 2 (.slice (some ⟨g, 0, none⟩) n c) n (mkP stApproval 2 z0 (n * 2)) ∧ Chg g (g + 1) w w' := by
  have H : Hid (w.ownsRow B 72 2 (.slice (some ⟨g, 0, none⟩) n c) n ys) := h
  clear h
  go_enter Try.func38, Try.ntmps38
  go_wp2
  go_loopw [1, 5] (fun q i wr => ∃ (j : Nat) (z : Int), j ≤ n ∧ i = .int .i64 j ∧ q = .int .i64 z ∧ 0 ≤ z ∧ z ≤ 1000100000000 ∧ Hid (z = z0 + 2 * (j : Int) ∧ ∃ ys : List Value, ys.length = n * 2 ∧ (∀ t, t < j * 2 → ys[t]? = some (mkAt stApproval 2 z0 t)) ∧ wr.ownsRow B 72 2 (.slice (some ⟨g, 0, none⟩) n c) n ys ∧ Chg g (g + 1) w wr)) (fun _ i _ => n - (intOf i).toNat)
  case atStart => exact ⟨0, z0, Nat.zero_le _, rfl, rfl, by omega, by omega, by simp, ys, by have := H.out.1; omega, fun t ht => by omega, H.out, Chg.refl _ _ _⟩
  case round =>
    clear H
    obtain ⟨j, z, hj, rfl, rfl, hzz0, hzz1, hR⟩ := hrel
    by_cases hlt : j < n
    · obtain ⟨hzj, ys, hyl, hyt, ho, hon⟩ := hR.out
      have HZ : Hid (z + 1 + 1 = z0 + 2 * ((j + 1 : Nat) : Int)) := by unfold Hid; omega
      have hz4 : z + 1 + 1 ≤ 1000100000000 := by omega
      have b0 : (0 : Int) ≤ (j : Int) := by omega
      have b1 : (j : Int) < (n : Int) := by omega
      obtain ⟨T0, hT0⟩ : ∃ T, T = mtT (z) := ⟨_, rfl⟩
      have HT0 : Hid (∀ W, Calls Try.prog 42 #[.int .i64 (z)] W fun e w' => e = .returned (.string T0) ∧ Below W.heap.size W w') := fun W => by rw [hT0]; exact mark_text _ W (by omega)
      have HJ : Hid (z = z0 + 2 * (j : Int) ∧ ys.length = n * 2 ∧ (∀ t, t < j * 2 → ys[t]? = some (mkAt stApproval 2 z0 t)) ∧ wr.ownsRow B 72 2 (.slice (some ⟨g, 0, none⟩) n c) n ys ∧ Chg g (g + 1) w wr ∧ T0 = mtT (z)) := ⟨hzj, hyl, hyt, ho, hon, hT0⟩
      clear hzj hyl hyt ho hon hR hT0
      go_wp2_with (fail)
      refine (HT0.out _).mono ?_
      rintro e w0 ⟨rfl, hb0⟩
      have o0 : Hid (w0.ownsRow B 72 2 (.slice (some ⟨g, 0, none⟩) n c) n (ys) ∧ Chg g (g + 1) w w0) := ⟨ownsRow_keep (HJ.out.2.2.2.1) fun q hq => hb0.block q (World.ownsRow.lt (HJ.out.2.2.2.1) q hq).2, (HJ.out.2.2.2.2.1).trans (Chg.of_below hb0)⟩
      clear hb0
      have f0 := World.ownsRow.frozenAt (o0.out.1) (j * 2)
      have g0 : w0.cell? ⟨g, j * 2, none⟩ = some ((ys).getD (j * 2) (.bool false)) := by have := HJ.out.2.1; rw [World.ownsRow.cellAt (o0.out.1) _ (by omega)]; simp [HJ.out.2.1, show j * 2 < n * 2 by omega]
      have f1 := World.ownsRow.frozenAt (o0.out.1) (j * 2 + 1)
      have g1 : w0.cell? ⟨g, j * 2 + 1, none⟩ = some ((ys).getD (j * 2 + 1) (.bool false)) := by have := HJ.out.2.1; rw [World.ownsRow.cellAt (o0.out.1) _ (by omega)]; simp [HJ.out.2.1, show j * 2 + 1 < n * 2 by omega]
      have gl : g < w0.heap.size := (World.ownsRow.lt (o0.out.1) g rfl).2
      generalize (ys).getD (j * 2) (.bool false) = v0 at g0
      generalize (ys).getD (j * 2 + 1) (.bool false) = v1 at g1
      have R : Hid (∃ ys : List Value, ys.length = n * 2 ∧ (∀ t, t < (j + 1) * 2 → ys[t]? = some (mkAt stApproval 2 z0 t)) ∧ ((w0.setCell ⟨g, j * 2, none⟩ (.string T0)).setCell ⟨g, j * 2 + 1, none⟩ (.int .i64 (z + 1))).ownsRow B 72 2 (.slice (some ⟨g, 0, none⟩) n c) n ys ∧ Chg g (g + 1) w ((w0.setCell ⟨g, j * 2, none⟩ (.string T0)).setCell ⟨g, j * 2 + 1, none⟩ (.int .i64 (z + 1)))) :=
        ⟨_, (show ((ys.set (j * 2) (.string T0)).set (j * 2 + 1) (.int .i64 (z + 1))).length = n * 2 by simpa using HJ.out.2.1), marksApproval_step HJ.out.2.2.2.2.2 HJ.out.2.1 hlt HJ.out.1 HJ.out.2.2.1, (World.ownsRow.stored ((World.ownsRow.stored (o0.out.1) (j * 2) (.string T0)).1) (j * 2 + 1) (.int .i64 (z + 1))).1, ((((o0.out.2).trans (Chg.set _ _ (Nat.le_refl _) (Nat.lt_succ_self _)))).trans (Chg.set _ _ (Nat.le_refl _) (Nat.lt_succ_self _)))⟩
      clear HJ
      go_wp2
      go_roundw
      case rel => exact ⟨j + 1, _, by omega, by go_num, rfl, by omega, hz4, HZ.out, R.out⟩
      case measure => simp [intOf]; omega
    · have HR : Hid _ := hR.out
      clear hR
      go_wp2
      go_returns
      obtain ⟨hzj, ys, hyl, hyt, ho, hon⟩ := HR.out
      obtain rfl : j = n := by omega
      refine ⟨by rw [hzj]; rfl, ?_, hon⟩
      rw [← mkP_of hyl hyt]; exact ho
theorem markApprovalS_to {w : World} {B Z n : Nat} {v : Value} {ys : List Value} (z : Int) (hn : n ≤ 1048576) (hz0 : 0 ≤ z) (hz1 : z ≤ 1000000000000) (h : w.ownsRow B 72 2 v n ys) (hZ : ∀ g, v.ownBlock = some g → g < Z) :
    Calls Try.prog 38 #[v, .int .i64 z] w fun e w' => e = .returned (.int .i64 (z + 2 * (n : Int))) ∧ w'.ownsRow B 72 2 v n (mkP stApproval 2 z (n * 2)) ∧ Chg B Z w w' := by
  rcases h.2 with ⟨rfl, rfl⟩ | ⟨g, cap, cur, rfl, hB, _⟩
  · refine (markApprovalS_zero none 0 z w).mono ?_
    rintro e w' ⟨rfl, rfl⟩
    refine ⟨by simp, ?_, Chg.refl _ _ _⟩
    have e : ys = [] := List.length_eq_zero_iff.1 (by have := h.1; omega)
    rw [e] at h
    simpa [mkP] using h
  · refine (markApprovalS_pos g cap n B ys z w hn hz0 hz1 h).mono ?_
    rintro e w' ⟨rfl, h1, h2⟩
    exact ⟨rfl, h1, h2.wide hB (hZ g rfl)⟩

set_option maxHeartbeats 800000 in
theorem heldApprovalS_zero (a : Option Addr) (c : Nat) (z : Int) (w : World) :
    Calls Try.prog 45 #[.slice a 0 c, .int .i64 z] w fun e w' => e = .returned (.int .i64 z) ∧ w' = w := by
  go_enter Try.func45, Try.ntmps45
  go_wp2
  refine wp_loop_rounds 1 ?_
  rw [rounds_succ]
  go_wp2
  go_returns
  exact ⟨rfl, rfl⟩

set_option maxRecDepth 10000 in
set_option maxHeartbeats 6400000 in
theorem heldApprovalS_pos (g c n : Nat) (z0 : Int) (w : World) (hn : n ≤ 1048576) (hz0 : 0 ≤ z0) (hz1 : z0 ≤ 1000000000000) (hg : g < w.heap.size) (h : ∀ t, t < n * 2 → w.cell? ⟨g, t, none⟩ = some (mkAt stApproval 2 z0 t)) :
    Calls Try.prog 45 #[.slice (some ⟨g, 0, none⟩) n c, .int .i64 z0] w fun e w' => e = .returned (.int .i64 (z0 + 2 * (n : Int))) ∧ Below w.heap.size w w' := by
  have H : Hid (g < w.heap.size ∧ ∀ t, t < n * 2 → w.cell? ⟨g, t, none⟩ = some (mkAt stApproval 2 z0 t)) := ⟨hg, h⟩
  clear h hg
  go_enter Try.func45, Try.ntmps45
  go_wp2
  go_loopw [1, 5] (fun q i wr => ∃ (j : Nat) (z : Int), j ≤ n ∧ i = .int .i64 j ∧ q = .int .i64 z ∧ 0 ≤ z ∧ z ≤ 1000100000000 ∧ Hid (z = z0 + 2 * (j : Int) ∧ Below w.heap.size w wr)) (fun _ i _ => n - (intOf i).toNat)
  case atStart => exact ⟨0, z0, Nat.zero_le _, rfl, rfl, by omega, by omega, by simp, Below.refl _ _⟩
  case round =>
    obtain ⟨j, z, hj, rfl, rfl, hzz0, hzz1, hR⟩ := hrel
    by_cases hlt : j < n
    · have HZ : Hid (z + 1 + 1 = z0 + 2 * ((j + 1 : Nat) : Int)) := by unfold Hid; have := hR.out.1; omega
      have hz4 : z + 1 + 1 ≤ 1000100000000 := by have := HZ.out; omega
      have b0 : (0 : Int) ≤ (j : Int) := by omega
      have b1 : (j : Int) < (n : Int) := by omega
      obtain ⟨T0, hT0⟩ : ∃ T, T = mtT (z) := ⟨_, rfl⟩
      have HT0 : Hid (∀ W, Calls Try.prog 42 #[.int .i64 (z)] W fun e w' => e = .returned (.string T0) ∧ Below W.heap.size W w') := fun W => by rw [hT0]; exact mark_text _ W (by omega)
      have c0 : Hid (w.cell? ⟨g, j * 2, none⟩ = some (.string T0)) := by unfold Hid; have h9 := hR.out.1; rw [H.out.2 (j * 2) (by omega), mkAt_s (i := 0) (z := z) (by omega) (by decide) (by omega), hT0]
      have c1 : Hid (w.cell? ⟨g, j * 2 + 1, none⟩ = some (.int .i64 (z + 1))) := by unfold Hid; have h9 := hR.out.1; rw [H.out.2 (j * 2 + 1) (by omega), mkAt_i (i := 1) (z := z + 1) (by omega) (by decide) (by omega)]
      have HB : Hid (Below w.heap.size w wr) := hR.out.2
      clear hR hT0
      have d0 := (HB.out.cell (p := ⟨g, j * 2, none⟩) H.out.1).trans c0.out
      have e0 : g < wr.heap.size := Nat.lt_of_lt_of_le H.out.1 HB.out.size
      go_wp2
      (refine wp_region_und (by kernel_rfl) (by kernel_rfl) (fun hund => ?_); (repeat (go_big_quiet_step (first | (go_at_call 42; with_reducible refine und_call ?_ (HT0.out _); exact Nat.le_refl _)))); with_reducible refine wpQuiet_nil ?_; clear hund; intro W1 hb1; obtain ⟨hc1, hf1⟩ := undcell hb1)
      have HB0 : Hid (Below w.heap.size w W1) := HB.out.trans (hb1.mono HB.out.size)
      clear hb1 d0 e0
      have d1 := (HB0.out.cell (p := ⟨g, j * 2 + 1, none⟩) H.out.1).trans c1.out
      have e1 : g < W1.heap.size := Nat.lt_of_lt_of_le H.out.1 HB0.out.size
      go_wp2
      go_roundw
      case rel => exact ⟨j + 1, _, by omega, by go_num, rfl, by omega, hz4, HZ.out, HB0.out⟩
      case measure => simp [intOf]; omega
    · have e : Hid (z = z0 + 2 * (n : Int)) := by unfold Hid; rw [hR.out.1]; omega
      have HB : Hid (Below w.heap.size w wr) := hR.out.2
      clear hR
      go_wp2
      go_returns
      exact ⟨by rw [← e.out]; rfl, HB.out⟩
theorem heldApprovalS_to {w : World} {B n : Nat} {v : Value} (z : Int) (hn : n ≤ 1048576) (hz0 : 0 ≤ z) (hz1 : z ≤ 1000000000000) (h : w.ownsRow B 72 2 v n (mkP stApproval 2 z (n * 2))) :
    Calls Try.prog 45 #[v, .int .i64 z] w fun e w' => e = .returned (.int .i64 (z + 2 * (n : Int))) ∧ Below w.heap.size w w' := by
  rcases h.2 with ⟨rfl, rfl⟩ | ⟨g, cap, cur, rfl, hB, _⟩
  · refine (heldApprovalS_zero none 0 z w).mono ?_
    rintro e w' ⟨rfl, rfl⟩
    exact ⟨by simp, Below.refl _ _⟩
  · refine heldApprovalS_pos g cap n z w hn hz0 hz1 (World.ownsRow.lt h g rfl).2 fun t ht => ?_
    rw [World.ownsRow.cellAt (w := w) (g := g) (cap := cap) h t (by omega), mkP_at ht]

end Go.Proofs.Ytkacfjbhkgdpdaa
