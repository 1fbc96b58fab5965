/- Proved here: how the laws' package marks lists of events. -/
import Derived.Test.YtkacfjbhkgdpdaaMtK
import Derived.Test.YtkacfjbhkgdpdaaTvT
import Derived.BigQuiet
namespace Go.Proofs.Ytkacfjbhkgdpdaa
open Go.ChangeShapes Go.WideShapes Go.ChangeAt Go.RowKit Go.Joins
set_option linter.unusedVariables false
set_option linter.unusedSimpArgs false

def stToolEvent (i : Nat) : Bool := decide (i = 1)

set_option maxHeartbeats 800000 in
theorem markToolEventS_zero (a : Option Addr) (c : Nat) (z : Int) (w : World) :
    Calls Try.prog 22 #[.slice a 0 c, .int .i64 z] w fun e w' => e = .returned (.int .i64 z) ∧ w' = w := by
  go_enter Try.func22, Try.ntmps22
  go_wp2
  refine wp_loop_rounds 1 ?_
  rw [rounds_succ]
  go_wp2
  go_returns
  exact ⟨rfl, rfl⟩
theorem marksToolEvent_step {ys : List Value} {n j : Nat} {z z0 : Int} {T1 : ByteArray} (hT1 : T1 = mtT (z + 1)) (hl : ys.length = n * 3) (hj : j < n) (hz : z = z0 + 3 * (j : Int)) (h : ∀ t, t < j * 3 → ys[t]? = some (mkAt stToolEvent 3 z0 t)) :
    ∀ t, t < (j + 1) * 3 → ((((ys.set (j * 3) (.int .i64 (z))).set (j * 3 + 1) (.string T1)).set (j * 3 + 2) (.int .i64 (z + 1 + 1))))[t]? = some (mkAt stToolEvent 3 z0 t) := by
  intro t ht
  rcases Nat.lt_or_ge t (j * 3) with h1 | h1
  · rw [List.getElem?_set_ne (by omega), List.getElem?_set_ne (by omega), List.getElem?_set_ne (by omega)]
    exact h t h1
  · rcases (by omega : t = j * 3 ∨ t = j * 3 + 1 ∨ t = j * 3 + 2) with rfl | rfl | rfl
    · rw [List.getElem?_set_ne (by omega), List.getElem?_set_ne (by omega), List.getElem?_set_self (by (try simp); omega), mkAt_i (i := 0) (z := z) (by omega) (by decide) (by omega)]
    · rw [List.getElem?_set_ne (by omega), List.getElem?_set_self (by (try simp); omega), mkAt_s (i := 1) (z := z + 1) (by omega) (by decide) (by omega), hT1]
    · rw [List.getElem?_set_self (by (try simp); omega), mkAt_i (i := 2) (z := z + 1 + 1) (by omega) (by decide) (by omega)]

set_option maxRecDepth 10000 in
set_option maxHeartbeats 6400000 in
theorem markToolEventS_pos (g c n B : Nat) (ys : List Value) (z0 : Int) (w : World) (hn : n ≤ 1048576) (hz0 : 0 ≤ z0) (hz1 : z0 ≤ 1000000000000) (h : w.ownsRow B 36 3 (.slice (some ⟨g, 0, none⟩) n c) n ys) :
    Calls Try.prog 22 #[.slice (some ⟨g, 0, none⟩) n c, .int .i64 z0] w fun e w' => e = .returned (.int .i64 (z0 + 3 * (n : Int))) ∧ w'.ownsRow B 36 3 (.slice (some ⟨g, 0, none⟩) n c) n (mkP stToolEvent 3 z0 (n * 3)) ∧ Chg g (g + 1) w w' := by
  have H : Hid (w.ownsRow B 36 3 (.slice (some ⟨g, 0, none⟩) n c) n ys) := h
  clear h
  go_enter Try.func22, Try.ntmps22
  go_wp2
  go_loopw [1, 5] (fun q i wr => ∃ (j : Nat) (z : Int), j ≤ n ∧ i = .int .i64 j ∧ q = .int .i64 z ∧ 0 ≤ z ∧ z ≤ 1000100000000 ∧ Hid (z = z0 + 3 * (j : Int) ∧ ∃ ys : List Value, ys.length = n * 3 ∧ (∀ t, t < j * 3 → ys[t]? = some (mkAt stToolEvent 3 z0 t)) ∧ wr.ownsRow B 36 3 (.slice (some ⟨g, 0, none⟩) n c) n ys ∧ Chg g (g + 1) w wr)) (fun _ i _ => n - (intOf i).toNat)
  case atStart => exact ⟨0, z0, Nat.zero_le _, rfl, rfl, by omega, by omega, by simp, ys, by have := H.out.1; omega, fun t ht => by omega, H.out, Chg.refl _ _ _⟩
  case round =>
    clear H
    obtain ⟨j, z, hj, rfl, rfl, hzz0, hzz1, hR⟩ := hrel
    by_cases hlt : j < n
    · obtain ⟨hzj, ys, hyl, hyt, ho, hon⟩ := hR.out
      have HZ : Hid (z + 1 + 1 + 1 = z0 + 3 * ((j + 1 : Nat) : Int)) := by unfold Hid; omega
      have hz4 : z + 1 + 1 + 1 ≤ 1000100000000 := by omega
      have b0 : (0 : Int) ≤ (j : Int) := by omega
      have b1 : (j : Int) < (n : Int) := by omega
      obtain ⟨T1, hT1⟩ : ∃ T, T = mtT (z + 1) := ⟨_, rfl⟩
      have HT1 : Hid (∀ W, Calls Try.prog 42 #[.int .i64 (z + 1)] W fun e w' => e = .returned (.string T1) ∧ Below W.heap.size W w') := fun W => by rw [hT1]; exact mark_text _ W (by omega)
      have HJ : Hid (z = z0 + 3 * (j : Int) ∧ ys.length = n * 3 ∧ (∀ t, t < j * 3 → ys[t]? = some (mkAt stToolEvent 3 z0 t)) ∧ wr.ownsRow B 36 3 (.slice (some ⟨g, 0, none⟩) n c) n ys ∧ Chg g (g + 1) w wr ∧ T1 = mtT (z + 1)) := ⟨hzj, hyl, hyt, ho, hon, hT1⟩
      clear hzj hyl hyt ho hon hR hT1
      have f0 := World.ownsRow.frozenAt (HJ.out.2.2.2.1) (j * 3)
      have g0 : wr.cell? ⟨g, j * 3, none⟩ = some ((ys).getD (j * 3) (.bool false)) := by have := HJ.out.2.1; rw [World.ownsRow.cellAt (HJ.out.2.2.2.1) _ (by omega)]; simp [HJ.out.2.1, show j * 3 < n * 3 by omega]
      have f1 := World.ownsRow.frozenAt (HJ.out.2.2.2.1) (j * 3 + 1)
      have g1 : wr.cell? ⟨g, j * 3 + 1, none⟩ = some ((ys).getD (j * 3 + 1) (.bool false)) := by have := HJ.out.2.1; rw [World.ownsRow.cellAt (HJ.out.2.2.2.1) _ (by omega)]; simp [HJ.out.2.1, show j * 3 + 1 < n * 3 by omega]
      have f2 := World.ownsRow.frozenAt (HJ.out.2.2.2.1) (j * 3 + 2)
      have g2 : wr.cell? ⟨g, j * 3 + 2, none⟩ = some ((ys).getD (j * 3 + 2) (.bool false)) := by have := HJ.out.2.1; rw [World.ownsRow.cellAt (HJ.out.2.2.2.1) _ (by omega)]; simp [HJ.out.2.1, show j * 3 + 2 < n * 3 by omega]
      have gl : g < wr.heap.size := (World.ownsRow.lt (HJ.out.2.2.2.1) g rfl).2
      generalize (ys).getD (j * 3) (.bool false) = v0 at g0
      generalize (ys).getD (j * 3 + 1) (.bool false) = v1 at g1
      generalize (ys).getD (j * 3 + 2) (.bool false) = v2 at g2
      go_wp2_with (fail)
      refine (HT1.out _).mono ?_
      rintro e w1 ⟨rfl, hb1⟩
      clear f0 f1 f2 g0 g1 g2 gl
      have o1 : Hid (w1.ownsRow B 36 3 (.slice (some ⟨g, 0, none⟩) n c) n ((ys.set (j * 3) (.int .i64 (z)))) ∧ Chg g (g + 1) w w1) := ⟨ownsRow_keep ((World.ownsRow.stored (HJ.out.2.2.2.1) (j * 3) (.int .i64 (z))).1) fun q hq => hb1.block q (World.ownsRow.lt ((World.ownsRow.stored (HJ.out.2.2.2.1) (j * 3) (.int .i64 (z))).1) q hq).2, (((HJ.out.2.2.2.2.1).trans (Chg.set _ _ (Nat.le_refl _) (Nat.lt_succ_self _)))).trans (Chg.of_below hb1)⟩
      clear hb1
      have f1 := World.ownsRow.frozenAt (o1.out.1) (j * 3 + 1)
      have g1 : w1.cell? ⟨g, j * 3 + 1, none⟩ = some (((ys.set (j * 3) (.int .i64 (z)))).getD (j * 3 + 1) (.bool false)) := by have := (show (ys.set (j * 3) (.int .i64 (z))).length = n * 3 by simpa using HJ.out.2.1); rw [World.ownsRow.cellAt (o1.out.1) _ (by omega)]; simp [(show (ys.set (j * 3) (.int .i64 (z))).length = n * 3 by simpa using HJ.out.2.1), show j * 3 + 1 < n * 3 by omega]
      have f2 := World.ownsRow.frozenAt (o1.out.1) (j * 3 + 2)
      have g2 : w1.cell? ⟨g, j * 3 + 2, none⟩ = some (((ys.set (j * 3) (.int .i64 (z)))).getD (j * 3 + 2) (.bool false)) := by have := (show (ys.set (j * 3) (.int .i64 (z))).length = n * 3 by simpa using HJ.out.2.1); rw [World.ownsRow.cellAt (o1.out.1) _ (by omega)]; simp [(show (ys.set (j * 3) (.int .i64 (z))).length = n * 3 by simpa using HJ.out.2.1), show j * 3 + 2 < n * 3 by omega]
      have gl : g < w1.heap.size := (World.ownsRow.lt (o1.out.1) g rfl).2
      generalize ((ys.set (j * 3) (.int .i64 (z)))).getD (j * 3 + 1) (.bool false) = v1 at g1
      generalize ((ys.set (j * 3) (.int .i64 (z)))).getD (j * 3 + 2) (.bool false) = v2 at g2
      have R : Hid (∃ ys : List Value, ys.length = n * 3 ∧ (∀ t, t < (j + 1) * 3 → ys[t]? = some (mkAt stToolEvent 3 z0 t)) ∧ ((w1.setCell ⟨g, j * 3 + 1, none⟩ (.string T1)).setCell ⟨g, j * 3 + 2, none⟩ (.int .i64 (z + 1 + 1))).ownsRow B 36 3 (.slice (some ⟨g, 0, none⟩) n c) n ys ∧ Chg g (g + 1) w ((w1.setCell ⟨g, j * 3 + 1, none⟩ (.string T1)).setCell ⟨g, j * 3 + 2, none⟩ (.int .i64 (z + 1 + 1)))) :=
        ⟨_, (show (((ys.set (j * 3) (.int .i64 (z))).set (j * 3 + 1) (.string T1)).set (j * 3 + 2) (.int .i64 (z + 1 + 1))).length = n * 3 by simpa using HJ.out.2.1), marksToolEvent_step HJ.out.2.2.2.2.2 HJ.out.2.1 hlt HJ.out.1 HJ.out.2.2.1, (World.ownsRow.stored ((World.ownsRow.stored (o1.out.1) (j * 3 + 1) (.string T1)).1) (j * 3 + 2) (.int .i64 (z + 1 + 1))).1, ((((o1.out.2).trans (Chg.set _ _ (Nat.le_refl _) (Nat.lt_succ_self _)))).trans (Chg.set _ _ (Nat.le_refl _) (Nat.lt_succ_self _)))⟩
      clear HJ
      go_wp2
      go_roundw
      case rel => exact ⟨j + 1, _, by omega, by go_num, rfl, by omega, hz4, HZ.out, R.out⟩
      case measure => simp [intOf]; omega
    · have HR : Hid _ := hR.out
      clear hR
      go_wp2
      go_returns
      obtain ⟨hzj, ys, hyl, hyt, ho, hon⟩ := HR.out
      obtain rfl : j = n := by omega
      refine ⟨by rw [hzj]; rfl, ?_, hon⟩
      rw [← mkP_of hyl hyt]; exact ho
theorem markToolEventS_to {w : World} {B Z n : Nat} {v : Value} {ys : List Value} (z : Int) (hn : n ≤ 1048576) (hz0 : 0 ≤ z) (hz1 : z ≤ 1000000000000) (h : w.ownsRow B 36 3 v n ys) (hZ : ∀ g, v.ownBlock = some g → g < Z) :
    Calls Try.prog 22 #[v, .int .i64 z] w fun e w' => e = .returned (.int .i64 (z + 3 * (n : Int))) ∧ w'.ownsRow B 36 3 v n (mkP stToolEvent 3 z (n * 3)) ∧ Chg B Z w w' := by
  rcases h.2 with ⟨rfl, rfl⟩ | ⟨g, cap, cur, rfl, hB, _⟩
  · refine (markToolEventS_zero none 0 z w).mono ?_
    rintro e w' ⟨rfl, rfl⟩
    refine ⟨by simp, ?_, Chg.refl _ _ _⟩
    have e : ys = [] := List.length_eq_zero_iff.1 (by have := h.1; omega)
    rw [e] at h
    simpa [mkP] using h
  · refine (markToolEventS_pos g cap n B ys z w hn hz0 hz1 h).mono ?_
    rintro e w' ⟨rfl, h1, h2⟩
    exact ⟨rfl, h1, h2.wide hB (hZ g rfl)⟩

end Go.Proofs.Ytkacfjbhkgdpdaa
