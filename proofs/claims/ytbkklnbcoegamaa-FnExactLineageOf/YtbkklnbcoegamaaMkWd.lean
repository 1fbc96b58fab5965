/- Proved here: how the laws' package marks lists of windows. -/
import Derived.Test.YtbkklnbcoegamaaLwS
import Derived.Test.YtbkklnbcoegamaaQwB
namespace Go.Proofs.Ytbkklnbcoegamaa
open Go.RowKit
set_option linter.unusedVariables false
set_option linter.unusedSimpArgs false

set_option maxHeartbeats 800000 in
theorem markWindowS_zero (a : Option Addr) (c : Nat) (z : Int) (w : World) :
    Calls Try.prog 44 #[.slice a 0 c, .int .i64 z] w fun e w' => e = .returned (.int .i64 z) ∧ w' = w := by
  go_enter Try.func44, Try.ntmps44
  go_wp2
  refine wp_loop_rounds 1 ?_
  rw [rounds_succ]
  go_wp2
  go_returns
  exact ⟨rfl, rfl⟩
theorem marksWindow_step {ys : List Value} {n j : Nat} {z z0 : Int} (hl : ys.length = n * 3) (hj : j < n) (hz : z = z0 + 3 * (j : Int)) (h : ∀ t, t < j * 3 → ys[t]? = some (.int .i64 (z0 + (t : Int)))) :
    ∀ t, t < (j + 1) * 3 → ((((ys.set (j * 3) (.int .i64 (z))).set (j * 3 + 1) (.int .i64 (z + 1))).set (j * 3 + 2) (.int .i64 (z + 1 + 1))))[t]? = some (.int .i64 (z0 + (t : Int))) := by
  intro t ht
  rcases Nat.lt_or_ge t (j * 3) with h1 | h1
  · rw [List.getElem?_set_ne (by omega), List.getElem?_set_ne (by omega), List.getElem?_set_ne (by omega)]
    exact h t h1
  · rcases (by omega : t = j * 3 ∨ t = j * 3 + 1 ∨ t = j * 3 + 2) with rfl | rfl | rfl
    · rw [List.getElem?_set_ne (by omega), List.getElem?_set_ne (by omega), List.getElem?_set_self (by (try simp); omega)]
      rw [show z = z0 + (((j * 3 : Nat)) : Int) by omega]
    · rw [List.getElem?_set_ne (by omega), List.getElem?_set_self (by (try simp); omega)]
      rw [show z + 1 = z0 + (((j * 3 + 1 : Nat)) : Int) by omega]
    · rw [List.getElem?_set_self (by (try simp); omega)]
      rw [show z + 1 + 1 = z0 + (((j * 3 + 2 : Nat)) : Int) by omega]

set_option maxRecDepth 10000 in
set_option maxHeartbeats 3200000 in
theorem markWindowS_pos (g c n B : Nat) (ys : List Value) (z0 : Int) (w : World) (hn : n ≤ 1048576) (hz0 : 0 ≤ z0) (hz1 : z0 ≤ 1000000000000) (h : w.ownsRow B 62 3 (.slice (some ⟨g, 0, none⟩) n c) n ys) :
    Calls Try.prog 44 #[.slice (some ⟨g, 0, none⟩) n c, .int .i64 z0] w fun e w' => e = .returned (.int .i64 (z0 + 3 * (n : Int))) ∧ w'.ownsRow B 62 3 (.slice (some ⟨g, 0, none⟩) n c) n (mkV z0 (n * 3)) ∧ Only g w w' := by
  have H : Hid (w.ownsRow B 62 3 (.slice (some ⟨g, 0, none⟩) n c) n ys) := h
  clear h
  go_enter Try.func44, Try.ntmps44
  go_wp2
  go_loopw [1, 5] (fun q i wr => ∃ (j : Nat) (z : Int), j ≤ n ∧ i = .int .i64 j ∧ q = .int .i64 z ∧ 0 ≤ z ∧ z ≤ 1000100000000 ∧ Hid (z = z0 + 3 * (j : Int) ∧ ∃ ys : List Value, ys.length = n * 3 ∧ (∀ t, t < j * 3 → ys[t]? = some (.int .i64 (z0 + (t : Int)))) ∧ wr.ownsRow B 62 3 (.slice (some ⟨g, 0, none⟩) n c) n ys ∧ Only g w wr)) (fun _ i _ => n - (intOf i).toNat)
  case atStart => exact ⟨0, z0, Nat.zero_le _, rfl, rfl, by omega, by omega, by simp, ys, by have := H.out.1; omega, fun t ht => by omega, H.out, Only.refl _ _⟩
  case round =>
    clear H
    obtain ⟨j, z, hj, rfl, rfl, hzz0, hzz1, hR⟩ := hrel
    by_cases hlt : j < n
    · obtain ⟨hzj, ys, hyl, hyt, ho, hon⟩ := hR.out
      have HZ : Hid (z + 1 + 1 + 1 = z0 + 3 * ((j + 1 : Nat) : Int)) := by unfold Hid; omega
      have hz4 : z + 1 + 1 + 1 ≤ 1000100000000 := by omega
      have f0 := World.ownsRow.frozenAt ho (j * 3)
      have g0 : wr.cell? ⟨g, j * 3, none⟩ = some (ys.getD (j * 3) (.bool false)) := by rw [World.ownsRow.cellAt ho _ (by omega)]; simp [hyl, show j * 3 < n * 3 by omega]
      have f1 := World.ownsRow.frozenAt ho (j * 3 + 1)
      have g1 : wr.cell? ⟨g, j * 3 + 1, none⟩ = some (ys.getD (j * 3 + 1) (.bool false)) := by rw [World.ownsRow.cellAt ho _ (by omega)]; simp [hyl, show j * 3 + 1 < n * 3 by omega]
      have f2 := World.ownsRow.frozenAt ho (j * 3 + 2)
      have g2 : wr.cell? ⟨g, j * 3 + 2, none⟩ = some (ys.getD (j * 3 + 2) (.bool false)) := by rw [World.ownsRow.cellAt ho _ (by omega)]; simp [hyl, show j * 3 + 2 < n * 3 by omega]
      have R : Hid (∃ ys : List Value, ys.length = n * 3 ∧ (∀ t, t < (j + 1) * 3 → ys[t]? = some (.int .i64 (z0 + (t : Int)))) ∧ ((((wr.setCell ⟨g, j * 3, none⟩ (.int .i64 (z))).setCell ⟨g, j * 3 + 1, none⟩ (.int .i64 (z + 1))).setCell ⟨g, j * 3 + 2, none⟩ (.int .i64 (z + 1 + 1)))).ownsRow B 62 3 (.slice (some ⟨g, 0, none⟩) n c) n ys ∧ Only g w ((((wr.setCell ⟨g, j * 3, none⟩ (.int .i64 (z))).setCell ⟨g, j * 3 + 1, none⟩ (.int .i64 (z + 1))).setCell ⟨g, j * 3 + 2, none⟩ (.int .i64 (z + 1 + 1))))) :=
        ⟨_, by simpa using hyl, marksWindow_step hyl hlt hzj hyt, (World.ownsRow.stored (World.ownsRow.stored (World.ownsRow.stored ho (j * 3) (.int .i64 (z))).1 (j * 3 + 1) (.int .i64 (z + 1))).1 (j * 3 + 2) (.int .i64 (z + 1 + 1))).1, (((hon.set _ _).set _ _).set _ _)⟩
      have hgl : g < wr.heap.size := (World.ownsRow.lt ho g rfl).2
      clear ho hon hR hyl hzj hyt
      generalize ys.getD (j * 3) (.bool false) = v0 at g0
      generalize ys.getD (j * 3 + 1) (.bool false) = v1 at g1
      generalize ys.getD (j * 3 + 2) (.bool false) = v2 at g2
      have b0 : (0 : Int) ≤ (j : Int) := by omega
      have b1 : (j : Int) < (n : Int) := by omega
      go_wp2
      go_roundw
      case rel => exact ⟨j + 1, _, by omega, by go_num, rfl, by omega, hz4, HZ.out, R.out⟩
      case measure => simp [intOf]; omega
    · have HR : Hid _ := hR.out
      clear hR
      go_wp2
      go_returns
      obtain ⟨hzj, ys, hyl, hyt, ho, hon⟩ := HR.out
      obtain rfl : j = n := by omega
      refine ⟨by rw [hzj]; rfl, ?_, hon⟩
      rw [← mkV_of hyl hyt]; exact ho
theorem markWindowS_to {w : World} {B Z n : Nat} {v : Value} {ys : List Value} (z : Int) (hn : n ≤ 1048576) (hz0 : 0 ≤ z) (hz1 : z ≤ 1000000000000) (h : w.ownsRow B 62 3 v n ys) (hZ : ∀ g, v.ownBlock = some g → g < Z) :
    Calls Try.prog 44 #[v, .int .i64 z] w fun e w' => e = .returned (.int .i64 (z + 3 * (n : Int))) ∧ w'.ownsRow B 62 3 v n (mkV z (n * 3)) ∧ Chg B Z w w' := by
  rcases h.2 with ⟨rfl, rfl⟩ | ⟨g, cap, cur, rfl, hB, _⟩
  · refine (markWindowS_zero none 0 z w).mono ?_
    rintro e w' ⟨rfl, rfl⟩
    refine ⟨by simp, ?_, Chg.refl _ _ _⟩
    have e : ys = [] := List.length_eq_zero_iff.1 (by have := h.1; omega)
    rw [e] at h
    simpa [mkV] using h
  · refine (markWindowS_pos g cap n B ys z w hn hz0 hz1 h).mono ?_
    rintro e w' ⟨rfl, h1, h2⟩
    exact ⟨rfl, h1, Chg.only h2 hB (hZ g rfl)⟩

set_option maxHeartbeats 800000 in
theorem heldWindowS_zero (a : Option Addr) (c : Nat) (z : Int) (w : World) :
    Calls Try.prog 66 #[.slice a 0 c, .int .i64 z] w fun e w' => e = .returned (.int .i64 z) ∧ w' = w := by
  go_enter Try.func66, Try.ntmps66
  go_wp2
  refine wp_loop_rounds 1 ?_
  rw [rounds_succ]
  go_wp2
  go_returns
  exact ⟨rfl, rfl⟩

set_option maxHeartbeats 3200000 in
theorem heldWindowS_pos (g c n : Nat) (z0 : Int) (w : World) (hn : n ≤ 1048576) (hz0 : 0 ≤ z0) (hz1 : z0 ≤ 1000000000000) (h : ∀ t, t < n * 3 → w.cell? ⟨g, t, none⟩ = some (.int .i64 (z0 + (t : Int)))) :
    Calls Try.prog 66 #[.slice (some ⟨g, 0, none⟩) n c, .int .i64 z0] w fun e w' => e = .returned (.int .i64 (z0 + 3 * (n : Int))) ∧ w' = w := by
  have H : Hid (∀ t, t < n * 3 → w.cell? ⟨g, t, none⟩ = some (.int .i64 (z0 + (t : Int)))) := h
  clear h
  go_enter Try.func66, Try.ntmps66
  go_wp2
  go_loop [1, 5] (fun q i => ∃ (j : Nat) (z : Int), j ≤ n ∧ i = .int .i64 j ∧ q = .int .i64 z ∧ 0 ≤ z ∧ z ≤ 1000100000000 ∧ Hid (z = z0 + 3 * (j : Int))) (fun _ i => n - (intOf i).toNat)
  case atStart => exact ⟨0, z0, Nat.zero_le _, rfl, rfl, by omega, by omega, by unfold Hid; simp⟩
  case round =>
    obtain ⟨j, z, hj, rfl, rfl, hzz0, hzz1, hR⟩ := hrel
    by_cases hlt : j < n
    · have HZ : Hid (z + 1 + 1 + 1 = z0 + 3 * ((j + 1 : Nat) : Int)) := by unfold Hid; have := hR.out; omega
      have c0 := H.out (j * 3) (by omega)
      rw [show z0 + (((j * 3 : Nat)) : Int) = z by have := hR.out; omega] at c0
      have c1 := H.out (j * 3 + 1) (by omega)
      rw [show z0 + (((j * 3 + 1 : Nat)) : Int) = z + 1 by have := hR.out; omega] at c1
      have c2 := H.out (j * 3 + 2) (by omega)
      rw [show z0 + (((j * 3 + 2 : Nat)) : Int) = z + 1 + 1 by have := hR.out; omega] at c2
      have b0 : (0 : Int) ≤ (j : Int) := by omega
      have b1 : (j : Int) < (n : Int) := by omega
      have hz4 : z + 1 + 1 + 1 ≤ 1000100000000 := by have := HZ.out; omega
      clear hR
      go_wp2
      go_round
      case rel => exact ⟨j + 1, _, by omega, by go_num, rfl, by omega, hz4, HZ.out⟩
      case measure => simp [intOf]; omega
    · have e : Hid (z = z0 + 3 * (n : Int)) := by unfold Hid; rw [hR.out]; omega
      go_wp2
      go_returns
      exact ⟨by rw [← e.out]; rfl, rfl⟩
theorem heldWindowS_to {w : World} {B n : Nat} {v : Value} (z : Int) (hn : n ≤ 1048576) (hz0 : 0 ≤ z) (hz1 : z ≤ 1000000000000) (h : w.ownsRow B 62 3 v n (mkV z (n * 3))) :
    Calls Try.prog 66 #[v, .int .i64 z] w fun e w' => e = .returned (.int .i64 (z + 3 * (n : Int))) ∧ w' = w := by
  rcases h.2 with ⟨rfl, rfl⟩ | ⟨g, cap, cur, rfl, hB, _⟩
  · refine (heldWindowS_zero none 0 z w).mono ?_
    rintro e w' ⟨rfl, rfl⟩
    exact ⟨by simp, rfl⟩
  · refine heldWindowS_pos g cap n z w hn hz0 hz1 fun t ht => ?_
    rw [World.ownsRow.cellAt (w := w) (g := g) (cap := cap) h t (by omega), mkV_at ht]

end Go.Proofs.Ytbkklnbcoegamaa
