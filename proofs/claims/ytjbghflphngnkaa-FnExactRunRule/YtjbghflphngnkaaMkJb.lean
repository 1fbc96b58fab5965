/- Proved here: how the laws' package marks lists of jobs. -/
import Derived.Test.YtjbghflphngnkaaLwS
import Derived.Test.YtjbghflphngnkaaDjB
namespace Go.Proofs.Ytjbghflphngnkaa
open Go.RowKit
set_option linter.unusedVariables false
set_option linter.unusedSimpArgs false

set_option maxHeartbeats 800000 in
theorem markJobS_zero (a : Option Addr) (c : Nat) (z : Int) (w : World) :
    Calls Try.prog 14 #[.slice a 0 c, .int .i64 z] w fun e w' => e = .returned (.int .i64 z) ∧ w' = w := by
  go_enter Try.func14, Try.ntmps14
  go_wp2
  refine wp_loop_rounds 1 ?_
  rw [rounds_succ]
  go_wp2
  go_returns
  exact ⟨rfl, rfl⟩
theorem marksJob_step {ys : List Value} {n j : Nat} {z z0 : Int} (hl : ys.length = n * 7) (hj : j < n) (hz : z = z0 + 7 * (j : Int)) (h : ∀ t, t < j * 7 → ys[t]? = some (.int .i64 (z0 + (t : Int)))) :
    ∀ t, t < (j + 1) * 7 → ((((((((ys.set (j * 7) (.int .i64 (z))).set (j * 7 + 1) (.int .i64 (z + 1))).set (j * 7 + 2) (.int .i64 (z + 1 + 1))).set (j * 7 + 3) (.int .i64 (z + 1 + 1 + 1))).set (j * 7 + 4) (.int .i64 (z + 1 + 1 + 1 + 1))).set (j * 7 + 5) (.int .i64 (z + 1 + 1 + 1 + 1 + 1))).set (j * 7 + 6) (.int .i64 (z + 1 + 1 + 1 + 1 + 1 + 1))))[t]? = some (.int .i64 (z0 + (t : Int))) := by
  intro t ht
  rcases Nat.lt_or_ge t (j * 7) with h1 | h1
  · rw [List.getElem?_set_ne (by omega), List.getElem?_set_ne (by omega), List.getElem?_set_ne (by omega), List.getElem?_set_ne (by omega), List.getElem?_set_ne (by omega), List.getElem?_set_ne (by omega), List.getElem?_set_ne (by omega)]
    exact h t h1
  · rcases (by omega : t = j * 7 ∨ t = j * 7 + 1 ∨ t = j * 7 + 2 ∨ t = j * 7 + 3 ∨ t = j * 7 + 4 ∨ t = j * 7 + 5 ∨ t = j * 7 + 6) with rfl | rfl | rfl | rfl | rfl | rfl | rfl
    · rw [List.getElem?_set_ne (by omega), List.getElem?_set_ne (by omega), List.getElem?_set_ne (by omega), List.getElem?_set_ne (by omega), List.getElem?_set_ne (by omega), List.getElem?_set_ne (by omega), List.getElem?_set_self (by (try simp); omega)]
      rw [show z = z0 + (((j * 7 : Nat)) : Int) by omega]
    · rw [List.getElem?_set_ne (by omega), List.getElem?_set_ne (by omega), List.getElem?_set_ne (by omega), List.getElem?_set_ne (by omega), List.getElem?_set_ne (by omega), List.getElem?_set_self (by (try simp); omega)]
      rw [show z + 1 = z0 + (((j * 7 + 1 : Nat)) : Int) by omega]
    · rw [List.getElem?_set_ne (by omega), List.getElem?_set_ne (by omega), List.getElem?_set_ne (by omega), List.getElem?_set_ne (by omega), List.getElem?_set_self (by (try simp); omega)]
      rw [show z + 1 + 1 = z0 + (((j * 7 + 2 : Nat)) : Int) by omega]
    · rw [List.getElem?_set_ne (by omega), List.getElem?_set_ne (by omega), List.getElem?_set_ne (by omega), List.getElem?_set_self (by (try simp); omega)]
      rw [show z + 1 + 1 + 1 = z0 + (((j * 7 + 3 : Nat)) : Int) by omega]
    · rw [List.getElem?_set_ne (by omega), List.getElem?_set_ne (by omega), List.getElem?_set_self (by (try simp); omega)]
      rw [show z + 1 + 1 + 1 + 1 = z0 + (((j * 7 + 4 : Nat)) : Int) by omega]
    · rw [List.getElem?_set_ne (by omega), List.getElem?_set_self (by (try simp); omega)]
      rw [show z + 1 + 1 + 1 + 1 + 1 = z0 + (((j * 7 + 5 : Nat)) : Int) by omega]
    · rw [List.getElem?_set_self (by (try simp); omega)]
      rw [show z + 1 + 1 + 1 + 1 + 1 + 1 = z0 + (((j * 7 + 6 : Nat)) : Int) by omega]

set_option maxRecDepth 10000 in
set_option maxHeartbeats 3200000 in
theorem markJobS_pos (g c n B : Nat) (ys : List Value) (z0 : Int) (w : World) (hn : n ≤ 1048576) (hz0 : 0 ≤ z0) (hz1 : z0 ≤ 1000000000000) (h : w.ownsRow B 51 7 (.slice (some ⟨g, 0, none⟩) n c) n ys) :
    Calls Try.prog 14 #[.slice (some ⟨g, 0, none⟩) n c, .int .i64 z0] w fun e w' => e = .returned (.int .i64 (z0 + 7 * (n : Int))) ∧ w'.ownsRow B 51 7 (.slice (some ⟨g, 0, none⟩) n c) n (mkV z0 (n * 7)) ∧ Only g w w' := by
  have H : Hid (w.ownsRow B 51 7 (.slice (some ⟨g, 0, none⟩) n c) n ys) := h
  clear h
  go_enter Try.func14, Try.ntmps14
  go_wp2
  go_loopw [1, 5] (fun q i wr => ∃ (j : Nat) (z : Int), j ≤ n ∧ i = .int .i64 j ∧ q = .int .i64 z ∧ 0 ≤ z ∧ z ≤ 1000100000000 ∧ Hid (z = z0 + 7 * (j : Int) ∧ ∃ ys : List Value, ys.length = n * 7 ∧ (∀ t, t < j * 7 → ys[t]? = some (.int .i64 (z0 + (t : Int)))) ∧ wr.ownsRow B 51 7 (.slice (some ⟨g, 0, none⟩) n c) n ys ∧ Only g w wr)) (fun _ i _ => n - (intOf i).toNat)
  case atStart => exact ⟨0, z0, Nat.zero_le _, rfl, rfl, by omega, by omega, by simp, ys, by have := H.out.1; omega, fun t ht => by omega, H.out, Only.refl _ _⟩
  case round =>
    clear H
    obtain ⟨j, z, hj, rfl, rfl, hzz0, hzz1, hR⟩ := hrel
    by_cases hlt : j < n
    · obtain ⟨hzj, ys, hyl, hyt, ho, hon⟩ := hR.out
      have HZ : Hid (z + 1 + 1 + 1 + 1 + 1 + 1 + 1 = z0 + 7 * ((j + 1 : Nat) : Int)) := by unfold Hid; omega
      have hz4 : z + 1 + 1 + 1 + 1 + 1 + 1 + 1 ≤ 1000100000000 := by omega
      have f0 := World.ownsRow.frozenAt ho (j * 7)
      have g0 : wr.cell? ⟨g, j * 7, none⟩ = some (ys.getD (j * 7) (.bool false)) := by rw [World.ownsRow.cellAt ho _ (by omega)]; simp [hyl, show j * 7 < n * 7 by omega]
      have f1 := World.ownsRow.frozenAt ho (j * 7 + 1)
      have g1 : wr.cell? ⟨g, j * 7 + 1, none⟩ = some (ys.getD (j * 7 + 1) (.bool false)) := by rw [World.ownsRow.cellAt ho _ (by omega)]; simp [hyl, show j * 7 + 1 < n * 7 by omega]
      have f2 := World.ownsRow.frozenAt ho (j * 7 + 2)
      have g2 : wr.cell? ⟨g, j * 7 + 2, none⟩ = some (ys.getD (j * 7 + 2) (.bool false)) := by rw [World.ownsRow.cellAt ho _ (by omega)]; simp [hyl, show j * 7 + 2 < n * 7 by omega]
      have f3 := World.ownsRow.frozenAt ho (j * 7 + 3)
      have g3 : wr.cell? ⟨g, j * 7 + 3, none⟩ = some (ys.getD (j * 7 + 3) (.bool false)) := by rw [World.ownsRow.cellAt ho _ (by omega)]; simp [hyl, show j * 7 + 3 < n * 7 by omega]
      have f4 := World.ownsRow.frozenAt ho (j * 7 + 4)
      have g4 : wr.cell? ⟨g, j * 7 + 4, none⟩ = some (ys.getD (j * 7 + 4) (.bool false)) := by rw [World.ownsRow.cellAt ho _ (by omega)]; simp [hyl, show j * 7 + 4 < n * 7 by omega]
      have f5 := World.ownsRow.frozenAt ho (j * 7 + 5)
      have g5 : wr.cell? ⟨g, j * 7 + 5, none⟩ = some (ys.getD (j * 7 + 5) (.bool false)) := by rw [World.ownsRow.cellAt ho _ (by omega)]; simp [hyl, show j * 7 + 5 < n * 7 by omega]
      have f6 := World.ownsRow.frozenAt ho (j * 7 + 6)
      have g6 : wr.cell? ⟨g, j * 7 + 6, none⟩ = some (ys.getD (j * 7 + 6) (.bool false)) := by rw [World.ownsRow.cellAt ho _ (by omega)]; simp [hyl, show j * 7 + 6 < n * 7 by omega]
      have R : Hid (∃ ys : List Value, ys.length = n * 7 ∧ (∀ t, t < (j + 1) * 7 → ys[t]? = some (.int .i64 (z0 + (t : Int)))) ∧ ((((((((wr.setCell ⟨g, j * 7, none⟩ (.int .i64 (z))).setCell ⟨g, j * 7 + 1, none⟩ (.int .i64 (z + 1))).setCell ⟨g, j * 7 + 2, none⟩ (.int .i64 (z + 1 + 1))).setCell ⟨g, j * 7 + 3, none⟩ (.int .i64 (z + 1 + 1 + 1))).setCell ⟨g, j * 7 + 4, none⟩ (.int .i64 (z + 1 + 1 + 1 + 1))).setCell ⟨g, j * 7 + 5, none⟩ (.int .i64 (z + 1 + 1 + 1 + 1 + 1))).setCell ⟨g, j * 7 + 6, none⟩ (.int .i64 (z + 1 + 1 + 1 + 1 + 1 + 1)))).ownsRow B 51 7 (.slice (some ⟨g, 0, none⟩) n c) n ys ∧ Only g w ((((((((wr.setCell ⟨g, j * 7, none⟩ (.int .i64 (z))).setCell ⟨g, j * 7 + 1, none⟩ (.int .i64 (z + 1))).setCell ⟨g, j * 7 + 2, none⟩ (.int .i64 (z + 1 + 1))).setCell ⟨g, j * 7 + 3, none⟩ (.int .i64 (z + 1 + 1 + 1))).setCell ⟨g, j * 7 + 4, none⟩ (.int .i64 (z + 1 + 1 + 1 + 1))).setCell ⟨g, j * 7 + 5, none⟩ (.int .i64 (z + 1 + 1 + 1 + 1 + 1))).setCell ⟨g, j * 7 + 6, none⟩ (.int .i64 (z + 1 + 1 + 1 + 1 + 1 + 1))))) :=
        ⟨_, by simpa using hyl, marksJob_step hyl hlt hzj hyt, (World.ownsRow.stored (World.ownsRow.stored (World.ownsRow.stored (World.ownsRow.stored (World.ownsRow.stored (World.ownsRow.stored (World.ownsRow.stored ho (j * 7) (.int .i64 (z))).1 (j * 7 + 1) (.int .i64 (z + 1))).1 (j * 7 + 2) (.int .i64 (z + 1 + 1))).1 (j * 7 + 3) (.int .i64 (z + 1 + 1 + 1))).1 (j * 7 + 4) (.int .i64 (z + 1 + 1 + 1 + 1))).1 (j * 7 + 5) (.int .i64 (z + 1 + 1 + 1 + 1 + 1))).1 (j * 7 + 6) (.int .i64 (z + 1 + 1 + 1 + 1 + 1 + 1))).1, (((((((hon.set _ _).set _ _).set _ _).set _ _).set _ _).set _ _).set _ _)⟩
      have hgl : g < wr.heap.size := (World.ownsRow.lt ho g rfl).2
      clear ho hon hR hyl hzj hyt
      generalize ys.getD (j * 7) (.bool false) = v0 at g0
      generalize ys.getD (j * 7 + 1) (.bool false) = v1 at g1
      generalize ys.getD (j * 7 + 2) (.bool false) = v2 at g2
      generalize ys.getD (j * 7 + 3) (.bool false) = v3 at g3
      generalize ys.getD (j * 7 + 4) (.bool false) = v4 at g4
      generalize ys.getD (j * 7 + 5) (.bool false) = v5 at g5
      generalize ys.getD (j * 7 + 6) (.bool false) = v6 at g6
      have b0 : (0 : Int) ≤ (j : Int) := by omega
      have b1 : (j : Int) < (n : Int) := by omega
      go_wp2
      go_roundw
      case rel => exact ⟨j + 1, _, by omega, by go_num, rfl, by omega, hz4, HZ.out, R.out⟩
      case measure => simp [intOf]; omega
    · have HR : Hid _ := hR.out
      clear hR
      go_wp2
      go_returns
      obtain ⟨hzj, ys, hyl, hyt, ho, hon⟩ := HR.out
      obtain rfl : j = n := by omega
      refine ⟨by rw [hzj]; rfl, ?_, hon⟩
      rw [← mkV_of hyl hyt]; exact ho
theorem markJobS_to {w : World} {B Z n : Nat} {v : Value} {ys : List Value} (z : Int) (hn : n ≤ 1048576) (hz0 : 0 ≤ z) (hz1 : z ≤ 1000000000000) (h : w.ownsRow B 51 7 v n ys) (hZ : ∀ g, v.ownBlock = some g → g < Z) :
    Calls Try.prog 14 #[v, .int .i64 z] w fun e w' => e = .returned (.int .i64 (z + 7 * (n : Int))) ∧ w'.ownsRow B 51 7 v n (mkV z (n * 7)) ∧ Chg B Z w w' := by
  rcases h.2 with ⟨rfl, rfl⟩ | ⟨g, cap, cur, rfl, hB, _⟩
  · refine (markJobS_zero none 0 z w).mono ?_
    rintro e w' ⟨rfl, rfl⟩
    refine ⟨by simp, ?_, Chg.refl _ _ _⟩
    have e : ys = [] := List.length_eq_zero_iff.1 (by have := h.1; omega)
    rw [e] at h
    simpa [mkV] using h
  · refine (markJobS_pos g cap n B ys z w hn hz0 hz1 h).mono ?_
    rintro e w' ⟨rfl, h1, h2⟩
    exact ⟨rfl, h1, Chg.only h2 hB (hZ g rfl)⟩


end Go.Proofs.Ytjbghflphngnkaa
