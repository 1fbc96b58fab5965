/- Proved here: how the laws' package marks lists of defects. -/
import Derived.Test.YtngpjglcjbdblaaLwS
import Derived.Test.YtngpjglcjbdblaaVdB
namespace Go.Proofs.Ytngpjglcjbdblaa
open Go.RowKit
set_option linter.unusedVariables false
set_option linter.unusedSimpArgs false

set_option maxHeartbeats 800000 in
theorem markDefectS_zero (a : Option Addr) (c : Nat) (z : Int) (w : World) :
    Calls Try.prog 11 #[.slice a 0 c, .int .i64 z] w fun e w' => e = .returned (.int .i64 z) ∧ w' = w := by
  go_enter Try.func11, Try.ntmps11
  go_wp2
  refine wp_loop_rounds 1 ?_
  rw [rounds_succ]
  go_wp2
  go_returns
  exact ⟨rfl, rfl⟩
theorem marksDefect_step {ys : List Value} {n j : Nat} {z z0 : Int} (hl : ys.length = n * 4) (hj : j < n) (hz : z = z0 + 4 * (j : Int)) (h : ∀ t, t < j * 4 → ys[t]? = some (.int .i64 (z0 + (t : Int)))) :
    ∀ t, t < (j + 1) * 4 → (((((ys.set (j * 4) (.int .i64 (z))).set (j * 4 + 1) (.int .i64 (z + 1))).set (j * 4 + 2) (.int .i64 (z + 1 + 1))).set (j * 4 + 3) (.int .i64 (z + 1 + 1 + 1))))[t]? = some (.int .i64 (z0 + (t : Int))) := by
  intro t ht
  rcases Nat.lt_or_ge t (j * 4) with h1 | h1
  · rw [List.getElem?_set_ne (by omega), List.getElem?_set_ne (by omega), List.getElem?_set_ne (by omega), List.getElem?_set_ne (by omega)]
    exact h t h1
  · rcases (by omega : t = j * 4 ∨ t = j * 4 + 1 ∨ t = j * 4 + 2 ∨ t = j * 4 + 3) with rfl | rfl | rfl | rfl
    · rw [List.getElem?_set_ne (by omega), List.getElem?_set_ne (by omega), List.getElem?_set_ne (by omega), List.getElem?_set_self (by (try simp); omega)]
      rw [show z = z0 + (((j * 4 : Nat)) : Int) by omega]
    · rw [List.getElem?_set_ne (by omega), List.getElem?_set_ne (by omega), List.getElem?_set_self (by (try simp); omega)]
      rw [show z + 1 = z0 + (((j * 4 + 1 : Nat)) : Int) by omega]
    · rw [List.getElem?_set_ne (by omega), List.getElem?_set_self (by (try simp); omega)]
      rw [show z + 1 + 1 = z0 + (((j * 4 + 2 : Nat)) : Int) by omega]
    · rw [List.getElem?_set_self (by (try simp); omega)]
      rw [show z + 1 + 1 + 1 = z0 + (((j * 4 + 3 : Nat)) : Int) by omega]

set_option maxRecDepth 10000 in
set_option maxHeartbeats 3200000 in
theorem markDefectS_pos (g c n B : Nat) (ys : List Value) (z0 : Int) (w : World) (hn : n ≤ 1048576) (hz0 : 0 ≤ z0) (hz1 : z0 ≤ 1000000000000) (h : w.ownsRow B 47 4 (.slice (some ⟨g, 0, none⟩) n c) n ys) :
    Calls Try.prog 11 #[.slice (some ⟨g, 0, none⟩) n c, .int .i64 z0] w fun e w' => e = .returned (.int .i64 (z0 + 4 * (n : Int))) ∧ w'.ownsRow B 47 4 (.slice (some ⟨g, 0, none⟩) n c) n (mkV z0 (n * 4)) ∧ Only g w w' := by
  have H : Hid (w.ownsRow B 47 4 (.slice (some ⟨g, 0, none⟩) n c) n ys) := h
  clear h
  go_enter Try.func11, Try.ntmps11
  go_wp2
  go_loopw [1, 5] (fun q i wr => ∃ (j : Nat) (z : Int), j ≤ n ∧ i = .int .i64 j ∧ q = .int .i64 z ∧ 0 ≤ z ∧ z ≤ 1000100000000 ∧ Hid (z = z0 + 4 * (j : Int) ∧ ∃ ys : List Value, ys.length = n * 4 ∧ (∀ t, t < j * 4 → ys[t]? = some (.int .i64 (z0 + (t : Int)))) ∧ wr.ownsRow B 47 4 (.slice (some ⟨g, 0, none⟩) n c) n ys ∧ Only g w wr)) (fun _ i _ => n - (intOf i).toNat)
  case atStart => exact ⟨0, z0, Nat.zero_le _, rfl, rfl, by omega, by omega, by simp, ys, by have := H.out.1; omega, fun t ht => by omega, H.out, Only.refl _ _⟩
  case round =>
    clear H
    obtain ⟨j, z, hj, rfl, rfl, hzz0, hzz1, hR⟩ := hrel
    by_cases hlt : j < n
    · obtain ⟨hzj, ys, hyl, hyt, ho, hon⟩ := hR.out
      have HZ : Hid (z + 1 + 1 + 1 + 1 = z0 + 4 * ((j + 1 : Nat) : Int)) := by unfold Hid; omega
      have hz4 : z + 1 + 1 + 1 + 1 ≤ 1000100000000 := by omega
      have f0 := World.ownsRow.frozenAt ho (j * 4)
      have g0 : wr.cell? ⟨g, j * 4, none⟩ = some (ys.getD (j * 4) (.bool false)) := by rw [World.ownsRow.cellAt ho _ (by omega)]; simp [hyl, show j * 4 < n * 4 by omega]
      have f1 := World.ownsRow.frozenAt ho (j * 4 + 1)
      have g1 : wr.cell? ⟨g, j * 4 + 1, none⟩ = some (ys.getD (j * 4 + 1) (.bool false)) := by rw [World.ownsRow.cellAt ho _ (by omega)]; simp [hyl, show j * 4 + 1 < n * 4 by omega]
      have f2 := World.ownsRow.frozenAt ho (j * 4 + 2)
      have g2 : wr.cell? ⟨g, j * 4 + 2, none⟩ = some (ys.getD (j * 4 + 2) (.bool false)) := by rw [World.ownsRow.cellAt ho _ (by omega)]; simp [hyl, show j * 4 + 2 < n * 4 by omega]
      have f3 := World.ownsRow.frozenAt ho (j * 4 + 3)
      have g3 : wr.cell? ⟨g, j * 4 + 3, none⟩ = some (ys.getD (j * 4 + 3) (.bool false)) := by rw [World.ownsRow.cellAt ho _ (by omega)]; simp [hyl, show j * 4 + 3 < n * 4 by omega]
      have R : Hid (∃ ys : List Value, ys.length = n * 4 ∧ (∀ t, t < (j + 1) * 4 → ys[t]? = some (.int .i64 (z0 + (t : Int)))) ∧ (((((wr.setCell ⟨g, j * 4, none⟩ (.int .i64 (z))).setCell ⟨g, j * 4 + 1, none⟩ (.int .i64 (z + 1))).setCell ⟨g, j * 4 + 2, none⟩ (.int .i64 (z + 1 + 1))).setCell ⟨g, j * 4 + 3, none⟩ (.int .i64 (z + 1 + 1 + 1)))).ownsRow B 47 4 (.slice (some ⟨g, 0, none⟩) n c) n ys ∧ Only g w (((((wr.setCell ⟨g, j * 4, none⟩ (.int .i64 (z))).setCell ⟨g, j * 4 + 1, none⟩ (.int .i64 (z + 1))).setCell ⟨g, j * 4 + 2, none⟩ (.int .i64 (z + 1 + 1))).setCell ⟨g, j * 4 + 3, none⟩ (.int .i64 (z + 1 + 1 + 1))))) :=
        ⟨_, by simpa using hyl, marksDefect_step hyl hlt hzj hyt, (World.ownsRow.stored (World.ownsRow.stored (World.ownsRow.stored (World.ownsRow.stored ho (j * 4) (.int .i64 (z))).1 (j * 4 + 1) (.int .i64 (z + 1))).1 (j * 4 + 2) (.int .i64 (z + 1 + 1))).1 (j * 4 + 3) (.int .i64 (z + 1 + 1 + 1))).1, ((((hon.set _ _).set _ _).set _ _).set _ _)⟩
      have hgl : g < wr.heap.size := (World.ownsRow.lt ho g rfl).2
      clear ho hon hR hyl hzj hyt
      generalize ys.getD (j * 4) (.bool false) = v0 at g0
      generalize ys.getD (j * 4 + 1) (.bool false) = v1 at g1
      generalize ys.getD (j * 4 + 2) (.bool false) = v2 at g2
      generalize ys.getD (j * 4 + 3) (.bool false) = v3 at g3
      have b0 : (0 : Int) ≤ (j : Int) := by omega
      have b1 : (j : Int) < (n : Int) := by omega
      go_wp2
      go_roundw
      case rel => exact ⟨j + 1, _, by omega, by go_num, rfl, by omega, hz4, HZ.out, R.out⟩
      case measure => simp [intOf]; omega
    · have HR : Hid _ := hR.out
      clear hR
      go_wp2
      go_returns
      obtain ⟨hzj, ys, hyl, hyt, ho, hon⟩ := HR.out
      obtain rfl : j = n := by omega
      refine ⟨by rw [hzj]; rfl, ?_, hon⟩
      rw [← mkV_of hyl hyt]; exact ho
theorem markDefectS_to {w : World} {B Z n : Nat} {v : Value} {ys : List Value} (z : Int) (hn : n ≤ 1048576) (hz0 : 0 ≤ z) (hz1 : z ≤ 1000000000000) (h : w.ownsRow B 47 4 v n ys) (hZ : ∀ g, v.ownBlock = some g → g < Z) :
    Calls Try.prog 11 #[v, .int .i64 z] w fun e w' => e = .returned (.int .i64 (z + 4 * (n : Int))) ∧ w'.ownsRow B 47 4 v n (mkV z (n * 4)) ∧ Chg B Z w w' := by
  rcases h.2 with ⟨rfl, rfl⟩ | ⟨g, cap, cur, rfl, hB, _⟩
  · refine (markDefectS_zero none 0 z w).mono ?_
    rintro e w' ⟨rfl, rfl⟩
    refine ⟨by simp, ?_, Chg.refl _ _ _⟩
    have e : ys = [] := List.length_eq_zero_iff.1 (by have := h.1; omega)
    rw [e] at h
    simpa [mkV] using h
  · refine (markDefectS_pos g cap n B ys z w hn hz0 hz1 h).mono ?_
    rintro e w' ⟨rfl, h1, h2⟩
    exact ⟨rfl, h1, Chg.only h2 hB (hZ g rfl)⟩


end Go.Proofs.Ytngpjglcjbdblaa
