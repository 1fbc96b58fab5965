/- Proved here: how the laws' package marks lists of shots. (And ahead of it: Proved here: what an evening of doses answers is small. No condition on the program.) -/
import Derived.Test.YtmpbcdolikafpaaKept
import Derived.Test.YtmpbcdolikafpaaSeM
import Derived.Test.YtmpbcdolikafpaaEvC
import Derived.Test.YtmpbcdolikafpaaBoxF
namespace Go.Proofs.Ytmpbcdolikafpaa
set_option linter.unusedVariables false

theorem ev_small (l : List Sh) (x : Wt) (z r : Int) : (evL l x z r).length ≤ 1048576 ∧ (evE l x z r).length ≤ 1048576 := by
  unfold evL evE
  by_cases h : evC l x z r = 0
  · rw [if_pos h, if_pos h]
    unfold evC at h
    by_cases h1 : weF l x z = 0
    · rw [if_pos h1] at h
      by_cases h2 : 0 ≤ r ∧ r ≤ 50
      · have hws : wsF l x = 0 := by
          unfold weF at h1
          by_cases h3 : wsF l x = 0
          · exact h3
          · rw [if_neg h3] at h1; exact absurd h1 h3
        obtain ⟨g1, _⟩ := spR_good hws
        have h4 : EvO (bxS l) 1 (l, [dsE l x z]) := ⟨rfl, g1.2, by simp, by simp⟩
        have h5 := evN_ok (E := fun t => dsE t x z) (n := l.length) r.toNat h4
        have h6 := h5.len
        have h7 := h5.em
        have h8 : l.length * r.toNat ≤ 40 * 50 := Nat.mul_le_mul g1.1 (by omega)
        have h9 : (bxS l).length = l.length := by unfold bxS; rw [List.length_map]
        have g2 := g1.1
        unfold evF
        constructor <;> omega
      · rw [if_neg h2] at h; cases h
    · rw [if_neg h1] at h; exact absurd h h1
  · rw [if_neg h, if_neg h]; simp

end Go.Proofs.Ytmpbcdolikafpaa

namespace Go.Proofs.Ytmpbcdolikafpaa
open Go.RowKit
set_option linter.unusedVariables false
set_option linter.unusedSimpArgs false

set_option maxHeartbeats 800000 in
theorem markShotS_zero (a : Option Addr) (c : Nat) (z : Int) (w : World) :
    Calls Try.prog 11 #[.slice a 0 c, .int .i64 z] w fun e w' => e = .returned (.int .i64 z) ∧ w' = w := by
  go_enter Try.func11, Try.ntmps11
  go_wp2
  refine wp_loop_rounds 1 ?_
  rw [rounds_succ]
  go_wp2
  go_returns
  exact ⟨rfl, rfl⟩
theorem marksShot_step {ys : List Value} {n j : Nat} {z z0 : Int} (hl : ys.length = n * 5) (hj : j < n) (hz : z = z0 + 5 * (j : Int)) (h : ∀ t, t < j * 5 → ys[t]? = some (.int .i64 (z0 + (t : Int)))) :
    ∀ t, t < (j + 1) * 5 → ((((((ys.set (j * 5) (.int .i64 (z))).set (j * 5 + 1) (.int .i64 (z + 1))).set (j * 5 + 2) (.int .i64 (z + 1 + 1))).set (j * 5 + 3) (.int .i64 (z + 1 + 1 + 1))).set (j * 5 + 4) (.int .i64 (z + 1 + 1 + 1 + 1))))[t]? = some (.int .i64 (z0 + (t : Int))) := by
  intro t ht
  rcases Nat.lt_or_ge t (j * 5) with h1 | h1
  · rw [List.getElem?_set_ne (by omega), List.getElem?_set_ne (by omega), List.getElem?_set_ne (by omega), List.getElem?_set_ne (by omega), List.getElem?_set_ne (by omega)]
    exact h t h1
  · rcases (by omega : t = j * 5 ∨ t = j * 5 + 1 ∨ t = j * 5 + 2 ∨ t = j * 5 + 3 ∨ t = j * 5 + 4) with rfl | rfl | rfl | rfl | rfl
    · rw [List.getElem?_set_ne (by omega), List.getElem?_set_ne (by omega), List.getElem?_set_ne (by omega), List.getElem?_set_ne (by omega), List.getElem?_set_self (by (try simp); omega)]
      rw [show z = z0 + (((j * 5 : Nat)) : Int) by omega]
    · rw [List.getElem?_set_ne (by omega), List.getElem?_set_ne (by omega), List.getElem?_set_ne (by omega), List.getElem?_set_self (by (try simp); omega)]
      rw [show z + 1 = z0 + (((j * 5 + 1 : Nat)) : Int) by omega]
    · rw [List.getElem?_set_ne (by omega), List.getElem?_set_ne (by omega), List.getElem?_set_self (by (try simp); omega)]
      rw [show z + 1 + 1 = z0 + (((j * 5 + 2 : Nat)) : Int) by omega]
    · rw [List.getElem?_set_ne (by omega), List.getElem?_set_self (by (try simp); omega)]
      rw [show z + 1 + 1 + 1 = z0 + (((j * 5 + 3 : Nat)) : Int) by omega]
    · rw [List.getElem?_set_self (by (try simp); omega)]
      rw [show z + 1 + 1 + 1 + 1 = z0 + (((j * 5 + 4 : Nat)) : Int) by omega]

set_option maxRecDepth 10000 in
set_option maxHeartbeats 3200000 in
theorem markShotS_pos (g c n B : Nat) (ys : List Value) (z0 : Int) (w : World) (hn : n ≤ 1048576) (hz0 : 0 ≤ z0) (hz1 : z0 ≤ 1000000000000) (h : w.ownsRow B 48 5 (.slice (some ⟨g, 0, none⟩) n c) n ys) :
    Calls Try.prog 11 #[.slice (some ⟨g, 0, none⟩) n c, .int .i64 z0] w fun e w' => e = .returned (.int .i64 (z0 + 5 * (n : Int))) ∧ w'.ownsRow B 48 5 (.slice (some ⟨g, 0, none⟩) n c) n (mkV z0 (n * 5)) ∧ Only g w w' := by
  have H : Hid (w.ownsRow B 48 5 (.slice (some ⟨g, 0, none⟩) n c) n ys) := h
  clear h
  go_enter Try.func11, Try.ntmps11
  go_wp2
  go_loopw [1, 5] (fun q i wr => ∃ (j : Nat) (z : Int), j ≤ n ∧ i = .int .i64 j ∧ q = .int .i64 z ∧ 0 ≤ z ∧ z ≤ 1000100000000 ∧ Hid (z = z0 + 5 * (j : Int) ∧ ∃ ys : List Value, ys.length = n * 5 ∧ (∀ t, t < j * 5 → ys[t]? = some (.int .i64 (z0 + (t : Int)))) ∧ wr.ownsRow B 48 5 (.slice (some ⟨g, 0, none⟩) n c) n ys ∧ Only g w wr)) (fun _ i _ => n - (intOf i).toNat)
  case atStart => exact ⟨0, z0, Nat.zero_le _, rfl, rfl, by omega, by omega, by simp, ys, by have := H.out.1; omega, fun t ht => by omega, H.out, Only.refl _ _⟩
  case round =>
    clear H
    obtain ⟨j, z, hj, rfl, rfl, hzz0, hzz1, hR⟩ := hrel
    by_cases hlt : j < n
    · obtain ⟨hzj, ys, hyl, hyt, ho, hon⟩ := hR.out
      have HZ : Hid (z + 1 + 1 + 1 + 1 + 1 = z0 + 5 * ((j + 1 : Nat) : Int)) := by unfold Hid; omega
      have hz4 : z + 1 + 1 + 1 + 1 + 1 ≤ 1000100000000 := by omega
      have f0 := World.ownsRow.frozenAt ho (j * 5)
      have g0 : wr.cell? ⟨g, j * 5, none⟩ = some (ys.getD (j * 5) (.bool false)) := by rw [World.ownsRow.cellAt ho _ (by omega)]; simp [hyl, show j * 5 < n * 5 by omega]
      have f1 := World.ownsRow.frozenAt ho (j * 5 + 1)
      have g1 : wr.cell? ⟨g, j * 5 + 1, none⟩ = some (ys.getD (j * 5 + 1) (.bool false)) := by rw [World.ownsRow.cellAt ho _ (by omega)]; simp [hyl, show j * 5 + 1 < n * 5 by omega]
      have f2 := World.ownsRow.frozenAt ho (j * 5 + 2)
      have g2 : wr.cell? ⟨g, j * 5 + 2, none⟩ = some (ys.getD (j * 5 + 2) (.bool false)) := by rw [World.ownsRow.cellAt ho _ (by omega)]; simp [hyl, show j * 5 + 2 < n * 5 by omega]
      have f3 := World.ownsRow.frozenAt ho (j * 5 + 3)
      have g3 : wr.cell? ⟨g, j * 5 + 3, none⟩ = some (ys.getD (j * 5 + 3) (.bool false)) := by rw [World.ownsRow.cellAt ho _ (by omega)]; simp [hyl, show j * 5 + 3 < n * 5 by omega]
      have f4 := World.ownsRow.frozenAt ho (j * 5 + 4)
      have g4 : wr.cell? ⟨g, j * 5 + 4, none⟩ = some (ys.getD (j * 5 + 4) (.bool false)) := by rw [World.ownsRow.cellAt ho _ (by omega)]; simp [hyl, show j * 5 + 4 < n * 5 by omega]
      have R : Hid (∃ ys : List Value, ys.length = n * 5 ∧ (∀ t, t < (j + 1) * 5 → ys[t]? = some (.int .i64 (z0 + (t : Int)))) ∧ ((((((wr.setCell ⟨g, j * 5, none⟩ (.int .i64 (z))).setCell ⟨g, j * 5 + 1, none⟩ (.int .i64 (z + 1))).setCell ⟨g, j * 5 + 2, none⟩ (.int .i64 (z + 1 + 1))).setCell ⟨g, j * 5 + 3, none⟩ (.int .i64 (z + 1 + 1 + 1))).setCell ⟨g, j * 5 + 4, none⟩ (.int .i64 (z + 1 + 1 + 1 + 1)))).ownsRow B 48 5 (.slice (some ⟨g, 0, none⟩) n c) n ys ∧ Only g w ((((((wr.setCell ⟨g, j * 5, none⟩ (.int .i64 (z))).setCell ⟨g, j * 5 + 1, none⟩ (.int .i64 (z + 1))).setCell ⟨g, j * 5 + 2, none⟩ (.int .i64 (z + 1 + 1))).setCell ⟨g, j * 5 + 3, none⟩ (.int .i64 (z + 1 + 1 + 1))).setCell ⟨g, j * 5 + 4, none⟩ (.int .i64 (z + 1 + 1 + 1 + 1))))) :=
        ⟨_, by simpa using hyl, marksShot_step hyl hlt hzj hyt, (World.ownsRow.stored (World.ownsRow.stored (World.ownsRow.stored (World.ownsRow.stored (World.ownsRow.stored ho (j * 5) (.int .i64 (z))).1 (j * 5 + 1) (.int .i64 (z + 1))).1 (j * 5 + 2) (.int .i64 (z + 1 + 1))).1 (j * 5 + 3) (.int .i64 (z + 1 + 1 + 1))).1 (j * 5 + 4) (.int .i64 (z + 1 + 1 + 1 + 1))).1, (((((hon.set _ _).set _ _).set _ _).set _ _).set _ _)⟩
      have hgl : g < wr.heap.size := (World.ownsRow.lt ho g rfl).2
      clear ho hon hR hyl hzj hyt
      generalize ys.getD (j * 5) (.bool false) = v0 at g0
      generalize ys.getD (j * 5 + 1) (.bool false) = v1 at g1
      generalize ys.getD (j * 5 + 2) (.bool false) = v2 at g2
      generalize ys.getD (j * 5 + 3) (.bool false) = v3 at g3
      generalize ys.getD (j * 5 + 4) (.bool false) = v4 at g4
      have b0 : (0 : Int) ≤ (j : Int) := by omega
      have b1 : (j : Int) < (n : Int) := by omega
      go_wp2
      go_roundw
      case rel => exact ⟨j + 1, _, by omega, by go_num, rfl, by omega, hz4, HZ.out, R.out⟩
      case measure => simp [intOf]; omega
    · have HR : Hid _ := hR.out
      clear hR
      go_wp2
      go_returns
      obtain ⟨hzj, ys, hyl, hyt, ho, hon⟩ := HR.out
      obtain rfl : j = n := by omega
      refine ⟨by rw [hzj]; rfl, ?_, hon⟩
      rw [← mkV_of hyl hyt]; exact ho
theorem markShotS_to {w : World} {B Z n : Nat} {v : Value} {ys : List Value} (z : Int) (hn : n ≤ 1048576) (hz0 : 0 ≤ z) (hz1 : z ≤ 1000000000000) (h : w.ownsRow B 48 5 v n ys) (hZ : ∀ g, v.ownBlock = some g → g < Z) :
    Calls Try.prog 11 #[v, .int .i64 z] w fun e w' => e = .returned (.int .i64 (z + 5 * (n : Int))) ∧ w'.ownsRow B 48 5 v n (mkV z (n * 5)) ∧ Chg B Z w w' := by
  rcases h.2 with ⟨rfl, rfl⟩ | ⟨g, cap, cur, rfl, hB, _⟩
  · refine (markShotS_zero none 0 z w).mono ?_
    rintro e w' ⟨rfl, rfl⟩
    refine ⟨by simp, ?_, Chg.refl _ _ _⟩
    have e : ys = [] := List.length_eq_zero_iff.1 (by have := h.1; omega)
    rw [e] at h
    simpa [mkV] using h
  · refine (markShotS_pos g cap n B ys z w hn hz0 hz1 h).mono ?_
    rintro e w' ⟨rfl, h1, h2⟩
    exact ⟨rfl, h1, Chg.only h2 hB (hZ g rfl)⟩

set_option maxHeartbeats 800000 in
theorem heldShotS_zero (a : Option Addr) (c : Nat) (z : Int) (w : World) :
    Calls Try.prog 27 #[.slice a 0 c, .int .i64 z] w fun e w' => e = .returned (.int .i64 z) ∧ w' = w := by
  go_enter Try.func27, Try.ntmps27
  go_wp2
  refine wp_loop_rounds 1 ?_
  rw [rounds_succ]
  go_wp2
  go_returns
  exact ⟨rfl, rfl⟩

set_option maxHeartbeats 3200000 in
theorem heldShotS_pos (g c n : Nat) (z0 : Int) (w : World) (hn : n ≤ 1048576) (hz0 : 0 ≤ z0) (hz1 : z0 ≤ 1000000000000) (h : ∀ t, t < n * 5 → w.cell? ⟨g, t, none⟩ = some (.int .i64 (z0 + (t : Int)))) :
    Calls Try.prog 27 #[.slice (some ⟨g, 0, none⟩) n c, .int .i64 z0] w fun e w' => e = .returned (.int .i64 (z0 + 5 * (n : Int))) ∧ w' = w := by
  have H : Hid (∀ t, t < n * 5 → w.cell? ⟨g, t, none⟩ = some (.int .i64 (z0 + (t : Int)))) := h
  clear h
  go_enter Try.func27, Try.ntmps27
  go_wp2
  go_loop [1, 5] (fun q i => ∃ (j : Nat) (z : Int), j ≤ n ∧ i = .int .i64 j ∧ q = .int .i64 z ∧ 0 ≤ z ∧ z ≤ 1000100000000 ∧ Hid (z = z0 + 5 * (j : Int))) (fun _ i => n - (intOf i).toNat)
  case atStart => exact ⟨0, z0, Nat.zero_le _, rfl, rfl, by omega, by omega, by unfold Hid; simp⟩
  case round =>
    obtain ⟨j, z, hj, rfl, rfl, hzz0, hzz1, hR⟩ := hrel
    by_cases hlt : j < n
    · have HZ : Hid (z + 1 + 1 + 1 + 1 + 1 = z0 + 5 * ((j + 1 : Nat) : Int)) := by unfold Hid; have := hR.out; omega
      have c0 := H.out (j * 5) (by omega)
      rw [show z0 + (((j * 5 : Nat)) : Int) = z by have := hR.out; omega] at c0
      have c1 := H.out (j * 5 + 1) (by omega)
      rw [show z0 + (((j * 5 + 1 : Nat)) : Int) = z + 1 by have := hR.out; omega] at c1
      have c2 := H.out (j * 5 + 2) (by omega)
      rw [show z0 + (((j * 5 + 2 : Nat)) : Int) = z + 1 + 1 by have := hR.out; omega] at c2
      have c3 := H.out (j * 5 + 3) (by omega)
      rw [show z0 + (((j * 5 + 3 : Nat)) : Int) = z + 1 + 1 + 1 by have := hR.out; omega] at c3
      have c4 := H.out (j * 5 + 4) (by omega)
      rw [show z0 + (((j * 5 + 4 : Nat)) : Int) = z + 1 + 1 + 1 + 1 by have := hR.out; omega] at c4
      have b0 : (0 : Int) ≤ (j : Int) := by omega
      have b1 : (j : Int) < (n : Int) := by omega
      have hz4 : z + 1 + 1 + 1 + 1 + 1 ≤ 1000100000000 := by have := HZ.out; omega
      clear hR
      go_wp2
      go_round
      case rel => exact ⟨j + 1, _, by omega, by go_num, rfl, by omega, hz4, HZ.out⟩
      case measure => simp [intOf]; omega
    · have e : Hid (z = z0 + 5 * (n : Int)) := by unfold Hid; rw [hR.out]; omega
      go_wp2
      go_returns
      exact ⟨by rw [← e.out]; rfl, rfl⟩
theorem heldShotS_to {w : World} {B n : Nat} {v : Value} (z : Int) (hn : n ≤ 1048576) (hz0 : 0 ≤ z) (hz1 : z ≤ 1000000000000) (h : w.ownsRow B 48 5 v n (mkV z (n * 5))) :
    Calls Try.prog 27 #[v, .int .i64 z] w fun e w' => e = .returned (.int .i64 (z + 5 * (n : Int))) ∧ w' = w := by
  rcases h.2 with ⟨rfl, rfl⟩ | ⟨g, cap, cur, rfl, hB, _⟩
  · refine (heldShotS_zero none 0 z w).mono ?_
    rintro e w' ⟨rfl, rfl⟩
    exact ⟨by simp, rfl⟩
  · refine heldShotS_pos g cap n z w hn hz0 hz1 fun t ht => ?_
    rw [World.ownsRow.cellAt (w := w) (g := g) (cap := cap) h t (by omega), mkV_at ht]

end Go.Proofs.Ytmpbcdolikafpaa
