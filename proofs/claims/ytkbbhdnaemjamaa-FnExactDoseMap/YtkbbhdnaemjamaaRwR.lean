/- Proved here: what the laws' package's small functions on maps that were answered do; what markShotS turns. -/
import Derived.Test.YtkbbhdnaemjamaaRwL
import Derived.Test.YtkbbhdnaemjamaaShB
namespace Go.Proofs.Ytkbbhdnaemjamaa
open Go.RowKit
set_option linter.unusedVariables false
set_option linter.unusedSimpArgs false

set_option maxHeartbeats 1600000 in
theorem eqRw (C : Int) {ls : List (List Int)} {v1 v2 : Value} {A B : Nat} {us vs : List Value} (w : World) (hl : ls.length ≤ 1000) (hb : Hid (∀ i, (ls.getD i []).length ≤ 1048576)) (h1 : RI w A v1 ls us) (h2 : RI w B v2 ls vs) :
    Calls Try.prog 30 #[.agg #[.int .i64 C, v1], .agg #[.int .i64 C, v2]] w fun e w' => e = .returned (.bool true) ∧ Below w.heap.size w w' := by
  obtain ⟨a1, c1, e1⟩ := h1.form
  obtain ⟨a2, c2, e2⟩ := h2.form
  obtain ⟨m, hm⟩ : ∃ m, m = ls.length := ⟨_, rfl⟩
  rw [← hm] at e1 e2
  subst e1 e2
  have H : Hid (RI w A (.slice a1 m c1) ls us ∧ RI w B (.slice a2 m c2) ls vs ∧ ls.length ≤ 1000) := ⟨h1, h2, hl⟩
  clear h1 h2 hm hl
  go_enter Try.func30, Try.ntmps30
  go_wp2_with (fail)
  refine (eqRR H.out.2.2 hb (H.out.1.below (by (repeat' (first | (with_reducible exact Below.refl _ _) | (with_reducible assumption) | (with_reducible refine Below.setCell ?_ ?_ _) | (with_reducible refine Below.alloc ?_ ?_ _) | (with_reducible refine below_drewN ?_ _) | (with_reducible refine Below.drew ?_) | (with_reducible exact Nat.le_refl _) | omega | (simp; done) | (simp; omega))))) (H.out.2.1.below (by (repeat' (first | (with_reducible exact Below.refl _ _) | (with_reducible assumption) | (with_reducible refine Below.setCell ?_ ?_ _) | (with_reducible refine Below.alloc ?_ ?_ _) | (with_reducible refine below_drewN ?_ _) | (with_reducible refine Below.drew ?_) | (with_reducible exact Nat.le_refl _) | omega | (simp; done) | (simp; omega)))))).mono ?_
  rintro e w' ⟨rfl, hb'⟩
  have HB : Hid (Below w.heap.size w w') := Below.trans (by (repeat' (first | (with_reducible exact Below.refl _ _) | (with_reducible assumption) | (with_reducible refine Below.setCell ?_ ?_ _) | (with_reducible refine Below.alloc ?_ ?_ _) | (with_reducible refine below_drewN ?_ _) | (with_reducible refine Below.drew ?_) | (with_reducible exact Nat.le_refl _) | omega | (simp; done) | (simp; omega)))) (hb'.mono (by simp; omega))
  clear hb'
  go_wp2
  go_returns
  exact ⟨rfl, HB.out⟩

/-- What was there is there still, but for the rows' own cells. -/
structure SaveV (vs : List Value) (m : Nat) (w w' : World) : Prop where
  os : w'.os = w.os
  tape : w'.tape = w.tape
  output : w'.output = w.output
  size : w.heap.size ≤ w'.heap.size
  block : ∀ k, k < w.heap.size → (∀ i, i < m → (rat vs i).ownBlock ≠ some k) → w'.heap[k]? = w.heap[k]?

set_option maxHeartbeats 1600000 in
theorem markRw (C : Int) {ls : List (List Int)} {v : Value} {B : Nat} {vs : List Value} (w : World) (hl : ls.length ≤ 1000) (ht : Hid (∀ i, i ≤ ls.length → totI ls i ≤ 20000000)) (hb : Hid (∀ i, (ls.getD i []).length ≤ 1048576)) (h : RI w B v ls vs) :
    Calls Try.prog 32 #[.agg #[.int .i64 C, v], .int .i64 1] w fun e w' => e = .returned (.int .i64 (1 + (totI ls ls.length : Int))) ∧ RI w' B v (mkR ls ls.length) vs ∧ SaveV vs ls.length w w' := by
  obtain ⟨a, c, e1⟩ := h.form
  obtain ⟨m, hm⟩ : ∃ m, m = ls.length := ⟨_, rfl⟩
  rw [← hm] at e1
  subst e1
  have H : Hid (RI w B (.slice a m c) ls vs ∧ ls.length ≤ 1000) := ⟨h, hl⟩
  clear h hm hl
  go_enter Try.func32, Try.ntmps32
  go_wp2_with (fail)
  refine (markRR H.out.2 ht hb (H.out.1.below (by (repeat' (first | (with_reducible exact Below.refl _ _) | (with_reducible assumption) | (with_reducible refine Below.setCell ?_ ?_ _) | (with_reducible refine Below.alloc ?_ ?_ _) | (with_reducible refine below_drewN ?_ _) | (with_reducible refine Below.drew ?_) | (with_reducible exact Nat.le_refl _) | omega | (simp; done) | (simp; omega)))))).mono ?_
  rintro e w1 ⟨rfl, hm1, hon⟩
  have HM : Hid (RI w1 B (.slice a m c) (mkR ls ls.length) vs ∧ SaveV vs ls.length w w1) := by
    refine ⟨hm1, ⟨hon.os, hon.tape, hon.output, by have := hon.size; simp at this; omega, fun k hk hv => ?_⟩⟩
    rw [hon.block k hv]
    exact Below.heap_alloc _ _ _ hk
  clear hm1 hon
  go_wp2
  go_returns
  exact ⟨rfl, HM.out.1, HM.out.2⟩

set_option maxHeartbeats 1600000 in
theorem heldRw (C : Int) {ls : List (List Int)} {v : Value} {B : Nat} {vs : List Value} (w : World) (hl : ls.length ≤ 1000) (ht : Hid (∀ i, i ≤ ls.length → totI ls i ≤ 20000000)) (hb : Hid (∀ i, (ls.getD i []).length ≤ 1048576)) (h : RI w B v (mkR ls ls.length) vs) :
    Calls Try.prog 33 #[.agg #[.int .i64 C, v], .int .i64 1] w fun e w' => e = .returned (.int .i64 (1 + (totI ls ls.length : Int))) ∧ Below w.heap.size w w' := by
  obtain ⟨a, c, e1⟩ := h.form
  rw [mkR_len] at e1
  obtain ⟨m, hm⟩ : ∃ m, m = ls.length := ⟨_, rfl⟩
  rw [← hm] at e1
  subst e1
  have H : Hid (RI w B (.slice a m c) (mkR ls ls.length) vs ∧ ls.length ≤ 1000) := ⟨h, hl⟩
  obtain ⟨T, hT⟩ : ∃ T : Int, T = 1 + (totI ls ls.length : Int) := ⟨_, rfl⟩
  have hneg : ¬ T < 0 := by omega
  have HC : Hid (∀ W : World, Below w.heap.size w W → Calls Try.prog 59 #[.slice a m c, .int .i64 1] W fun e w' => e = .returned (.int .i64 T) ∧ w' = W) := fun W hW => by rw [hT]; exact heldRR H.out.2 ht hb (H.out.1.below hW)
  rw [← hT]
  clear h hm hl hT
  go_enter Try.func33, Try.ntmps33
  go_wp2_with (fail)
  refine (HC.out _ (by (repeat' (first | (with_reducible exact Below.refl _ _) | (with_reducible assumption) | (with_reducible refine Below.setCell ?_ ?_ _) | (with_reducible refine Below.alloc ?_ ?_ _) | (with_reducible refine below_drewN ?_ _) | (with_reducible refine Below.drew ?_) | (with_reducible exact Nat.le_refl _) | omega | (simp; done) | (simp; omega))))).mono ?_
  rintro e w1 ⟨rfl, rfl⟩
  go_wp2
  go_returns
  exact ⟨rfl, by (repeat' (first | (with_reducible exact Below.refl _ _) | (with_reducible assumption) | (with_reducible refine Below.setCell ?_ ?_ _) | (with_reducible refine Below.alloc ?_ ?_ _) | (with_reducible refine below_drewN ?_ _) | (with_reducible refine Below.drew ?_) | (with_reducible exact Nat.le_refl _) | omega | (simp; done) | (simp; omega)))⟩

set_option maxHeartbeats 800000 in
theorem markSh_zero (a : Option Addr) (c : Nat) (w : World) :
    Calls Try.prog 31 #[.slice a 0 c, .int .i64 1] w fun e w' => e = .returned (.int .i64 1) ∧ w' = w := by
  go_enter Try.func31, Try.ntmps31
  go_wp2
  refine wp_loop_rounds 1 ?_
  rw [rounds_succ]
  go_wp2
  go_returns
  exact ⟨rfl, rfl⟩
set_option maxRecDepth 10000 in
set_option maxHeartbeats 3200000 in
theorem markSh_pos (g c n B : Nat) (ys : List Value) (w : World) (hn : n ≤ 1048576) (h : w.ownsRow B 64 5 (.slice (some ⟨g, 0, none⟩) n c) n ys) :
    Calls Try.prog 31 #[.slice (some ⟨g, 0, none⟩) n c, .int .i64 1] w fun e w' => ∃ z, e = .returned (.int .i64 z) ∧ 0 ≤ z ∧ Only g w w' := by
  have H : Hid (w.ownsRow B 64 5 (.slice (some ⟨g, 0, none⟩) n c) n ys) := h
  clear h
  go_enter Try.func31, Try.ntmps31
  go_wp2
  go_loopw [1, 5] (fun q i wr => ∃ (j : Nat) (z : Int), j ≤ n ∧ i = .int .i64 j ∧ q = .int .i64 z ∧ 0 ≤ z ∧ z ≤ 6000000 ∧ Hid (z = 1 + 5 * (j : Int) ∧ ∃ ys, wr.ownsRow B 64 5 (.slice (some ⟨g, 0, none⟩) n c) n ys ∧ Only g w wr)) (fun _ i _ => n - (intOf i).toNat)
  case atStart => exact ⟨0, 1, Nat.zero_le _, rfl, rfl, by omega, by omega, by simp, ys, H.out, Only.refl _ _⟩
  case round =>
    clear H
    obtain ⟨j, z, hj, rfl, rfl, hz0, hz1, hR⟩ := hrel
    by_cases hlt : j < n
    · obtain ⟨hzj, ys, ho, hon⟩ := hR.out
      have hyl := ho.1
      have HZ : Hid (z + 1 + 1 + 1 + 1 + 1 = 1 + 5 * ((j + 1 : Nat) : Int)) := by unfold Hid; omega
      have hz4 : z + 1 + 1 + 1 + 1 + 1 ≤ 6000000 := by omega
      have f0 := World.ownsRow.frozenAt ho (j * 5)
      have g0 : wr.cell? ⟨g, j * 5, none⟩ = some (ys.getD (j * 5) (.bool false)) := by rw [World.ownsRow.cellAt ho _ (by omega)]; simp [hyl, show j * 5 < n * 5 by omega]
      have f1 := World.ownsRow.frozenAt ho (j * 5 + 1)
      have g1 : wr.cell? ⟨g, j * 5 + 1, none⟩ = some (ys.getD (j * 5 + 1) (.bool false)) := by rw [World.ownsRow.cellAt ho _ (by omega)]; simp [hyl, show j * 5 + 1 < n * 5 by omega]
      have f2 := World.ownsRow.frozenAt ho (j * 5 + 2)
      have g2 : wr.cell? ⟨g, j * 5 + 2, none⟩ = some (ys.getD (j * 5 + 2) (.bool false)) := by rw [World.ownsRow.cellAt ho _ (by omega)]; simp [hyl, show j * 5 + 2 < n * 5 by omega]
      have f3 := World.ownsRow.frozenAt ho (j * 5 + 3)
      have g3 : wr.cell? ⟨g, j * 5 + 3, none⟩ = some (ys.getD (j * 5 + 3) (.bool false)) := by rw [World.ownsRow.cellAt ho _ (by omega)]; simp [hyl, show j * 5 + 3 < n * 5 by omega]
      have f4 := World.ownsRow.frozenAt ho (j * 5 + 4)
      have g4 : wr.cell? ⟨g, j * 5 + 4, none⟩ = some (ys.getD (j * 5 + 4) (.bool false)) := by rw [World.ownsRow.cellAt ho _ (by omega)]; simp [hyl, show j * 5 + 4 < n * 5 by omega]
      have R : Hid (∃ ys, ((((((wr.setCell ⟨g, j * 5, none⟩ (.int .i64 (z))).setCell ⟨g, j * 5 + 1, none⟩ (.int .i64 (z + 1))).setCell ⟨g, j * 5 + 2, none⟩ (.int .i64 (z + 1 + 1))).setCell ⟨g, j * 5 + 3, none⟩ (.int .i64 (z + 1 + 1 + 1))).setCell ⟨g, j * 5 + 4, none⟩ (.int .i64 (z + 1 + 1 + 1 + 1)))).ownsRow B 64 5 (.slice (some ⟨g, 0, none⟩) n c) n ys ∧ Only g w ((((((wr.setCell ⟨g, j * 5, none⟩ (.int .i64 (z))).setCell ⟨g, j * 5 + 1, none⟩ (.int .i64 (z + 1))).setCell ⟨g, j * 5 + 2, none⟩ (.int .i64 (z + 1 + 1))).setCell ⟨g, j * 5 + 3, none⟩ (.int .i64 (z + 1 + 1 + 1))).setCell ⟨g, j * 5 + 4, none⟩ (.int .i64 (z + 1 + 1 + 1 + 1))))) := ⟨_, (World.ownsRow.stored (World.ownsRow.stored (World.ownsRow.stored (World.ownsRow.stored (World.ownsRow.stored ho (j * 5) (.int .i64 (z))).1 (j * 5 + 1) (.int .i64 (z + 1))).1 (j * 5 + 2) (.int .i64 (z + 1 + 1))).1 (j * 5 + 3) (.int .i64 (z + 1 + 1 + 1))).1 (j * 5 + 4) (.int .i64 (z + 1 + 1 + 1 + 1))).1, (((((hon.set _ _).set _ _).set _ _).set _ _).set _ _)⟩
      have hgl : g < wr.heap.size := (World.ownsRow.lt ho g rfl).2
      clear ho hon hR hyl hzj
      generalize ys.getD (j * 5) (.bool false) = v0 at g0
      generalize ys.getD (j * 5 + 1) (.bool false) = v1 at g1
      generalize ys.getD (j * 5 + 2) (.bool false) = v2 at g2
      generalize ys.getD (j * 5 + 3) (.bool false) = v3 at g3
      generalize ys.getD (j * 5 + 4) (.bool false) = v4 at g4
      have b0 : (0 : Int) ≤ (j : Int) := by omega
      have b1 : (j : Int) < (n : Int) := by omega
      go_wp2
      go_roundw
      case rel => exact ⟨j + 1, _, by omega, by go_num, rfl, by omega, hz4, HZ.out, R.out⟩
      case measure => simp [intOf]; omega
    · have HR : Hid _ := hR.out
      clear hR
      go_wp2
      go_returns
      obtain ⟨_, ys, _, hon⟩ := HR.out
      exact ⟨z, rfl, hz0, hon⟩
theorem markSh {w : World} {B g : Nat} {l : List Sh} (hn : l.length ≤ 1048576) (h : OG 64 5 shC w B (.slice (some ⟨g, 0, none⟩) l.length l.length) l) :
    Calls Try.prog 31 #[.slice (some ⟨g, 0, none⟩) l.length l.length, .int .i64 1] w fun e w' => ∃ z, e = .returned (.int .i64 z) ∧ 0 ≤ z ∧ Only g w w' := markSh_pos g _ _ B _ w hn h

end Go.Proofs.Ytkbbhdnaemjamaa
