/- Proved here: as LawSR, where the answer's slice has whatever capacity. -/
import Derived.Test.YtpfnhiohbgconaaLawSR
import Derived.Test.YtpfnhiohbgconaaISweep
namespace Go.Proofs.Ytpfnhiohbgconaa
open Go.ChangeShapes Go.WideShapes Go.ChangeAt Go.RowKit Go.Joins
set_option linter.unusedVariables false
set_option linter.unusedSimpArgs false

set_option maxHeartbeats 3200000 in
theorem mark_posC (g c c' n B : Nat) (ys : List Value) (w : World) (hn : n ≤ 1048576) (h : RW w B (.slice (some ⟨g, 0, none⟩) n c) n ys) :
    Calls Try.prog 15 #[.slice (some ⟨g, 0, none⟩) n c', .int .i64 1] w fun e w' => e = .returned (.int .i64 (1 + 4 * (n : Int))) ∧ RW w' B (.slice (some ⟨g, 0, none⟩) n c) n (marks (n * 4)) ∧ Only g w w' := by
  have H : Hid (RW w B (.slice (some ⟨g, 0, none⟩) n c) n ys) := h
  clear h
  go_enter Try.func15, Try.ntmps15
  go_wp2
  go_loopw [1, 5] (fun q i wr => ∃ (j : Nat) (z : Int), j ≤ n ∧ i = .int .i64 j ∧ q = .int .i64 z ∧ 0 ≤ z ∧ z ≤ 5000000 ∧ Hid (z = 1 + 4 * (j : Int) ∧ ∃ ys : List Value, ys.length = n * 4 ∧ (∀ t, t < j * 4 → ys[t]? = some (.int .i64 (1 + (t : Int)))) ∧ RW wr B (.slice (some ⟨g, 0, none⟩) n c) n ys ∧ Only g w wr)) (fun _ i _ => n - (intOf i).toNat)
  case atStart => exact ⟨0, 1, Nat.zero_le _, rfl, rfl, by omega, by omega, by simp, ys, H.out.1, fun t ht => by omega, H.out, Only.refl _ _⟩
  case round =>
    obtain ⟨j, z, hj, rfl, rfl, hz0, hz1, hR⟩ := hrel
    by_cases hlt : j < n
    · obtain ⟨hzj, ys, hyl, hyt, hown, honly⟩ := hR.out
      have f0 := World.ownsRow.frozenAt hown (j * 4)
      have f1 := World.ownsRow.frozenAt hown (j * 4 + 1)
      have f2 := World.ownsRow.frozenAt hown (j * 4 + 2)
      have f3 := World.ownsRow.frozenAt hown (j * 4 + 3)
      have g0 : wr.cell? ⟨g, j * 4, none⟩ = some (ys.getD (j * 4) (.bool false)) := by rw [World.ownsRow.cellAt hown _ (by omega)]; simp [hyl, show j * 4 < n * 4 by omega]
      have g1 : wr.cell? ⟨g, j * 4 + 1, none⟩ = some (ys.getD (j * 4 + 1) (.bool false)) := by rw [World.ownsRow.cellAt hown _ (by omega)]; simp [hyl, show j * 4 + 1 < n * 4 by omega]
      have g2 : wr.cell? ⟨g, j * 4 + 2, none⟩ = some (ys.getD (j * 4 + 2) (.bool false)) := by rw [World.ownsRow.cellAt hown _ (by omega)]; simp [hyl, show j * 4 + 2 < n * 4 by omega]
      have g3 : wr.cell? ⟨g, j * 4 + 3, none⟩ = some (ys.getD (j * 4 + 3) (.bool false)) := by rw [World.ownsRow.cellAt hown _ (by omega)]; simp [hyl, show j * 4 + 3 < n * 4 by omega]
      have R : Hid (z + 1 + 1 + 1 + 1 = 1 + 4 * ((j + 1 : Nat) : Int) ∧ ∃ ys : List Value, ys.length = n * 4 ∧ (∀ t, t < (j + 1) * 4 → ys[t]? = some (.int .i64 (1 + (t : Int)))) ∧
          RW ((((wr.setCell ⟨g, j * 4, none⟩ (.int .i64 z)).setCell ⟨g, j * 4 + 1, none⟩ (.int .i64 (z + 1))).setCell ⟨g, j * 4 + 2, none⟩ (.int .i64 (z + 1 + 1))).setCell ⟨g, j * 4 + 3, none⟩ (.int .i64 (z + 1 + 1 + 1))) B (.slice (some ⟨g, 0, none⟩) n c) n ys ∧
          Only g w ((((wr.setCell ⟨g, j * 4, none⟩ (.int .i64 z)).setCell ⟨g, j * 4 + 1, none⟩ (.int .i64 (z + 1))).setCell ⟨g, j * 4 + 2, none⟩ (.int .i64 (z + 1 + 1))).setCell ⟨g, j * 4 + 3, none⟩ (.int .i64 (z + 1 + 1 + 1)))) := by
        refine ⟨by omega, _, ?_, ?_, four_setsC hown j _ _ _ _, (((honly.set _ _).set _ _).set _ _).set _ _⟩
        · simpa using hyl
        · exact four_marks hyl hlt hzj hyt
      clear hyl hyt hown honly hzj
      have b0 : (0 : Int) ≤ (j : Int) := by omega
      have b1 : (j : Int) < (n : Int) := by omega
      have hz4 : z + 1 + 1 + 1 + 1 ≤ 5000000 := by have := R.out.1; omega
      go_wp2
      go_roundw
      case rel => exact ⟨j + 1, _, by omega, by go_num, rfl, by omega, hz4, R.out⟩
      case measure => simp [intOf]; omega
    · go_wp2
      go_returns
      obtain ⟨hzj, ys, hyl, hyt, hown, honly⟩ := hR.out
      have ej : j = n := by omega
      subst ej
      refine ⟨by rw [hzj]; rfl, ?_, honly⟩
      have e : ys = marks (j * 4) := by
        apply List.ext_getElem?
        intro t
        rcases Nat.lt_or_ge t (j * 4) with ht | ht
        · rw [hyt t ht, marks_get ht]
        · rw [List.getElem?_eq_none (by omega), List.getElem?_eq_none (by rw [marks_length]; exact ht)]
      rw [← e]; exact hown

theorem mark_anyC {w : World} {B n : Nat} {a : Option Addr} {c : Nat} {ys : List Value} (c' : Nat) (hn : n ≤ 1048576) (h : RW w B (.slice a n c) n ys) :
    Calls Try.prog 15 #[.slice a n c', .int .i64 1] w fun e w' => e = .returned (.int .i64 (1 + 4 * (n : Int))) ∧ RW w' B (.slice a n c) n (marks (n * 4)) ∧ ∃ g, B ≤ g ∧ ((Value.slice a n c).ownBlock = some g ∨ w' = w) ∧ Only g w w' := by
  rcases h.2 with ⟨e, rfl⟩ | ⟨g, cap, cur, e, hB, _⟩
  · refine (mark_zero a c' w).mono ?_
    rintro e w' ⟨rfl, rfl⟩
    exact ⟨rfl, by have := h.1; obtain rfl : ys = [] := List.length_eq_zero_iff.1 (by omega); exact h, B, Nat.le_refl _, Or.inr rfl, Only.refl _ _⟩
  · simp only [Value.slice.injEq, true_and] at e
    obtain ⟨rfl, rfl⟩ := e
    refine (mark_posC g c c' n B ys w hn h).mono ?_
    rintro e w' ⟨rfl, h1, h2⟩
    exact ⟨rfl, h1, g, hB, Or.inl rfl, h2⟩
theorem held_anyC {w : World} {B n : Nat} {a : Option Addr} {c : Nat} (c' : Nat) (hn : n ≤ 1048576) (h : RW w B (.slice a n c) n (marks (n * 4))) :
    Calls Try.prog 59 #[.slice a n c', .int .i64 1] w fun e w' => e = .returned (.int .i64 (1 + 4 * (n : Int))) ∧ w' = w := by
  rcases h.2 with ⟨e, rfl⟩ | ⟨g, cap, cur, e, hB, _⟩
  · exact held_zero a c' w
  · simp only [Value.slice.injEq, true_and] at e
    obtain ⟨rfl, rfl⟩ := e
    refine held_pos g c' n w hn fun t ht => ?_
    rw [World.ownsRow.cellAt (w := w) (g := g) (cap := c) h t ht, marks_get ht]

set_option maxHeartbeats 800000 in
theorem markSC (C : Int) (n : Nat) (cs : List Value) (a : Option Addr) (c c' : Nat) (B : Nat) (w : World) (hl : n ≤ 1048576) (hB : B ≤ w.heap.size) (h : RW w B (.slice a n c) n cs) :
    Calls Try.prog 16 #[.agg #[.int .i64 C, .slice a n c'], .int .i64 1] w fun e w' => e = .returned (.int .i64 (1 + 4 * (n : Int))) ∧ RW w' B (.slice a n c) n (marks (n * 4)) ∧ ∃ g, B ≤ g ∧ ((Value.slice a n c).ownBlock = some g ∨ w.heap.size ≤ g) ∧ SaveBut g w w' := by
  have H : Hid (RW w B (.slice a n c) n cs) := h
  clear h
  go_enter Try.func16, Try.ntmps16
  go_wp2_with (fail)
  refine (mark_anyC c' hl (RW.below H.out (by (repeat' (first | (with_reducible exact Below.refl _ _) | (with_reducible assumption) | (with_reducible refine Below.setCell ?_ ?_ _) | (with_reducible refine Below.alloc ?_ ?_ _) | (with_reducible refine below_drewN ?_ _) | (with_reducible refine Below.drew ?_) | (with_reducible exact Nat.le_refl _) | omega | (simp; done) | (simp; omega)))))).mono ?_
  rintro e w1 ⟨rfl, hm, g, hBg, hg, hon⟩
  go_wp2
  go_returns
  refine ⟨rfl, hm, ?_⟩
  have hs := hon.size
  simp at hs
  rcases hg with hg | hg
  · refine ⟨g, hBg, Or.inl hg, ⟨hon.os, hon.tape, hon.output, by omega, fun k hk hkg => ?_⟩⟩
    rw [hon.block k hkg]
    exact Below.heap_alloc _ _ _ hk
  · subst hg
    exact ⟨w.heap.size, hB, Or.inr (Nat.le_refl _), ⟨rfl, rfl, rfl, by simp, fun k hk hkg => Below.heap_alloc _ _ _ hk⟩⟩

set_option maxHeartbeats 800000 in
theorem heldSC (C : Int) (n : Nat) (a : Option Addr) (c c' : Nat) (B : Nat) (w : World) (hl : n ≤ 1048576) (h : RW w B (.slice a n c) n (marks (n * 4))) :
    Calls Try.prog 17 #[.agg #[.int .i64 C, .slice a n c'], .int .i64 1] w fun e w' => e = .returned (.int .i64 (1 + 4 * (n : Int))) ∧ Below w.heap.size w w' := by
  have H : Hid (RW w B (.slice a n c) n (marks (n * 4))) := h
  clear h
  have hneg : ¬ (1 + 4 * (n : Int)) < 0 := by omega
  go_enter Try.func17, Try.ntmps17
  go_wp2_with (fail)
  refine (held_anyC (B := B) c' hl (RW.below H.out (by (repeat' (first | (with_reducible exact Below.refl _ _) | (with_reducible assumption) | (with_reducible refine Below.setCell ?_ ?_ _) | (with_reducible refine Below.alloc ?_ ?_ _) | (with_reducible refine below_drewN ?_ _) | (with_reducible refine Below.drew ?_) | (with_reducible exact Nat.le_refl _) | omega | (simp; done) | (simp; omega)))))).mono ?_
  rintro e w1 ⟨rfl, rfl⟩
  go_wp2
  go_returns
  exact ⟨rfl, by (repeat' (first | (with_reducible exact Below.refl _ _) | (with_reducible assumption) | (with_reducible refine Below.setCell ?_ ?_ _) | (with_reducible refine Below.alloc ?_ ?_ _) | (with_reducible refine below_drewN ?_ _) | (with_reducible refine Below.drew ?_) | (with_reducible exact Nat.le_refl _) | omega | (simp; done) | (simp; omega)))⟩


end Go.Proofs.Ytpfnhiohbgconaa
