/- Proved here: as LawSC, the numbers counted from whatever first one. -/
import Derived.Test.YtlnhfgacgbdjaaaLawSC
namespace Go.Proofs.Ytlnhfgacgbdjaaa
open Go.ChangeShapes Go.WideShapes Go.ChangeAt Go.RowKit Go.Joins
set_option linter.unusedVariables false
set_option linter.unusedSimpArgs false

/-- The numbers K, K + 1, .. -/
def marksK (K : Int) (n : Nat) : List Value := (List.range n).map fun j : Nat => Value.int .i64 (K + (j : Int))
theorem marks_lengthK (K : Int) (n : Nat) : (marksK K n).length = n := by simp [marksK]
theorem marks_getK {K : Int} {n j : Nat} (h : j < n) : (marksK K n)[j]? = some (.int .i64 (K + (j : Int))) := by simp [marksK, h]

theorem four_marksK {K : Int} {ys : List Value} {n j : Nat} {z : Int} (hl : ys.length = n * 4) (hj : j < n) (hz : z = K + 4 * (j : Int)) (h : ∀ t, t < j * 4 → ys[t]? = some (.int .i64 (K + (t : Int)))) :
    ∀ t, t < (j + 1) * 4 → ((((ys.set (j * 4) (.int .i64 z)).set (j * 4 + 1) (.int .i64 (z + 1))).set (j * 4 + 2) (.int .i64 (z + 1 + 1))).set (j * 4 + 3) (.int .i64 (z + 1 + 1 + 1)))[t]? = some (.int .i64 (K + (t : Int))) := by
  intro t ht
  rcases Nat.lt_or_ge t (j * 4) with h1 | h1
  · rw [List.getElem?_set_ne (by omega), List.getElem?_set_ne (by omega), List.getElem?_set_ne (by omega), List.getElem?_set_ne (by omega)]
    exact h t h1
  · rcases (by omega : t = j * 4 ∨ t = j * 4 + 1 ∨ t = j * 4 + 2 ∨ t = j * 4 + 3) with rfl | rfl | rfl | rfl
    · rw [List.getElem?_set_ne (by omega), List.getElem?_set_ne (by omega), List.getElem?_set_ne (by omega), List.getElem?_set_self (by omega)]
      rw [show z = K + ((j * 4 : Nat) : Int) by omega]
    · rw [List.getElem?_set_ne (by omega), List.getElem?_set_ne (by omega), List.getElem?_set_self (by simp; omega)]
      rw [show z + 1 = K + ((j * 4 + 1 : Nat) : Int) by omega]
    · rw [List.getElem?_set_ne (by omega), List.getElem?_set_self (by simp; omega)]
      rw [show z + 1 + 1 = K + ((j * 4 + 2 : Nat) : Int) by omega]
    · rw [List.getElem?_set_self (by simp; omega)]
      rw [show z + 1 + 1 + 1 = K + ((j * 4 + 3 : Nat) : Int) by omega]

set_option maxHeartbeats 800000 in
theorem mark_zeroK (K : Int) (a : Option Addr) (c : Nat) (w : World) :
    Calls Try.prog 11 #[.slice a 0 c, .int .i64 K] w fun e w' => e = .returned (.int .i64 K) ∧ w' = w := by
  go_enter Try.func11, Try.ntmps11
  go_wp2
  refine wp_loop_rounds 1 ?_
  rw [rounds_succ]
  go_wp2
  go_returns
  exact ⟨rfl, rfl⟩

set_option maxHeartbeats 3200000 in
theorem mark_posK (K : Int) (hK : 0 ≤ K ∧ K ≤ 100000000) (g c c' n B : Nat) (ys : List Value) (w : World) (hn : n ≤ 1048576) (h : RW w B (.slice (some ⟨g, 0, none⟩) n c) n ys) :
    Calls Try.prog 11 #[.slice (some ⟨g, 0, none⟩) n c', .int .i64 K] w fun e w' => e = .returned (.int .i64 (K + 4 * (n : Int))) ∧ RW w' B (.slice (some ⟨g, 0, none⟩) n c) n (marksK K (n * 4)) ∧ Only g w w' := by
  have H : Hid (RW w B (.slice (some ⟨g, 0, none⟩) n c) n ys) := h
  clear h
  go_enter Try.func11, Try.ntmps11
  go_wp2
  go_loopw [1, 5] (fun q i wr => ∃ (j : Nat) (z : Int), j ≤ n ∧ i = .int .i64 j ∧ q = .int .i64 z ∧ 0 ≤ z ∧ z ≤ 200000000 ∧ Hid (z = K + 4 * (j : Int) ∧ ∃ ys : List Value, ys.length = n * 4 ∧ (∀ t, t < j * 4 → ys[t]? = some (.int .i64 (K + (t : Int)))) ∧ RW wr B (.slice (some ⟨g, 0, none⟩) n c) n ys ∧ Only g w wr)) (fun _ i _ => n - (intOf i).toNat)
  case atStart => exact ⟨0, K, Nat.zero_le _, rfl, rfl, by omega, by omega, by simp, ys, H.out.1, fun t ht => by omega, H.out, Only.refl _ _⟩
  case round =>
    obtain ⟨j, z, hj, rfl, rfl, hz0, hz1, hR⟩ := hrel
    by_cases hlt : j < n
    · obtain ⟨hzj, ys, hyl, hyt, hown, honly⟩ := hR.out
      have f0 := World.ownsRow.frozenAt hown (j * 4)
      have f1 := World.ownsRow.frozenAt hown (j * 4 + 1)
      have f2 := World.ownsRow.frozenAt hown (j * 4 + 2)
      have f3 := World.ownsRow.frozenAt hown (j * 4 + 3)
      have g0 : wr.cell? ⟨g, j * 4, none⟩ = some (ys.getD (j * 4) (.bool false)) := by rw [World.ownsRow.cellAt hown _ (by omega)]; simp [hyl, show j * 4 < n * 4 by omega]
      have g1 : wr.cell? ⟨g, j * 4 + 1, none⟩ = some (ys.getD (j * 4 + 1) (.bool false)) := by rw [World.ownsRow.cellAt hown _ (by omega)]; simp [hyl, show j * 4 + 1 < n * 4 by omega]
      have g2 : wr.cell? ⟨g, j * 4 + 2, none⟩ = some (ys.getD (j * 4 + 2) (.bool false)) := by rw [World.ownsRow.cellAt hown _ (by omega)]; simp [hyl, show j * 4 + 2 < n * 4 by omega]
      have g3 : wr.cell? ⟨g, j * 4 + 3, none⟩ = some (ys.getD (j * 4 + 3) (.bool false)) := by rw [World.ownsRow.cellAt hown _ (by omega)]; simp [hyl, show j * 4 + 3 < n * 4 by omega]
      have R : Hid (z + 1 + 1 + 1 + 1 = K + 4 * ((j + 1 : Nat) : Int) ∧ ∃ ys : List Value, ys.length = n * 4 ∧ (∀ t, t < (j + 1) * 4 → ys[t]? = some (.int .i64 (K + (t : Int)))) ∧
          RW ((((wr.setCell ⟨g, j * 4, none⟩ (.int .i64 z)).setCell ⟨g, j * 4 + 1, none⟩ (.int .i64 (z + 1))).setCell ⟨g, j * 4 + 2, none⟩ (.int .i64 (z + 1 + 1))).setCell ⟨g, j * 4 + 3, none⟩ (.int .i64 (z + 1 + 1 + 1))) B (.slice (some ⟨g, 0, none⟩) n c) n ys ∧
          Only g w ((((wr.setCell ⟨g, j * 4, none⟩ (.int .i64 z)).setCell ⟨g, j * 4 + 1, none⟩ (.int .i64 (z + 1))).setCell ⟨g, j * 4 + 2, none⟩ (.int .i64 (z + 1 + 1))).setCell ⟨g, j * 4 + 3, none⟩ (.int .i64 (z + 1 + 1 + 1)))) := by
        refine ⟨by omega, _, ?_, ?_, four_setsC hown j _ _ _ _, (((honly.set _ _).set _ _).set _ _).set _ _⟩
        · simpa using hyl
        · exact four_marksK hyl hlt hzj hyt
      clear hyl hyt hown honly hzj
      have b0 : (0 : Int) ≤ (j : Int) := by omega
      have b1 : (j : Int) < (n : Int) := by omega
      have hz4 : z + 1 + 1 + 1 + 1 ≤ 200000000 := by have := R.out.1; omega
      go_wp2
      go_roundw
      case rel => exact ⟨j + 1, _, by omega, by go_num, rfl, by omega, hz4, R.out⟩
      case measure => simp [intOf]; omega
    · go_wp2
      go_returns
      obtain ⟨hzj, ys, hyl, hyt, hown, honly⟩ := hR.out
      have ej : j = n := by omega
      subst ej
      refine ⟨by rw [hzj]; rfl, ?_, honly⟩
      have e : ys = marksK K (j * 4) := by
        apply List.ext_getElem?
        intro t
        rcases Nat.lt_or_ge t (j * 4) with ht | ht
        · rw [hyt t ht, marks_getK ht]
        · rw [List.getElem?_eq_none (by omega), List.getElem?_eq_none (by rw [marks_lengthK]; exact ht)]
      rw [← e]; exact hown

theorem mark_anyK (K : Int) (hK : 0 ≤ K ∧ K ≤ 100000000) {w : World} {B n : Nat} {a : Option Addr} {c : Nat} {ys : List Value} (c' : Nat) (hn : n ≤ 1048576) (h : RW w B (.slice a n c) n ys) :
    Calls Try.prog 11 #[.slice a n c', .int .i64 K] w fun e w' => e = .returned (.int .i64 (K + 4 * (n : Int))) ∧ RW w' B (.slice a n c) n (marksK K (n * 4)) ∧ ∃ g, B ≤ g ∧ ((Value.slice a n c).ownBlock = some g ∨ w' = w) ∧ Only g w w' := by
  rcases h.2 with ⟨e, rfl⟩ | ⟨g, cap, cur, e, hB, _⟩
  · refine (mark_zeroK K a c' w).mono ?_
    rintro e w' ⟨rfl, rfl⟩
    exact ⟨by simp, by have := h.1; obtain rfl : ys = [] := List.length_eq_zero_iff.1 (by omega); exact h, B, Nat.le_refl _, Or.inr rfl, Only.refl _ _⟩
  · simp only [Value.slice.injEq, true_and] at e
    obtain ⟨rfl, rfl⟩ := e
    refine (mark_posK K hK g c c' n B ys w hn h).mono ?_
    rintro e w' ⟨rfl, h1, h2⟩
    exact ⟨rfl, h1, g, hB, Or.inl rfl, h2⟩
set_option maxHeartbeats 800000 in
theorem held_zeroK (K : Int) (a : Option Addr) (c : Nat) (w : World) :
    Calls Try.prog 35 #[.slice a 0 c, .int .i64 K] w fun e w' => e = .returned (.int .i64 K) ∧ w' = w := by
  go_enter Try.func35, Try.ntmps35
  go_wp2
  refine wp_loop_rounds 1 ?_
  rw [rounds_succ]
  go_wp2
  go_returns
  exact ⟨rfl, rfl⟩

set_option maxHeartbeats 3200000 in
theorem held_posK (K : Int) (hK : 0 ≤ K ∧ K ≤ 100000000) (g c n : Nat) (w : World) (hn : n ≤ 1048576) (h : ∀ t, t < n * 4 → w.cell? ⟨g, t, none⟩ = some (.int .i64 (K + (t : Int)))) :
    Calls Try.prog 35 #[.slice (some ⟨g, 0, none⟩) n c, .int .i64 K] w fun e w' => e = .returned (.int .i64 (K + 4 * (n : Int))) ∧ w' = w := by
  have H : Hid (∀ t, t < n * 4 → w.cell? ⟨g, t, none⟩ = some (.int .i64 (K + (t : Int)))) := h
  clear h
  go_enter Try.func35, Try.ntmps35
  go_wp2
  go_loop [1, 5] (fun q i => ∃ (j : Nat) (z : Int), j ≤ n ∧ i = .int .i64 j ∧ q = .int .i64 z ∧ 0 ≤ z ∧ z ≤ 200000000 ∧ Hid (z = K + 4 * (j : Int))) (fun _ i => n - (intOf i).toNat)
  case atStart => exact ⟨0, K, Nat.zero_le _, rfl, rfl, by omega, by omega, by unfold Hid; simp⟩
  case round =>
    obtain ⟨j, z, hj, rfl, rfl, hz0, hz1, hR⟩ := hrel
    by_cases hlt : j < n
    · have c0 := H.out (j * 4) (by omega)
      have c1 := H.out (j * 4 + 1) (by omega)
      have c2 := H.out (j * 4 + 2) (by omega)
      have c3 := H.out (j * 4 + 3) (by omega)
      rw [show K + ((j * 4 : Nat) : Int) = z by have := hR.out; omega] at c0
      rw [show K + ((j * 4 + 1 : Nat) : Int) = z + 1 by have := hR.out; omega] at c1
      rw [show K + ((j * 4 + 2 : Nat) : Int) = z + 1 + 1 by have := hR.out; omega] at c2
      rw [show K + ((j * 4 + 3 : Nat) : Int) = z + 1 + 1 + 1 by have := hR.out; omega] at c3
      have HZ : Hid (z + 1 + 1 + 1 + 1 = K + 4 * ((j + 1 : Nat) : Int)) := by unfold Hid; have := hR.out; omega
      have b0 : (0 : Int) ≤ (j : Int) := by omega
      have b1 : (j : Int) < (n : Int) := by omega
      have hz4 : z + 1 + 1 + 1 + 1 ≤ 200000000 := by have := HZ.out; omega
      clear hR
      go_wp2
      go_round
      case rel => exact ⟨j + 1, _, by omega, by go_num, rfl, by omega, hz4, HZ.out⟩
      case measure => simp [intOf]; omega
    · have e : Hid (z = K + 4 * (n : Int)) := by unfold Hid; rw [hR.out]; omega
      go_wp2
      go_returns
      exact ⟨by rw [← e.out]; rfl, rfl⟩

theorem held_anyK (K : Int) (hK : 0 ≤ K ∧ K ≤ 100000000) {w : World} {B n : Nat} {a : Option Addr} {c : Nat} (c' : Nat) (hn : n ≤ 1048576) (h : RW w B (.slice a n c) n (marksK K (n * 4))) :
    Calls Try.prog 35 #[.slice a n c', .int .i64 K] w fun e w' => e = .returned (.int .i64 (K + 4 * (n : Int))) ∧ w' = w := by
  rcases h.2 with ⟨e, rfl⟩ | ⟨g, cap, cur, e, hB, _⟩
  · exact (held_zeroK K a c' w).mono fun e w' h => ⟨by rw [h.1]; simp, h.2⟩
  · simp only [Value.slice.injEq, true_and] at e
    obtain ⟨rfl, rfl⟩ := e
    refine held_posK K hK g c' n w hn fun t ht => ?_
    rw [World.ownsRow.cellAt (w := w) (g := g) (cap := c) h t ht, marks_getK ht]


end Go.Proofs.Ytlnhfgacgbdjaaa
