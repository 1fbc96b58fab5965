/- Proved here: 'the program's CompareFrac answers as the model's', for every two fractions, without a condition. -/
import Derived.Test.YtblalcigbiobkamBoth
import Derived.Test.YtblalcigbiobkamLawBase
namespace Go.Proofs.Ytblalcigbiobkam
open Go.ChangeShapes Go.WideShapes Go.ChangeAt Go.RowKit Go.Joins
set_option linter.unusedVariables false

theorem mul_bd {x y : Int} (h1 : -1000000000 ≤ x) (h2 : x ≤ 1000000000) (h3 : 1 ≤ y) (h4 : y ≤ 1000000000) : -1000000000000000000 ≤ x * y ∧ x * y ≤ 1000000000000000000 := by
  constructor
  · have a := Int.mul_le_mul_of_nonneg_right h1 (show 0 ≤ y by omega)
    have b : -1000000000 * 1000000000 ≤ -1000000000 * y := by omega
    omega
  · have a := Int.mul_le_mul_of_nonneg_right h2 (show 0 ≤ y by omega)
    omega

/-- The order of two fractions. -/
def cmp (a b c d : Int) : Int := if bothB a b c d then (if a * d < c * b then -1 else if c * b < a * d then 1 else 0) else 0

theorem cmp_no {a b c d : Int} (h : bothB a b c d = false) : cmp a b c d = 0 := by unfold cmp; rw [h]; rfl
theorem cmp_yes {a b c d : Int} (h : bothB a b c d = true) : cmp a b c d = if a * d < c * b then -1 else if c * b < a * d then 1 else 0 := by unfold cmp; rw [h]; rfl

set_option maxHeartbeats 400000 in
theorem impl_cmp_no (a b c d : Int) (w : World) (h : bothB a b c d = false) :
    Calls Try.prog 13 #[.agg #[.int .i64 a, .int .i64 b], .agg #[.int .i64 c, .int .i64 d]] w fun e w' => e = .returned (.int .i64 0) ∧ Below w.heap.size w w' := by
  go_enter Try.func13, Try.ntmps13
  go_wp2_with (fail)
  refine (impl_both _ _ _ _ _).mono ?_
  rintro e w1 ⟨rfl, hb1⟩
  rw [h]
  go_wp2
  go_returns
  exact ⟨rfl, Below.trans (by (repeat' (first | (with_reducible exact Below.refl _ _) | (with_reducible assumption) | (with_reducible refine Below.setCell ?_ ?_ _) | (with_reducible refine Below.alloc ?_ ?_ _) | (with_reducible refine below_drewN ?_ _) | (with_reducible refine Below.drew ?_) | (with_reducible exact Nat.le_refl _) | omega | (simp; done) | (simp; omega)))) (hb1.mono (by simp; omega))⟩

set_option maxHeartbeats 400000 in
theorem spec_cmp_no (a b c d : Int) (w : World) (h : bothB a b c d = false) :
    Calls Try.prog 12 #[.agg #[.int .i64 a, .int .i64 b], .agg #[.int .i64 c, .int .i64 d]] w fun e w' => e = .returned (.int .i64 0) ∧ Below w.heap.size w w' := by
  go_enter Try.func12, Try.ntmps12
  go_wp2_with (fail)
  refine (spec_both _ _ _ _ _).mono ?_
  rintro e w1 ⟨rfl, hb1⟩
  rw [h]
  go_wp2
  go_returns
  exact ⟨rfl, Below.trans (by (repeat' (first | (with_reducible exact Below.refl _ _) | (with_reducible assumption) | (with_reducible refine Below.setCell ?_ ?_ _) | (with_reducible refine Below.alloc ?_ ?_ _) | (with_reducible refine below_drewN ?_ _) | (with_reducible refine Below.drew ?_) | (with_reducible exact Nat.le_refl _) | omega | (simp; done) | (simp; omega)))) (hb1.mono (by simp; omega))⟩

set_option maxHeartbeats 800000 in
theorem spec_cmp_yes (a b c d : Int) (w : World) (h : bothB a b c d = true) :
    Calls Try.prog 12 #[.agg #[.int .i64 a, .int .i64 b], .agg #[.int .i64 c, .int .i64 d]] w fun e w' => e = .returned (.int .i64 (cmp a b c d)) ∧ Below w.heap.size w w' := by
  have hi := both_in h
  have m1 := mul_bd hi.1.2.2.1 hi.1.2.2.2 hi.2.1 hi.2.2.1
  have m2 := mul_bd hi.2.2.2.1 hi.2.2.2.2 hi.1.1 hi.1.2.1
  rw [cmp_yes h]
  clear hi
  have hz : w.heap.size < w.heap.size + 1 + 1 := by omega
  go_enter Try.func12, Try.ntmps12
  go_wp2_with (fail)
  refine (spec_both _ _ _ _ _).mono ?_
  rintro e w1 ⟨rfl, hb1⟩
  rw [h]
  have HB : Hid (Below w.heap.size w w1) := Below.trans (by (repeat' (first | (with_reducible exact Below.refl _ _) | (with_reducible assumption) | (with_reducible refine Below.setCell ?_ ?_ _) | (with_reducible refine Below.alloc ?_ ?_ _) | (with_reducible refine below_drewN ?_ _) | (with_reducible refine Below.drew ?_) | (with_reducible exact Nat.le_refl _) | omega | (simp; done) | (simp; omega)))) (hb1.mono (by simp; omega))
  obtain ⟨hc1, hf1⟩ := bcell hb1
  clear hb1 h
  go_wp2
  all_goals go_returns
  all_goals refine ⟨ret_int ?_, HB.out⟩
  all_goals first | rfl | omega | (rw [if_pos (by omega)]) | (rw [if_neg (by omega), if_pos (by omega)]) | (rw [if_neg (by omega), if_neg (by omega)])

theorem same_cross {a b c d : Int} (h : bothB a b c d = true) : same2 a b c d = true ↔ a * d = c * b := by
  have hi := both_in h
  unfold bothB at h
  rw [Bool.and_eq_true] at h
  have g1 := (okF_in h.1).2
  have g2 := (okF_in h.2).2
  constructor
  · intro hs
    have : a = c ∧ b = d := by unfold same2 at hs; simpa using hs
    rw [this.1, this.2]
  · intro hs
    have := FracMath.cross a b c d hi.1.1 hi.2.1 g1 g2 hs
    unfold same2; simp [this.1, this.2]

set_option maxHeartbeats 800000 in
theorem impl_cmp_same (a b c d : Int) (w : World) (h : bothB a b c d = true) (hs : same2 a b c d = true) :
    Calls Try.prog 13 #[.agg #[.int .i64 a, .int .i64 b], .agg #[.int .i64 c, .int .i64 d]] w fun e w' => e = .returned (.int .i64 0) ∧ Below w.heap.size w w' := by
  have hg := frac_guard
  have hn := frac_eql_t _ _ _ _ hs
  have hz : w.heap.size < w.heap.size + 1 + 1 := by omega
  clear hs
  go_enter Try.func13, Try.ntmps13
  go_wp2_with (fail)
  refine (impl_both _ _ _ _ _).mono ?_
  rintro e w1 ⟨rfl, hb1⟩
  rw [h]
  have HB : Hid (Below w.heap.size w w1) := Below.trans (by (repeat' (first | (with_reducible exact Below.refl _ _) | (with_reducible assumption) | (with_reducible refine Below.setCell ?_ ?_ _) | (with_reducible refine Below.alloc ?_ ?_ _) | (with_reducible refine below_drewN ?_ _) | (with_reducible refine Below.drew ?_) | (with_reducible exact Nat.le_refl _) | omega | (simp; done) | (simp; omega)))) (hb1.mono (by simp; omega))
  obtain ⟨hc1, hf1⟩ := bcell hb1
  clear hb1 h
  go_wp2
  go_returns
  exact ⟨rfl, HB.out⟩

set_option maxHeartbeats 800000 in
theorem impl_cmp_diff (a b c d : Int) (w : World) (h : bothB a b c d = true) (hs : same2 a b c d = false) :
    Calls Try.prog 13 #[.agg #[.int .i64 a, .int .i64 b], .agg #[.int .i64 c, .int .i64 d]] w fun e w' => e = .returned (.int .i64 (if a * d < c * b then -1 else 1)) ∧ Below w.heap.size w w' := by
  have hi := both_in h
  have m1 := mul_bd hi.1.2.2.1 hi.1.2.2.2 hi.2.1 hi.2.2.1
  have m2 := mul_bd hi.2.2.2.1 hi.2.2.2.2 hi.1.1 hi.1.2.1
  have hg := frac_guard
  have hn := frac_eql_f _ _ _ _ hs
  have hz : w.heap.size < w.heap.size + 1 + 1 := by omega
  clear hs hi
  go_enter Try.func13, Try.ntmps13
  go_wp2_with (fail)
  refine (impl_both _ _ _ _ _).mono ?_
  rintro e w1 ⟨rfl, hb1⟩
  rw [h]
  have HB : Hid (Below w.heap.size w w1) := Below.trans (by (repeat' (first | (with_reducible exact Below.refl _ _) | (with_reducible assumption) | (with_reducible refine Below.setCell ?_ ?_ _) | (with_reducible refine Below.alloc ?_ ?_ _) | (with_reducible refine below_drewN ?_ _) | (with_reducible refine Below.drew ?_) | (with_reducible exact Nat.le_refl _) | omega | (simp; done) | (simp; omega)))) (hb1.mono (by simp; omega))
  obtain ⟨hc1, hf1⟩ := bcell hb1
  clear hb1 h
  go_wp2
  all_goals go_returns
  all_goals refine ⟨ret_int ?_, HB.out⟩
  all_goals first | rfl | (rw [if_pos (by omega)]) | (rw [if_neg (by omega)])

theorem spec_cmp (a b c d : Int) (w : World) :
    Calls Try.prog 12 #[.agg #[.int .i64 a, .int .i64 b], .agg #[.int .i64 c, .int .i64 d]] w fun e w' => e = .returned (.int .i64 (cmp a b c d)) ∧ Below w.heap.size w w' := by
  cases h : bothB a b c d with
  | false => rw [cmp_no h]; exact spec_cmp_no a b c d w h
  | true => exact spec_cmp_yes a b c d w h

theorem impl_cmp (a b c d : Int) (w : World) :
    Calls Try.prog 13 #[.agg #[.int .i64 a, .int .i64 b], .agg #[.int .i64 c, .int .i64 d]] w fun e w' => e = .returned (.int .i64 (cmp a b c d)) ∧ Below w.heap.size w w' := by
  cases h : bothB a b c d with
  | false => rw [cmp_no h]; exact impl_cmp_no a b c d w h
  | true =>
    have hx := same_cross h
    cases hs : same2 a b c d with
    | true =>
      have := hx.1 hs
      rw [cmp_yes h, if_neg (by omega), if_neg (by omega)]
      exact impl_cmp_same a b c d w h hs
    | false =>
      have hne : ¬ a * d = c * b := fun e => by rw [hx.2 e] at hs; cases hs
      have e : cmp a b c d = if a * d < c * b then -1 else 1 := by
        rw [cmp_yes h]
        by_cases hl : a * d < c * b
        · rw [if_pos hl, if_pos hl]
        · rw [if_neg hl, if_neg hl, if_pos (by omega)]
      rw [e]
      exact impl_cmp_diff a b c d w h hs

end Go.Proofs.Ytblalcigbiobkam
