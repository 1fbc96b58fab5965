/- Proved here: the model's fault of a fraction, at every two numbers: 0 where the fraction is right, else 1. -/
import Derived.Test.YtcojhkpdlmldcaaFaL
namespace Go.Proofs.Ytcojhkpdlmldcaa
open Go.ChangeShapes Go.WideShapes Go.ChangeAt Go.RowKit
set_option linter.unusedVariables false

set_option maxHeartbeats 400000 in
theorem spec_fault_1 (n d : Int) (w : World) (h1 : d < 1) :
    Calls Try.prog 24 #[.agg #[.int .i64 n, .int .i64 d]] w fun e w' => e = .returned (.int .i64 1) ∧ Below w.heap.size w w' := by
  go_enter Try.func24, Try.ntmps24
  go_wp2_with (fail)
  (refine wp_region_und (by kernel_rfl) (by kernel_rfl) (fun hund => ?_); (repeat (go_big_quiet_step (fail))); with_reducible refine wpQuiet_nil ?_; clear hund; intro W1 hb1; obtain ⟨hc1, hf1⟩ := undcell hb1)
  go_wp2
  go_returns
  exact ⟨rfl, (((Below.refl _ _).alloc (Nat.le_refl _) _).trans (hb1.mono (by simp)))⟩

set_option maxHeartbeats 400000 in
theorem spec_fault_2 (n d : Int) (w : World) (h1 : decide (d < 1) = false) (h2 : 1000000000 < d) :
    Calls Try.prog 24 #[.agg #[.int .i64 n, .int .i64 d]] w fun e w' => e = .returned (.int .i64 1) ∧ Below w.heap.size w w' := by
  go_enter Try.func24, Try.ntmps24
  go_wp2_with (fail)
  (refine wp_region_und (by kernel_rfl) (by kernel_rfl) (fun hund => ?_); (repeat (go_big_quiet_step (fail))); with_reducible refine wpQuiet_nil ?_; clear hund; intro W1 hb1; obtain ⟨hc1, hf1⟩ := undcell hb1)
  go_wp2
  go_returns
  exact ⟨rfl, (((Below.refl _ _).alloc (Nat.le_refl _) _).trans (hb1.mono (by simp)))⟩

set_option maxHeartbeats 400000 in
theorem spec_fault_3 (n d : Int) (w : World) (h1 : decide (d < 1) = false) (h2 : decide (1000000000 < d) = false) (h3 : n < -1000000000) :
    Calls Try.prog 24 #[.agg #[.int .i64 n, .int .i64 d]] w fun e w' => e = .returned (.int .i64 1) ∧ Below w.heap.size w w' := by
  go_enter Try.func24, Try.ntmps24
  go_wp2_with (fail)
  (refine wp_region_und (by kernel_rfl) (by kernel_rfl) (fun hund => ?_); (repeat (go_big_quiet_step (fail))); with_reducible refine wpQuiet_nil ?_; clear hund; intro W1 hb1; obtain ⟨hc1, hf1⟩ := undcell hb1)
  go_wp2
  go_returns
  exact ⟨rfl, (((Below.refl _ _).alloc (Nat.le_refl _) _).trans (hb1.mono (by simp)))⟩

set_option maxHeartbeats 400000 in
theorem spec_fault_4 (n d : Int) (w : World) (h1 : decide (d < 1) = false) (h2 : decide (1000000000 < d) = false) (h3 : decide (n < -1000000000) = false) (h4 : 1000000000 < n) :
    Calls Try.prog 24 #[.agg #[.int .i64 n, .int .i64 d]] w fun e w' => e = .returned (.int .i64 1) ∧ Below w.heap.size w w' := by
  go_enter Try.func24, Try.ntmps24
  go_wp2_with (fail)
  (refine wp_region_und (by kernel_rfl) (by kernel_rfl) (fun hund => ?_); (repeat (go_big_quiet_step (fail))); with_reducible refine wpQuiet_nil ?_; clear hund; intro W1 hb1; obtain ⟨hc1, hf1⟩ := undcell hb1)
  go_wp2
  go_returns
  exact ⟨rfl, (((Below.refl _ _).alloc (Nat.le_refl _) _).trans (hb1.mono (by simp)))⟩

theorem spec_gcd_abs (n d : Int) (w : World) (h1 : 1 ≤ d) (h2 : d ≤ 4000000000000000000) (h3 : -4000000000000000000 ≤ n) (h4 : n ≤ 4000000000000000000) :
    Calls Try.prog 22 #[.int .i64 (absz n), .int .i64 d] w fun e w' => e = .returned (.int .i64 (gz n d)) ∧ w' = w := by
  have ha := absz_bd n
  rw [← gz_abs]
  exact spec_gcd _ _ _ (by omega) (by omega) (by omega) (by omega)

set_option maxHeartbeats 800000 in
theorem spec_fault_5 (n d : Int) (w : World) (h1 : decide (d < 1) = false) (h2 : decide (1000000000 < d) = false) (h3 : decide (n < -1000000000) = false) (h4 : decide (1000000000 < n) = false) (h : inB n d = true) (h5 : (gz n d != 1) = true) :
    Calls Try.prog 24 #[.agg #[.int .i64 n, .int .i64 d]] w fun e w' => e = .returned (.int .i64 1) ∧ Below w.heap.size w w' := by
  have hb := inB_true h
  go_enter Try.func24, Try.ntmps24
  go_wp2_with (fail)
  (refine wp_region_und (by kernel_rfl) (by kernel_rfl) (fun hund => ?_); (repeat (go_big_quiet_step (first | (go_at_call 23; refine und_call_same (spec_abs n _ ?_ ?_); omega; omega) | (go_at_call 22; refine und_call_same (spec_gcd_abs n d _ ?_ ?_ ?_ ?_); omega; omega; omega; omega)))); with_reducible refine wpQuiet_nil ?_; clear hund; intro W1 hb1; obtain ⟨hc1, hf1⟩ := undcell hb1)
  go_wp2
  go_returns
  exact ⟨rfl, (((Below.refl _ _).alloc (Nat.le_refl _) _).trans (hb1.mono (by simp)))⟩

set_option maxHeartbeats 800000 in
theorem spec_fault_6 (n d : Int) (w : World) (h1 : decide (d < 1) = false) (h2 : decide (1000000000 < d) = false) (h3 : decide (n < -1000000000) = false) (h4 : decide (1000000000 < n) = false) (h : inB n d = true) (h5 : (gz n d != 1) = false) :
    Calls Try.prog 24 #[.agg #[.int .i64 n, .int .i64 d]] w fun e w' => e = .returned (.int .i64 0) ∧ Below w.heap.size w w' := by
  have hb := inB_true h
  go_enter Try.func24, Try.ntmps24
  go_wp2_with (fail)
  (refine wp_region_und (by kernel_rfl) (by kernel_rfl) (fun hund => ?_); (repeat (go_big_quiet_step (first | (go_at_call 23; refine und_call_same (spec_abs n _ ?_ ?_); omega; omega) | (go_at_call 22; refine und_call_same (spec_gcd_abs n d _ ?_ ?_ ?_ ?_); omega; omega; omega; omega)))); with_reducible refine wpQuiet_nil ?_; clear hund; intro W1 hb1; obtain ⟨hc1, hf1⟩ := undcell hb1)
  go_wp2
  go_returns
  exact ⟨rfl, (((Below.refl _ _).alloc (Nat.le_refl _) _).trans (hb1.mono (by simp)))⟩

theorem spec_fault (n d : Int) (w : World) :
    Calls Try.prog 24 #[.agg #[.int .i64 n, .int .i64 d]] w fun e w' => e = .returned (.int .i64 (codeF n d)) ∧ Below w.heap.size w w' := by
  cases h : inB n d with
  | false =>
    have hc : codeF n d = 1 := by simp [codeF, okF, h]
    have hn := inB_false h
    rw [hc]
    by_cases h1 : d < 1
    · exact spec_fault_1 n d w h1
    by_cases h2 : 1000000000 < d
    · exact spec_fault_2 n d w (by simpa using h1) h2
    by_cases h3 : n < -1000000000
    · exact spec_fault_3 n d w (by simpa using h1) (by simpa using h2) h3 
    · exact spec_fault_4 n d w (by simpa using h1) (by simpa using h2) (by simpa using h3) (by omega)
  | true =>
    have hb := inB_true h
    have e1 : decide (d < 1) = false := by simp; omega
    have e2 : decide (1000000000 < d) = false := by simp; omega
    have e3 : decide (n < -1000000000) = false := by simp; omega
    have e4 : decide (1000000000 < n) = false := by simp; omega
    cases hg : decide (Int.gcd n d = 1) with
    | true =>
      rw [show codeF n d = 0 by simp only [codeF, okF, h, hg]; rfl]
      refine spec_fault_6 n d w e1 e2 e3 e4 h ?_
      have : Int.gcd n d = 1 := by simpa using hg
      simp [gz, this]
    | false =>
      rw [show codeF n d = 1 by simp only [codeF, okF, h, hg]; rfl]
      refine spec_fault_5 n d w e1 e2 e3 e4 h ?_
      have : ¬ Int.gcd n d = 1 := by simpa using hg
      simp [gz]; omega

end Go.Proofs.Ytcojhkpdlmldcaa
