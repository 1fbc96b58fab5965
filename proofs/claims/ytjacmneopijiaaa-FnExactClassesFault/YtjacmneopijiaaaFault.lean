/- Proved here: the fault of a fraction, of the program and of the document's model, at every two numbers: 0 where the fraction is right, else 1. -/
import Derived.Test.YtjacmneopijiaaaFaL
import Derived.Laws.StructEq
namespace Go.Proofs.Ytjacmneopijiaaa
open Go.ChangeShapes Go.WideShapes Go.ChangeAt Go.RowKit
set_option linter.unusedVariables false

set_option maxHeartbeats 400000 in
theorem impl_fault_out (n d : Int) (w : World) (h : inB n d = false) :
    Calls Try.prog 68 #[.agg #[.int .i64 n, .int .i64 d]] w fun e w' => e = .returned (.int .i64 1) ∧ Below w.heap.size w w' := by
  go_enter Try.func68, Try.ntmps68
  go_wp2_with (fail)
  (refine wp_region_und (by kernel_rfl) (by kernel_rfl) (fun hund => ?_); (repeat (go_big_quiet_step (first | (go_at_call 79; refine und_call ?_ (impl_inB_f n d _ h); simp)))); with_reducible refine wpQuiet_nil ?_; clear hund; intro W1 hb1; obtain ⟨hc1, hf1⟩ := undcell hb1)
  go_wp2
  go_returns
  exact ⟨rfl, (((Below.refl _ _).alloc (Nat.le_refl _) _).trans (hb1.mono (by simp)))⟩

theorem frac_guard : Try.prog.eqGuardType Try.prog.depth 55 = false := by kernel_rfl
theorem frac_eql (a b c d : Int) (w : World) : (binOp .eql 55 (.agg #[.int .i64 a, .int .i64 b]) (.agg #[.int .i64 c, .int .i64 d])).run Try.prog w = .ok (.bool (a == c && b == d)) w := by
  have u3 := Try.underlying2
  have a3 := Try.isAgg2
  have z3 := Try.sizeOf2
  have hS : Try.prog.underlying 55 = some (.struct (Try.prog.fieldsOf 55)) := by kernel_rfl
  have hp : Try.prog.stoodInHeld 55 = false := by kernel_rfl
  rw [run_eql_struct, show (10000 : Nat) = 9999 + 1 from rfl, run_equalIn_agg w 9999 55 _ _ hS hp]
  simp only [Program.fieldsOf, Try.underlying55]
  go_simp
  by_cases h1 : a = c <;> by_cases h2 : b = d <;> simp [h1, h2]
theorem frac_neq (a b c d : Int) (w : World) : (binOp .neq 55 (.agg #[.int .i64 a, .int .i64 b]) (.agg #[.int .i64 c, .int .i64 d])).run Try.prog w = .ok (.bool (!(a == c && b == d))) w := by
  have u3 := Try.underlying2
  have a3 := Try.isAgg2
  have z3 := Try.sizeOf2
  have hS : Try.prog.underlying 55 = some (.struct (Try.prog.fieldsOf 55)) := by kernel_rfl
  have hp : Try.prog.stoodInHeld 55 = false := by kernel_rfl
  rw [run_neq_struct, show (10000 : Nat) = 9999 + 1 from rfl, run_equalIn_agg w 9999 55 _ _ hS hp]
  simp only [Program.fieldsOf, Try.underlying55]
  go_simp
  by_cases h1 : a = c <;> by_cases h2 : b = d <;> simp [h1, h2]

/-- Two numbers are as two others. -/
def same2 (a b c d : Int) : Bool := a == c && b == d
theorem frac_neq_t (a b c d : Int) (h : same2 a b c d = true) (w : World) : (binOp .neq 55 (.agg #[.int .i64 a, .int .i64 b]) (.agg #[.int .i64 c, .int .i64 d])).run Try.prog w = .ok (.bool false) w := by
  rw [frac_neq]; unfold same2 at h; rw [h]; rfl
theorem frac_neq_f (a b c d : Int) (h : same2 a b c d = false) (w : World) : (binOp .neq 55 (.agg #[.int .i64 a, .int .i64 b]) (.agg #[.int .i64 c, .int .i64 d])).run Try.prog w = .ok (.bool true) w := by
  rw [frac_neq]; unfold same2 at h; rw [h]; rfl
theorem frac_eql_t (a b c d : Int) (h : same2 a b c d = true) (w : World) : (binOp .eql 55 (.agg #[.int .i64 a, .int .i64 b]) (.agg #[.int .i64 c, .int .i64 d])).run Try.prog w = .ok (.bool true) w := by
  rw [frac_eql]; unfold same2 at h; rw [h]
theorem frac_eql_f (a b c d : Int) (h : same2 a b c d = false) (w : World) : (binOp .eql 55 (.agg #[.int .i64 a, .int .i64 b]) (.agg #[.int .i64 c, .int .i64 d])).run Try.prog w = .ok (.bool false) w := by
  rw [frac_eql]; unfold same2 at h; rw [h]

set_option maxHeartbeats 400000 in
theorem impl_fault_in (n d : Int) (w : World) (h : inB n d = true) (hk : same2 n d (lowN n d) (lowD n d) = true) :
    Calls Try.prog 68 #[.agg #[.int .i64 n, .int .i64 d]] w fun e w' => e = .returned (.int .i64 0) ∧ Below w.heap.size w w' := by
  have hb := inB_true h
  have hg := frac_guard
  have hn := frac_neq_t _ _ _ _ hk
  go_enter Try.func68, Try.ntmps68
  go_wp2_with (fail)
  (refine wp_region_und (by kernel_rfl) (by kernel_rfl) (fun hund => ?_); (repeat (go_big_quiet_step (first | (go_at_call 79; refine und_call ?_ (impl_inB_t n d _ h); simp) | (go_at_call 80; refine und_call ?_ (impl_low_pos n d _ ?_ ?_ ?_ ?_); simp; omega; omega; omega; omega)))); with_reducible refine wpQuiet_nil ?_; clear hund; intro W1 hb1; obtain ⟨hc1, hf1⟩ := undcell hb1)
  go_wp2
  go_returns
  exact ⟨rfl, (((Below.refl _ _).alloc (Nat.le_refl _) _).trans (hb1.mono (by simp)))⟩

set_option maxHeartbeats 400000 in
theorem impl_fault_not (n d : Int) (w : World) (h : inB n d = true) (hk : same2 n d (lowN n d) (lowD n d) = false) :
    Calls Try.prog 68 #[.agg #[.int .i64 n, .int .i64 d]] w fun e w' => e = .returned (.int .i64 1) ∧ Below w.heap.size w w' := by
  have hb := inB_true h
  have hg := frac_guard
  have hn := frac_neq_f _ _ _ _ hk
  go_enter Try.func68, Try.ntmps68
  go_wp2_with (fail)
  (refine wp_region_und (by kernel_rfl) (by kernel_rfl) (fun hund => ?_); (repeat (go_big_quiet_step (first | (go_at_call 79; refine und_call ?_ (impl_inB_t n d _ h); simp) | (go_at_call 80; refine und_call ?_ (impl_low_pos n d _ ?_ ?_ ?_ ?_); simp; omega; omega; omega; omega)))); with_reducible refine wpQuiet_nil ?_; clear hund; intro W1 hb1; obtain ⟨hc1, hf1⟩ := undcell hb1)
  go_wp2
  go_returns
  exact ⟨rfl, (((Below.refl _ _).alloc (Nat.le_refl _) _).trans (hb1.mono (by simp)))⟩


theorem same2_low (n d : Int) (h : 1 ≤ d) : same2 n d (lowN n d) (lowD n d) = decide (Int.gcd n d = 1) := by
  have := FracMath.low_iff n d h
  unfold same2 lowN lowD gz
  rw [Bool.eq_iff_iff]
  simpa using this

theorem impl_fault (n d : Int) (w : World) :
    Calls Try.prog 68 #[.agg #[.int .i64 n, .int .i64 d]] w fun e w' => e = .returned (.int .i64 (codeF n d)) ∧ Below w.heap.size w w' := by
  cases h : inB n d with
  | false => have := impl_fault_out n d w h; rw [show codeF n d = 1 by simp [codeF, okF, h]]; exact this
  | true =>
    have hs := same2_low n d (inB_true h).1
    cases hg : decide (Int.gcd n d = 1) with
    | true => rw [show codeF n d = 0 by simp only [codeF, okF, h, hg]; rfl]; exact impl_fault_in n d w h (hs.trans hg)
    | false => rw [show codeF n d = 1 by simp only [codeF, okF, h, hg]; rfl]; exact impl_fault_not n d w h (hs.trans hg)

end Go.Proofs.Ytjacmneopijiaaa
