/- Proved here: the fault of a fraction, of the program and of the document's model, at every two numbers: 0 where the fraction is right, else 1. -/
import Derived.Test.YtblalcigbiobkamDoorFrac
import Derived.Laws.StructEq
namespace Go.Proofs.YtblalcigbiobkamDoor
open Go.ChangeShapes Go.WideShapes Go.ChangeAt Go.RowKit
set_option linter.unusedVariables false

theorem bcell {W w1 : World} (hb : Below W.heap.size W w1) : (∀ b o, b < W.heap.size → w1.cell? ⟨b, o, none⟩ = W.cell? ⟨b, o, none⟩) ∧ (∀ b o, b < W.heap.size → w1.frozen? ⟨b, o, none⟩ = W.frozen? ⟨b, o, none⟩) :=
  ⟨fun b o h => hb.cell (p := ⟨b, o, none⟩) h, fun b o h => hb.frozen (p := ⟨b, o, none⟩) h⟩

theorem tdiv_bd (n g : Int) (hg : 1 ≤ g) (h1 : -4000000000000000000 ≤ n) (h2 : n ≤ 4000000000000000000) : -4000000000000000000 ≤ n.tdiv g ∧ n.tdiv g ≤ 4000000000000000000 := by
  rcases Int.le_total 0 n with hn | hn
  · have a1 := Int.tdiv_nonneg hn (show 0 ≤ g by omega)
    have a2 := Int.tdiv_le_self g hn
    omega
  · have e : n.tdiv g = - ((-n).tdiv g) := by rw [Int.neg_tdiv]; omega
    have a1 := Int.tdiv_nonneg (show 0 ≤ -n by omega) (show 0 ≤ g by omega)
    have a2 := Int.tdiv_le_self g (show 0 ≤ -n by omega)
    omega
theorem wrap_neg_tdiv (n g : Int) (hg : 1 ≤ g) (h1 : -4000000000000000000 ≤ n) (h2 : n ≤ 4000000000000000000) : wrap64 (-n.tdiv g) = (-n).tdiv g := by
  have := tdiv_bd n g hg h1 h2
  rw [Int.neg_tdiv]; unfold wrap64; omega
theorem lowN_neg (n d : Int) (hg : 1 ≤ gz (-n) (-d)) (h1 : -4000000000000000000 ≤ n) (h2 : n ≤ 4000000000000000000) : wrap64 (-n.tdiv (gz (-n) (-d))) = lowN (-n) (-d) :=
  wrap_neg_tdiv _ _ hg h1 h2
theorem lowD_neg (n d : Int) (hd : d ≤ -1) (hg : 1 ≤ gz (-n) (-d)) (h1 : -4000000000000000000 ≤ d) : wrap64 (-d.tdiv (gz (-n) (-d))) = lowD (-n) (-d) := by
  rw [wrap_neg_tdiv _ _ hg h1 (by omega)]
  exact Int.tdiv_eq_ediv_of_nonneg (by omega)
theorem ret_agg2 {a b c d : Int} (h : a = c) (k : b = d) : Ending.returned (.agg #[.int .i64 a, .int .i64 b]) = .returned (.agg #[.int .i64 c, .int .i64 d]) := by rw [h, k]

set_option maxHeartbeats 400000 in
theorem impl_low_neg (n d : Int) (w : World) (hd : d ≤ -1) (hd' : -4000000000000000000 ≤ d) (h1 : -4000000000000000000 ≤ n) (h2 : n ≤ 4000000000000000000) :
    Calls Tryd.prog 15 #[.int .i64 n, .int .i64 d] w fun e w' => e = .returned (.agg #[.int .i64 (lowN (-n) (-d)), .int .i64 (lowD (-n) (-d))]) ∧ Below w.heap.size w w' := by
  have hp := gz_pos (-n) (-d) (by omega)
  have hl := gz_le (-n) (-d) (by omega)
  have ha := absz_bd (-n)
  go_enter Tryd.func15, Tryd.ntmps15
  go_wp2_with (first | (go_at_call 18; refine (impl_abs _ _ ?_ ?_).mono ?_; omega; omega; rintro e w' ⟨rfl, rfl⟩) | (go_at_call 17; refine (impl_gcd _ _ _ ?_ ?_ ?_ ?_).mono ?_; omega; omega; omega; omega; rintro e w' ⟨rfl, k, rfl⟩; rw [gz_abs]))
  have hq : (gz (-n) (-d) == 0) = false := by simp; omega
  go_region
  all_goals go_wp2
  all_goals go_returns
  all_goals exact ⟨ret_agg2 (lowN_neg n d hp h1 h2) (lowD_neg n d hd hp hd'), by (repeat' (first | (with_reducible exact Below.refl _ _) | (with_reducible assumption) | (with_reducible refine Below.setCell ?_ ?_ _) | (with_reducible refine Below.alloc ?_ ?_ _) | (with_reducible refine below_drewN ?_ _) | (with_reducible refine Below.drew ?_) | (with_reducible exact Nat.le_refl _) | omega | (simp; done) | (simp; omega)))⟩

theorem impl_inB_f (n d : Int) (w : World) (h : inB n d = false) :
    Calls Tryd.prog 14 #[.agg #[.int .i64 n, .int .i64 d]] w fun e w' => e = .returned (.bool false) ∧ Below w.heap.size w w' := by
  have := impl_inB n d w; rw [h] at this; exact this
theorem impl_inB_t (n d : Int) (w : World) (h : inB n d = true) :
    Calls Tryd.prog 14 #[.agg #[.int .i64 n, .int .i64 d]] w fun e w' => e = .returned (.bool true) ∧ Below w.heap.size w w' := by
  have := impl_inB n d w; rw [h] at this; exact this

set_option maxHeartbeats 400000 in
theorem impl_fault_out (n d : Int) (w : World) (h : inB n d = false) :
    Calls Tryd.prog 9 #[.agg #[.int .i64 n, .int .i64 d]] w fun e w' => e = .returned (.int .i64 1) ∧ Below w.heap.size w w' := by
  go_enter Tryd.func9, Tryd.ntmps9
  go_wp2_with (fail)
  (refine wp_region_und (by kernel_rfl) (by kernel_rfl) (fun hund => ?_); (repeat (go_big_quiet_step (first | (go_at_call 14; refine und_call ?_ (impl_inB_f n d _ h); simp)))); with_reducible refine wpQuiet_nil ?_; clear hund; intro W1 hb1; obtain ⟨hc1, hf1⟩ := bcell hb1)
  go_wp2
  go_returns
  exact ⟨rfl, (((Below.refl _ _).alloc (Nat.le_refl _) _).trans (hb1.mono (by simp)))⟩

theorem frac_guard : Tryd.prog.eqGuardType Tryd.prog.depth 25 = false := by kernel_rfl
theorem frac_eql (a b c d : Int) (w : World) : (binOp .eql 25 (.agg #[.int .i64 a, .int .i64 b]) (.agg #[.int .i64 c, .int .i64 d])).run Tryd.prog w = .ok (.bool (a == c && b == d)) w := by
  have u3 := Tryd.underlying2
  have a3 := Tryd.isAgg2
  have z3 := Tryd.sizeOf2
  have hS : Tryd.prog.underlying 25 = some (.struct (Tryd.prog.fieldsOf 25)) := by kernel_rfl
  have hp : Tryd.prog.stoodInHeld 25 = false := by kernel_rfl
  rw [run_eql_struct, show (10000 : Nat) = 9999 + 1 from rfl, run_equalIn_agg w 9999 25 _ _ hS hp]
  simp only [Program.fieldsOf, Tryd.underlying25]
  go_simp
  by_cases h1 : a = c <;> by_cases h2 : b = d <;> simp [h1, h2]
theorem frac_neq (a b c d : Int) (w : World) : (binOp .neq 25 (.agg #[.int .i64 a, .int .i64 b]) (.agg #[.int .i64 c, .int .i64 d])).run Tryd.prog w = .ok (.bool (!(a == c && b == d))) w := by
  have u3 := Tryd.underlying2
  have a3 := Tryd.isAgg2
  have z3 := Tryd.sizeOf2
  have hS : Tryd.prog.underlying 25 = some (.struct (Tryd.prog.fieldsOf 25)) := by kernel_rfl
  have hp : Tryd.prog.stoodInHeld 25 = false := by kernel_rfl
  rw [run_neq_struct, show (10000 : Nat) = 9999 + 1 from rfl, run_equalIn_agg w 9999 25 _ _ hS hp]
  simp only [Program.fieldsOf, Tryd.underlying25]
  go_simp
  by_cases h1 : a = c <;> by_cases h2 : b = d <;> simp [h1, h2]

/-- Two numbers are as two others. -/
def same2 (a b c d : Int) : Bool := a == c && b == d
theorem frac_neq_t (a b c d : Int) (h : same2 a b c d = true) (w : World) : (binOp .neq 25 (.agg #[.int .i64 a, .int .i64 b]) (.agg #[.int .i64 c, .int .i64 d])).run Tryd.prog w = .ok (.bool false) w := by
  rw [frac_neq]; unfold same2 at h; rw [h]; rfl
theorem frac_neq_f (a b c d : Int) (h : same2 a b c d = false) (w : World) : (binOp .neq 25 (.agg #[.int .i64 a, .int .i64 b]) (.agg #[.int .i64 c, .int .i64 d])).run Tryd.prog w = .ok (.bool true) w := by
  rw [frac_neq]; unfold same2 at h; rw [h]; rfl
theorem frac_eql_t (a b c d : Int) (h : same2 a b c d = true) (w : World) : (binOp .eql 25 (.agg #[.int .i64 a, .int .i64 b]) (.agg #[.int .i64 c, .int .i64 d])).run Tryd.prog w = .ok (.bool true) w := by
  rw [frac_eql]; unfold same2 at h; rw [h]
theorem frac_eql_f (a b c d : Int) (h : same2 a b c d = false) (w : World) : (binOp .eql 25 (.agg #[.int .i64 a, .int .i64 b]) (.agg #[.int .i64 c, .int .i64 d])).run Tryd.prog w = .ok (.bool false) w := by
  rw [frac_eql]; unfold same2 at h; rw [h]

set_option maxHeartbeats 400000 in
theorem impl_fault_in (n d : Int) (w : World) (h : inB n d = true) (hk : same2 n d (lowN n d) (lowD n d) = true) :
    Calls Tryd.prog 9 #[.agg #[.int .i64 n, .int .i64 d]] w fun e w' => e = .returned (.int .i64 0) ∧ Below w.heap.size w w' := by
  have hb := inB_true h
  have hg := frac_guard
  have hn := frac_neq_t _ _ _ _ hk
  go_enter Tryd.func9, Tryd.ntmps9
  go_wp2_with (fail)
  (refine wp_region_und (by kernel_rfl) (by kernel_rfl) (fun hund => ?_); (repeat (go_big_quiet_step (first | (go_at_call 14; refine und_call ?_ (impl_inB_t n d _ h); simp) | (go_at_call 15; refine und_call ?_ (impl_low_pos n d _ ?_ ?_ ?_ ?_); simp; omega; omega; omega; omega)))); with_reducible refine wpQuiet_nil ?_; clear hund; intro W1 hb1; obtain ⟨hc1, hf1⟩ := bcell hb1)
  go_wp2
  go_returns
  exact ⟨rfl, (((Below.refl _ _).alloc (Nat.le_refl _) _).trans (hb1.mono (by simp)))⟩

set_option maxHeartbeats 400000 in
theorem impl_fault_not (n d : Int) (w : World) (h : inB n d = true) (hk : same2 n d (lowN n d) (lowD n d) = false) :
    Calls Tryd.prog 9 #[.agg #[.int .i64 n, .int .i64 d]] w fun e w' => e = .returned (.int .i64 1) ∧ Below w.heap.size w w' := by
  have hb := inB_true h
  have hg := frac_guard
  have hn := frac_neq_f _ _ _ _ hk
  go_enter Tryd.func9, Tryd.ntmps9
  go_wp2_with (fail)
  (refine wp_region_und (by kernel_rfl) (by kernel_rfl) (fun hund => ?_); (repeat (go_big_quiet_step (first | (go_at_call 14; refine und_call ?_ (impl_inB_t n d _ h); simp) | (go_at_call 15; refine und_call ?_ (impl_low_pos n d _ ?_ ?_ ?_ ?_); simp; omega; omega; omega; omega)))); with_reducible refine wpQuiet_nil ?_; clear hund; intro W1 hb1; obtain ⟨hc1, hf1⟩ := bcell hb1)
  go_wp2
  go_returns
  exact ⟨rfl, (((Below.refl _ _).alloc (Nat.le_refl _) _).trans (hb1.mono (by simp)))⟩

/-- The code of a fraction. -/
def codeF (n d : Int) : Int := if okF n d then 0 else 1

theorem same2_low (n d : Int) (h : 1 ≤ d) : same2 n d (lowN n d) (lowD n d) = decide (Int.gcd n d = 1) := by
  have := FracMath.low_iff n d h
  unfold same2 lowN lowD gz
  rw [Bool.eq_iff_iff]
  simpa using this

theorem impl_fault (n d : Int) (w : World) :
    Calls Tryd.prog 9 #[.agg #[.int .i64 n, .int .i64 d]] w fun e w' => e = .returned (.int .i64 (codeF n d)) ∧ Below w.heap.size w w' := by
  cases h : inB n d with
  | false => have := impl_fault_out n d w h; rw [show codeF n d = 1 by simp [codeF, okF, h]]; exact this
  | true =>
    have hs := same2_low n d (inB_true h).1
    cases hg : decide (Int.gcd n d = 1) with
    | true => rw [show codeF n d = 0 by simp only [codeF, okF, h, hg]; rfl]; exact impl_fault_in n d w h (hs.trans hg)
    | false => rw [show codeF n d = 1 by simp only [codeF, okF, h, hg]; rfl]; exact impl_fault_not n d w h (hs.trans hg)

end Go.Proofs.YtblalcigbiobkamDoor
