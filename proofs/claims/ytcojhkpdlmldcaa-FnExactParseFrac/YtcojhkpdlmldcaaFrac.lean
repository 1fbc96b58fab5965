/- Proved here: what the program's and the document's model's fault of a fraction give, for every two numbers: both tell the same. -/
import Derived.Test.YtcojhkpdlmldcaaBase
import Derived.Test.YtcojhkpdlmldcaaUnd
namespace Go.Proofs.Ytcojhkpdlmldcaa
open Go.ChangeShapes Go.WideShapes Go.ChangeAt Go.RowKit
set_option linter.unusedVariables false

/-- The bounds of a right fraction. -/
def inB (n d : Int) : Bool := decide (1 ≤ d ∧ d ≤ 1000000000 ∧ -1000000000 ≤ n ∧ n ≤ 1000000000)
/-- A right fraction. -/
def okF (n d : Int) : Bool := inB n d && decide (Int.gcd n d = 1)

theorem inB_true {n d : Int} (h : inB n d = true) : 1 ≤ d ∧ d ≤ 1000000000 ∧ -1000000000 ≤ n ∧ n ≤ 1000000000 := by
  unfold inB at h; simpa using h
theorem inB_false {n d : Int} (h : inB n d = false) : ¬ (1 ≤ d ∧ d ≤ 1000000000 ∧ -1000000000 ≤ n ∧ n ≤ 1000000000) := by
  unfold inB at h; simpa using h
theorem inB_mk {n d : Int} (h : 1 ≤ d ∧ d ≤ 1000000000 ∧ -1000000000 ≤ n ∧ n ≤ 1000000000) : inB n d = true := by
  unfold inB; simpa using h
theorem inB_not {n d : Int} (h : ¬ (1 ≤ d ∧ d ≤ 1000000000 ∧ -1000000000 ≤ n ∧ n ≤ 1000000000)) : inB n d = false := by
  unfold inB; simpa using h

theorem gz_abs (n d : Int) : gz (absz n) d = gz n d := by
  unfold gz absz; exact congrArg _ (FracMath.gcd_abs n d)
theorem absz_bd (n : Int) : 0 ≤ absz n ∧ (absz n = n ∨ absz n = -n) := by
  unfold absz; split <;> omega
theorem gz_pos (n d : Int) (h : 1 ≤ d) : 1 ≤ gz n d := FracMath.gcd_pos n d h
theorem gz_le (n d : Int) (h : 1 ≤ d) : gz n d ≤ d := FracMath.gcd_le n d h

theorem ret_bool {a b : Bool} (h : a = b) : Ending.returned (.bool a) = .returned (.bool b) := by rw [h]

set_option maxHeartbeats 400000 in
theorem impl_inB (n d : Int) (w : World) :
    Calls Try.prog 21 #[.agg #[.int .i64 n, .int .i64 d]] w fun e w' => e = .returned (.bool (inB n d)) ∧ Below w.heap.size w w' := by
  go_enter Try.func21, Try.ntmps21
  go_wp2
  all_goals
    go_ret
    refine ⟨ret_bool ?_, by (repeat' (first | (with_reducible exact Below.refl _ _) | (with_reducible assumption) | (with_reducible refine Below.setCell ?_ ?_ _) | (with_reducible refine Below.alloc ?_ ?_ _) | (with_reducible refine below_drewN ?_ _) | (with_reducible refine Below.drew ?_) | (with_reducible exact Nat.le_refl _) | omega | (simp; done) | (simp; omega)))⟩
    unfold inB
    simp [*]
    try omega

/-- The fraction in lowest terms, of a number by another that is above 0. -/
def lowN (n d : Int) : Int := n.tdiv (gz n d)
def lowD (n d : Int) : Int := d / gz n d

set_option maxHeartbeats 400000 in
theorem impl_low_pos (n d : Int) (w : World) (hd : 1 ≤ d) (hd' : d ≤ 4000000000000000000) (h1 : -4000000000000000000 ≤ n) (h2 : n ≤ 4000000000000000000) :
    Calls Try.prog 20 #[.int .i64 n, .int .i64 d] w fun e w' => e = .returned (.agg #[.int .i64 (lowN n d), .int .i64 (lowD n d)]) ∧ Below w.heap.size w w' := by
  have hp := gz_pos n d hd
  have hl := gz_le n d hd
  have ha := absz_bd n
  go_enter Try.func20, Try.ntmps20
  go_wp2_with (first | (go_at_call 27; refine (impl_abs _ _ ?_ ?_).mono ?_; omega; omega; rintro e w' ⟨rfl, rfl⟩) | (go_at_call 26; refine (impl_gcd _ _ _ ?_ ?_ ?_ ?_).mono ?_; omega; omega; omega; omega; rintro e w' ⟨rfl, k, rfl⟩; rw [gz_abs]))
  have hq : (gz n d == 0) = false := by simp; omega
  go_region
  all_goals go_wp2
  all_goals go_returns
  all_goals exact ⟨rfl, by (repeat' (first | (with_reducible exact Below.refl _ _) | (with_reducible assumption) | (with_reducible refine Below.setCell ?_ ?_ _) | (with_reducible refine Below.alloc ?_ ?_ _) | (with_reducible refine below_drewN ?_ _) | (with_reducible refine Below.drew ?_) | (with_reducible exact Nat.le_refl _) | omega | (simp; done) | (simp; omega)))⟩

end Go.Proofs.Ytcojhkpdlmldcaa
