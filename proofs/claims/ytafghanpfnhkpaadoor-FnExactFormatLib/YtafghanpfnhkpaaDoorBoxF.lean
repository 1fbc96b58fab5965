/- Proved here: the program's and the model's BoxFault at every box, and the first fault of a list of boxes. -/
import Derived.Test.YtafghanpfnhkpaaDoorBoxBase
namespace Go.Proofs.YtafghanpfnhkpaaDoor
open Go.RowKit
set_option linter.unusedVariables false
set_option linter.unusedSimpArgs false

def bfK (b : Bx) : Int := if b.x1 ≤ b.x0 ∨ b.y1 ≤ b.y0 then 1 else if b.x0 < -10000 ∨ b.y0 < -10000 ∨ 10000 < b.x1 ∨ 10000 < b.y1 then 3 else 0

set_option maxHeartbeats 1600000 in
theorem spec_box (b : Bx) (w : World) :
    Calls Tryd.prog 33 #[.agg #[.int .i64 b.x0, .int .i64 b.y0, .int .i64 b.x1, .int .i64 b.y1]] w fun e w' => e = .returned (.int .i64 (bfK b)) ∧ Below w.heap.size w w' := by
  unfold bfK
  by_cases h1 : b.x1 ≤ b.x0 ∨ b.y1 ≤ b.y0
  · rw [if_pos h1]
    go_enter Tryd.func33, Tryd.ntmps33
    go_wp2
    all_goals first | (exfalso; omega) | (go_returns; exact ⟨rfl, by (repeat' (first | (with_reducible exact Below.refl _ _) | (with_reducible assumption) | (with_reducible refine Below.setCell ?_ ?_ _) | (with_reducible refine Below.alloc ?_ ?_ _) | (with_reducible refine below_drewN ?_ _) | (with_reducible refine Below.drew ?_) | (with_reducible exact Nat.le_refl _) | omega | (simp; done) | (simp; omega)))⟩)
  · rw [if_neg h1]
    by_cases h2 : b.x0 < -10000 ∨ b.y0 < -10000 ∨ 10000 < b.x1 ∨ 10000 < b.y1
    · rw [if_pos h2]
      go_enter Tryd.func33, Tryd.ntmps33
      go_wp2
      all_goals first | (exfalso; omega) | (go_returns; exact ⟨rfl, by (repeat' (first | (with_reducible exact Below.refl _ _) | (with_reducible assumption) | (with_reducible refine Below.setCell ?_ ?_ _) | (with_reducible refine Below.alloc ?_ ?_ _) | (with_reducible refine below_drewN ?_ _) | (with_reducible refine Below.drew ?_) | (with_reducible exact Nat.le_refl _) | omega | (simp; done) | (simp; omega)))⟩)
    · rw [if_neg h2]
      go_enter Tryd.func33, Tryd.ntmps33
      go_wp2
      all_goals first | (exfalso; omega) | (go_returns; exact ⟨rfl, by (repeat' (first | (with_reducible exact Below.refl _ _) | (with_reducible assumption) | (with_reducible refine Below.setCell ?_ ?_ _) | (with_reducible refine Below.alloc ?_ ?_ _) | (with_reducible refine below_drewN ?_ _) | (with_reducible refine Below.drew ?_) | (with_reducible exact Nat.le_refl _) | omega | (simp; done) | (simp; omega)))⟩)

set_option maxHeartbeats 1600000 in
theorem impl_box (b : Bx) (w : World) :
    Calls Tryd.prog 52 #[.agg #[.int .i64 b.x0, .int .i64 b.y0, .int .i64 b.x1, .int .i64 b.y1]] w fun e w' => e = .returned (.int .i64 (bfK b)) ∧ Below w.heap.size w w' := by
  unfold bfK
  by_cases h1 : b.x1 ≤ b.x0 ∨ b.y1 ≤ b.y0
  · rw [if_pos h1]
    go_enter Tryd.func52, Tryd.ntmps52
    go_wp2
    all_goals first | (exfalso; omega) | (go_returns; exact ⟨rfl, by (repeat' (first | (with_reducible exact Below.refl _ _) | (with_reducible assumption) | (with_reducible refine Below.setCell ?_ ?_ _) | (with_reducible refine Below.alloc ?_ ?_ _) | (with_reducible refine below_drewN ?_ _) | (with_reducible refine Below.drew ?_) | (with_reducible exact Nat.le_refl _) | omega | (simp; done) | (simp; omega)))⟩)
  · rw [if_neg h1]
    by_cases h2 : b.x0 < -10000 ∨ b.y0 < -10000 ∨ 10000 < b.x1 ∨ 10000 < b.y1
    · rw [if_pos h2]
      go_enter Tryd.func52, Tryd.ntmps52
      go_wp2
      all_goals first | (exfalso; omega) | (go_returns; exact ⟨rfl, by (repeat' (first | (with_reducible exact Below.refl _ _) | (with_reducible assumption) | (with_reducible refine Below.setCell ?_ ?_ _) | (with_reducible refine Below.alloc ?_ ?_ _) | (with_reducible refine below_drewN ?_ _) | (with_reducible refine Below.drew ?_) | (with_reducible exact Nat.le_refl _) | omega | (simp; done) | (simp; omega)))⟩)
    · rw [if_neg h2]
      go_enter Tryd.func52, Tryd.ntmps52
      go_wp2
      all_goals first | (exfalso; omega) | (go_returns; exact ⟨rfl, by (repeat' (first | (with_reducible exact Below.refl _ _) | (with_reducible assumption) | (with_reducible refine Below.setCell ?_ ?_ _) | (with_reducible refine Below.alloc ?_ ?_ _) | (with_reducible refine below_drewN ?_ _) | (with_reducible refine Below.drew ?_) | (with_reducible exact Nat.le_refl _) | omega | (simp; done) | (simp; omega)))⟩)

end Go.Proofs.YtafghanpfnhkpaaDoor
