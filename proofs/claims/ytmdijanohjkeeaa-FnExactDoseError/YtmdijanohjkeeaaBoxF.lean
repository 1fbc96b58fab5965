/- Proved here: the program's and the model's BoxFault at every box, and the first fault of a list of boxes. (And ahead of it: Proved here: 'inside' of the program and 'l4In' of the model.) -/
import Derived.Test.YtmdijanohjkeeaaKept
import Derived.Test.YtmdijanohjkeeaaBxL
namespace Go.Proofs.Ytmdijanohjkeeaa
open Go.RowKit
set_option linter.unusedVariables false
set_option linter.unusedSimpArgs false

set_option maxHeartbeats 800000 in
theorem impl_ins (n a b : Int) (r : Bool) (hr : r = decide (a ≤ n ∧ n ≤ b)) (w : World) : Calls Try.prog 26 #[.int .i64 n, .int .i64 a, .int .i64 b] w fun e w' => e = .returned (.bool r) ∧ w' = w := by
  have H : Hid ((¬ a ≤ n → r = false) ∧ (a ≤ n → n ≤ b → r = true) ∧ (a ≤ n → ¬ n ≤ b → r = false)) := by
    unfold Hid; rw [hr]
    exact ⟨fun h => by simp [h], fun h1 h2 => by simp [h1, h2], fun h1 h2 => by simp [h1, h2]⟩
  clear hr
  by_cases h1 : a ≤ n
  · by_cases h2 : n ≤ b
    · obtain rfl := H.out.2.1 h1 h2
      go_enter Try.func26, Try.ntmps26
      go_wp2
      go_returns
      exact ⟨rfl, rfl⟩
    · obtain rfl := H.out.2.2 h1 h2
      go_enter Try.func26, Try.ntmps26
      go_wp2
      go_returns
      exact ⟨rfl, rfl⟩
  · obtain rfl := H.out.1 h1
    go_enter Try.func26, Try.ntmps26
    go_wp2
    go_returns
    exact ⟨rfl, rfl⟩

set_option maxHeartbeats 800000 in
theorem spec_ins (n a b : Int) (r : Bool) (hr : r = decide (a ≤ n ∧ n ≤ b)) (w : World) : Calls Try.prog 19 #[.int .i64 n, .int .i64 a, .int .i64 b] w fun e w' => e = .returned (.bool r) ∧ w' = w := by
  have H : Hid ((¬ a ≤ n → r = false) ∧ (a ≤ n → n ≤ b → r = true) ∧ (a ≤ n → ¬ n ≤ b → r = false)) := by
    unfold Hid; rw [hr]
    exact ⟨fun h => by simp [h], fun h1 h2 => by simp [h1, h2], fun h1 h2 => by simp [h1, h2]⟩
  clear hr
  by_cases h1 : a ≤ n
  · by_cases h2 : n ≤ b
    · obtain rfl := H.out.2.1 h1 h2
      go_enter Try.func19, Try.ntmps19
      go_wp2
      go_returns
      exact ⟨rfl, rfl⟩
    · obtain rfl := H.out.2.2 h1 h2
      go_enter Try.func19, Try.ntmps19
      go_wp2
      go_returns
      exact ⟨rfl, rfl⟩
  · obtain rfl := H.out.1 h1
    go_enter Try.func19, Try.ntmps19
    go_wp2
    go_returns
    exact ⟨rfl, rfl⟩

end Go.Proofs.Ytmdijanohjkeeaa

namespace Go.Proofs.Ytmdijanohjkeeaa
open Go.RowKit
set_option linter.unusedVariables false
set_option linter.unusedSimpArgs false

def bfK (b : Bx) : Int := if b.x1 ≤ b.x0 ∨ b.y1 ≤ b.y0 then 1 else if b.x0 < -10000 ∨ b.y0 < -10000 ∨ 10000 < b.x1 ∨ 10000 < b.y1 then 3 else 0

set_option maxHeartbeats 1600000 in
theorem spec_box (b : Bx) (w : World) :
    Calls Try.prog 48 #[.agg #[.int .i64 b.x0, .int .i64 b.y0, .int .i64 b.x1, .int .i64 b.y1]] w fun e w' => e = .returned (.int .i64 (bfK b)) ∧ Below w.heap.size w w' := by
  unfold bfK
  by_cases h1 : b.x1 ≤ b.x0 ∨ b.y1 ≤ b.y0
  · rw [if_pos h1]
    go_enter Try.func48, Try.ntmps48
    go_wp2
    all_goals first | (exfalso; omega) | (go_returns; exact ⟨rfl, by (repeat' (first | (with_reducible exact Below.refl _ _) | (with_reducible assumption) | (with_reducible refine Below.setCell ?_ ?_ _) | (with_reducible refine Below.alloc ?_ ?_ _) | (with_reducible refine below_drewN ?_ _) | (with_reducible refine Below.drew ?_) | (with_reducible exact Nat.le_refl _) | omega | (simp; done) | (simp; omega)))⟩)
  · rw [if_neg h1]
    by_cases h2 : b.x0 < -10000 ∨ b.y0 < -10000 ∨ 10000 < b.x1 ∨ 10000 < b.y1
    · rw [if_pos h2]
      go_enter Try.func48, Try.ntmps48
      go_wp2
      all_goals first | (exfalso; omega) | (go_returns; exact ⟨rfl, by (repeat' (first | (with_reducible exact Below.refl _ _) | (with_reducible assumption) | (with_reducible refine Below.setCell ?_ ?_ _) | (with_reducible refine Below.alloc ?_ ?_ _) | (with_reducible refine below_drewN ?_ _) | (with_reducible refine Below.drew ?_) | (with_reducible exact Nat.le_refl _) | omega | (simp; done) | (simp; omega)))⟩)
    · rw [if_neg h2]
      go_enter Try.func48, Try.ntmps48
      go_wp2
      all_goals first | (exfalso; omega) | (go_returns; exact ⟨rfl, by (repeat' (first | (with_reducible exact Below.refl _ _) | (with_reducible assumption) | (with_reducible refine Below.setCell ?_ ?_ _) | (with_reducible refine Below.alloc ?_ ?_ _) | (with_reducible refine below_drewN ?_ _) | (with_reducible refine Below.drew ?_) | (with_reducible exact Nat.le_refl _) | omega | (simp; done) | (simp; omega)))⟩)

set_option maxHeartbeats 1600000 in
theorem impl_box (b : Bx) (w : World) :
    Calls Try.prog 62 #[.agg #[.int .i64 b.x0, .int .i64 b.y0, .int .i64 b.x1, .int .i64 b.y1]] w fun e w' => e = .returned (.int .i64 (bfK b)) ∧ Below w.heap.size w w' := by
  unfold bfK
  by_cases h1 : b.x1 ≤ b.x0 ∨ b.y1 ≤ b.y0
  · rw [if_pos h1]
    go_enter Try.func62, Try.ntmps62
    go_wp2
    all_goals first | (exfalso; omega) | (go_returns; exact ⟨rfl, by (repeat' (first | (with_reducible exact Below.refl _ _) | (with_reducible assumption) | (with_reducible refine Below.setCell ?_ ?_ _) | (with_reducible refine Below.alloc ?_ ?_ _) | (with_reducible refine below_drewN ?_ _) | (with_reducible refine Below.drew ?_) | (with_reducible exact Nat.le_refl _) | omega | (simp; done) | (simp; omega)))⟩)
  · rw [if_neg h1]
    by_cases h2 : b.x0 < -10000 ∨ b.y0 < -10000 ∨ 10000 < b.x1 ∨ 10000 < b.y1
    · rw [if_pos h2]
      go_enter Try.func62, Try.ntmps62
      go_wp2
      all_goals first | (exfalso; omega) | (go_returns; exact ⟨rfl, by (repeat' (first | (with_reducible exact Below.refl _ _) | (with_reducible assumption) | (with_reducible refine Below.setCell ?_ ?_ _) | (with_reducible refine Below.alloc ?_ ?_ _) | (with_reducible refine below_drewN ?_ _) | (with_reducible refine Below.drew ?_) | (with_reducible exact Nat.le_refl _) | omega | (simp; done) | (simp; omega)))⟩)
    · rw [if_neg h2]
      go_enter Try.func62, Try.ntmps62
      go_wp2
      all_goals first | (exfalso; omega) | (go_returns; exact ⟨rfl, by (repeat' (first | (with_reducible exact Below.refl _ _) | (with_reducible assumption) | (with_reducible refine Below.setCell ?_ ?_ _) | (with_reducible refine Below.alloc ?_ ?_ _) | (with_reducible refine below_drewN ?_ _) | (with_reducible refine Below.drew ?_) | (with_reducible exact Nat.le_refl _) | omega | (simp; done) | (simp; omega)))⟩)

end Go.Proofs.Ytmdijanohjkeeaa
