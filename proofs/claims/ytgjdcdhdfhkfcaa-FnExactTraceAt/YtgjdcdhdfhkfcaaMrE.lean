/- Proved here: how the laws' package compares answers of a code, a count and a float. -/
import Derived.Test.YtgjdcdhdfhkfcaaFlL
import Derived.Test.YtgjdcdhdfhkfcaaLwS
namespace Go.Proofs.Ytgjdcdhdfhkfcaa
open Go.RowKit
set_option linter.unusedVariables false
set_option linter.unusedSimpArgs false

set_option maxHeartbeats 1600000 in
theorem eqMeanResult_v (a b : Int) {x y : Nat} (h : fv x = fv y) (w : World) : Calls Try.prog 38 #[.agg #[.int .i64 a, .int .i64 b, .float .f64 x], .agg #[.int .i64 a, .int .i64 b, .float .f64 y]] w fun e w' => e = .returned (.bool true) ∧ Below w.heap.size w w' := by
  have HS : Hid (∀ W, Calls Try.prog 47 #[.float .f64 x, .float .f64 y] W fun e w' => e = .returned (.bool true) ∧ ∃ n, w' = W.drewN n) := fun W => same_any x y h W
  clear h
  go_enter Try.func38, Try.ntmps38
  go_wp2_with (fail)
  refine (HS.out _).mono ?_
  rintro e w3 ⟨rfl, k, hw3⟩
  subst w3
  go_wp2
  go_returns
  exact ⟨rfl, by (repeat' (first | (with_reducible exact Below.refl _ _) | (with_reducible assumption) | (with_reducible refine Below.setCell ?_ ?_ _) | (with_reducible refine Below.alloc ?_ ?_ _) | (with_reducible refine below_drewN ?_ _) | (with_reducible refine Below.drew ?_) | (with_reducible exact Nat.le_refl _) | omega | (simp; done) | (simp; omega)))⟩

end Go.Proofs.Ytgjdcdhdfhkfcaa
