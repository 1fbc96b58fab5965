/- Proved here: what a march over a memory answers; a place in the order of an element, of the program. -/
import Derived.Test.YtbjdalcbdbphkaaRmI
import Derived.Test.YtbjdalcbdbphkaaUnd
namespace Go.Proofs.Ytbjdalcbdbphkaa
open Go.RowKit
set_option linter.unusedVariables false
set_option linter.unusedSimpArgs false

def mrF (R : Option (Int × Nat)) : Bool := R.isSome
def mrS (R : Option (Int × Nat)) : Int := match R with | none => 0 | some p => p.1
def mrC (R : Option (Int × Nat)) : Int := match R with | none => 0 | some p => (p.2 : Int)

set_option maxHeartbeats 1600000 in
theorem impl_cat (d : Bool) (a : Option Addr) (u c : Nat) {k n : Nat} (hk : k < n) (hn : n ≤ 12) (W : World) :
    Calls Try.prog 83 #[.agg #[.bool d, .slice a u c], .int .i64 k, .int .i64 n] W fun e w' => e = .returned (.int .i64 (cN d n k : Int)) ∧ Below W.heap.size W w' := by
  cases d
  · go_enter Try.func83, Try.ntmps83
    go_wp2
    go_returns
    exact ⟨rfl, by (repeat' (first | (with_reducible exact Below.refl _ _) | (with_reducible assumption) | (with_reducible refine Below.setCell ?_ ?_ _) | (with_reducible refine Below.alloc ?_ ?_ _) | (with_reducible refine below_drewN ?_ _) | (with_reducible refine Below.drew ?_) | (with_reducible exact Nat.le_refl _) | omega | (simp; done) | (simp; omega)))⟩
  · have e : ((cN true n k : Nat) : Int) = (n : Int) - 1 - (k : Int) := by unfold cN; rw [if_pos rfl]; omega
    rw [e]
    go_enter Try.func83, Try.ntmps83
    go_wp2
    go_returns
    exact ⟨rfl, by (repeat' (first | (with_reducible exact Below.refl _ _) | (with_reducible assumption) | (with_reducible refine Below.setCell ?_ ?_ _) | (with_reducible refine Below.alloc ?_ ?_ _) | (with_reducible refine below_drewN ?_ _) | (with_reducible refine Below.drew ?_) | (with_reducible exact Nat.le_refl _) | omega | (simp; done) | (simp; omega)))⟩

end Go.Proofs.Ytbjdalcbdbphkaa
