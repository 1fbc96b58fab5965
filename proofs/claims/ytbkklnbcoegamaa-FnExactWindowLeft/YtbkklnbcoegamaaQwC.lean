/- Proved here: windows of a book of lots: their cells. (And ahead of it: Proved here: how lists of numbers are read, and how the laws' package weighs, copies and compares them; how one that came in is read. No condition on the program but on its table of types.) -/
import Derived.Test.YtbkklnbcoegamaaNlW
import Derived.Test.YtbkklnbcoegamaaNlQ
import Derived.Test.YtbkklnbcoegamaaNlJ
import Derived.OpenShut
import Derived.Lib.SmallJoins
import Derived.Test.YtbkklnbcoegamaaGen
namespace Go.Proofs.Ytbkklnbcoegamaa
open Go.ChangeShapes Go.WideShapes Go.ChangeAt Go.RowKit Go.Joins Go.Deep
set_option linter.unusedVariables false
set_option linter.unusedSimpArgs false

set_option maxHeartbeats 800000 in
theorem szInt64S_gen (a : Option Addr) (n c : Nat) (l : Int) (w : World) (h0 : 0 ≤ l) (h1 : l ≤ 1048576) (h2 : n ≤ maxLen) :
    Calls Try.prog 28 #[.slice a n c, .int .i64 l] w fun e w' => ∃ r, e = .returned (.int .i64 r) ∧ (r < 0 ∨ (0 ≤ r ∧ r ≤ l ∧ (n : Int) ≤ l)) ∧ Below w.heap.size w w' := by
  unfold maxLen at h2
  have hw : IntKind.i64.wrap (l - (n : Int)) = l - (n : Int) := by rw [IntKind.wrap_i64]; omega
  by_cases hn : l - (n : Int) < 0
  · go_enter Try.func28, Try.ntmps28
    go_wp2
    go_returns
    exact ⟨-1, rfl, Or.inl (by omega), by (repeat' (first | (with_reducible exact Below.refl _ _) | (with_reducible assumption) | (with_reducible refine Below.setCell ?_ ?_ _) | (with_reducible refine Below.alloc ?_ ?_ _) | (with_reducible refine below_drewN ?_ _) | (with_reducible refine Below.drew ?_) | (with_reducible exact Nat.le_refl _) | omega | (simp; done) | (simp; omega)))⟩
  · go_enter Try.func28, Try.ntmps28
    go_wp2
    go_returns
    exact ⟨_, rfl, Or.inr ⟨by omega, by omega, by omega⟩, by (repeat' (first | (with_reducible exact Below.refl _ _) | (with_reducible assumption) | (with_reducible refine Below.setCell ?_ ?_ _) | (with_reducible refine Below.alloc ?_ ?_ _) | (with_reducible refine below_drewN ?_ _) | (with_reducible refine Below.drew ?_) | (with_reducible exact Nat.le_refl _) | omega | (simp; done) | (simp; omega)))⟩


end Go.Proofs.Ytbkklnbcoegamaa

namespace Go.Proofs.Ytbkklnbcoegamaa
open Go.RowKit
set_option linter.unusedVariables false
set_option linter.unusedSimpArgs false

/-- A window: from a step, to a step, at most. -/
structure Wdw where
  f : Int
  t : Int
  m : Int
deriving DecidableEq

def wdC (x : Wdw) : List Value := [.int .i64 x.f, .int .i64 x.t, .int .i64 x.m]
theorem wdC_len (x : Wdw) : (wdC x).length = 3 := rfl
theorem wdC_one (x : Wdw) : ∀ u ∈ wdC x, u.oneCell' = true := by
  intro u hu
  simp only [wdC, List.mem_cons, List.not_mem_nil, or_false] at hu
  rcases hu with rfl | rfl | rfl <;> rfl
theorem info_Window : (Try.prog.info? 62).map (fun i => (i.zero, i.size, i.bytes)) = some (some (.agg #[.int .i64 0, .int .i64 0, .int .i64 0]), 3, 24) := by kernel_rfl
/-- The cells of an element, one by one. -/
theorem wdC_at {w : World} {g o : Nat} {x : Wdw} (h : ∀ i, i < 3 → w.cell? ⟨g, o + i, none⟩ = (wdC x)[i]?) : w.cell? ⟨g, o, none⟩ = some (.int .i64 x.f) ∧ w.cell? ⟨g, o + 1, none⟩ = some (.int .i64 x.t) ∧ w.cell? ⟨g, o + 2, none⟩ = some (.int .i64 x.m) :=
  ⟨h 0 (by omega), h 1 (by omega), h 2 (by omega)⟩

end Go.Proofs.Ytbkklnbcoegamaa
