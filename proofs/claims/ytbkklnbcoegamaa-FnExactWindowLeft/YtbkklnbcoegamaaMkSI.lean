/- Proved here: how the laws' package compares answers of a code and a number. (And ahead of it: Proved here: what hangs on the blocks of a book of a law's own.) -/
import Derived.Test.YtbkklnbcoegamaaQkX
import Derived.Test.YtbkklnbcoegamaaQkB
import Derived.Test.YtbkklnbcoegamaaQlE
import Derived.Test.YtbkklnbcoegamaaQkO
import Derived.Test.YtbkklnbcoegamaaLwS
namespace Go.Proofs.Ytbkklnbcoegamaa
open Go.RowKit
set_option linter.unusedVariables false
set_option linter.unusedSimpArgs false

theorem OBk.ow {V : World} {B hi : Nat} {vw vl vs : Value} {b : Bk} {rs : List Lr} (h : PB V B vw vl vs (wvO rs) b rs) (h1 : B ≤ hi) (h2 : hi ≤ V.heap.size) (hh : ∀ q, PBk vw vl vs (wvO rs) rs q → q < hi) : Ow B hi (fun V => OBk V B vw vl vs b) V :=
  ⟨⟨rs, h⟩, fun V' hq => ⟨rs, h.keep fun q hk => hq q (h.blk hk).1 (hh q hk)⟩, ⟨h1, h2⟩⟩
theorem Ow.bkAll {V V0 : World} {vw vl vs : Value} {b : Bk} (h : OBk V V0.heap.size vw vl vs b) (hb : Below V0.heap.size V0 V) : Ow V0.heap.size V.heap.size (fun V => OBk V V0.heap.size vw vl vs b) V := by
  obtain ⟨rs, h⟩ := h
  exact OBk.ow h hb.size (Nat.le_refl _) fun q hq => (h.blk hq).2

end Go.Proofs.Ytbkklnbcoegamaa

namespace Go.Proofs.Ytbkklnbcoegamaa
open Go.RowKit
set_option linter.unusedVariables false
set_option linter.unusedSimpArgs false

set_option maxHeartbeats 800000 in
theorem eqShapeInt_to (a b : Int) (w : World) : Calls Try.prog 18 #[.agg #[.int .i64 a, .int .i64 b], .agg #[.int .i64 a, .int .i64 b]] w fun e w' => e = .returned (.bool true) ∧ Below w.heap.size w w' := by
  go_enter Try.func18, Try.ntmps18
  go_wp2
  go_returns
  exact ⟨rfl, by (repeat' (first | (with_reducible exact Below.refl _ _) | (with_reducible assumption) | (with_reducible refine Below.setCell ?_ ?_ _) | (with_reducible refine Below.alloc ?_ ?_ _) | (with_reducible refine below_drewN ?_ _) | (with_reducible refine Below.drew ?_) | (with_reducible exact Nat.le_refl _) | omega | (simp; done) | (simp; omega)))⟩

end Go.Proofs.Ytbkklnbcoegamaa
