/- Proved here: what hangs on the blocks of a book of a law's own. -/
import Derived.Test.YtbkklnbcoegamaaQkX
import Derived.Test.YtbkklnbcoegamaaQkB
import Derived.Test.YtbkklnbcoegamaaQlE
import Derived.Test.YtbkklnbcoegamaaQkO
namespace Go.Proofs.Ytbkklnbcoegamaa
open Go.RowKit
set_option linter.unusedVariables false
set_option linter.unusedSimpArgs false

theorem OBk.ow {V : World} {B hi : Nat} {vw vl vs : Value} {b : Bk} {rs : List Lr} (h : PB V B vw vl vs (wvO rs) b rs) (h1 : B ≤ hi) (h2 : hi ≤ V.heap.size) (hh : ∀ q, PBk vw vl vs (wvO rs) rs q → q < hi) : Ow B hi (fun V => OBk V B vw vl vs b) V :=
  ⟨⟨rs, h⟩, fun V' hq => ⟨rs, h.keep fun q hk => hq q (h.blk hk).1 (hh q hk)⟩, ⟨h1, h2⟩⟩
theorem Ow.bkAll {V V0 : World} {vw vl vs : Value} {b : Bk} (h : OBk V V0.heap.size vw vl vs b) (hb : Below V0.heap.size V0 V) : Ow V0.heap.size V.heap.size (fun V => OBk V V0.heap.size vw vl vs b) V := by
  obtain ⟨rs, h⟩ := h
  exact OBk.ow h hb.size (Nat.le_refl _) fun q hq => (h.blk hq).2

end Go.Proofs.Ytbkklnbcoegamaa
