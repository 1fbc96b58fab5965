/- Proved here: a book that was handed in, with where it ends; marked. -/
import Derived.Test.YtcfjanignfbidaaQmR
import Derived.Test.YtcfjanignfbidaaQkL
namespace Go.Proofs.Ytcfjanignfbidaa
open Go.RowKit
set_option linter.unusedVariables false
set_option linter.unusedSimpArgs false

def OBkZ (V : World) (B Z : Nat) (vw vl vs : Value) (b : Bk) : Prop := ∃ rs, PB V B vw vl vs (wvO rs) b rs ∧ ∀ q, PBk vw vl vs (wvO rs) rs q → q < Z
theorem OBkZ.rx {V : World} {B Z : Nat} {vw vl vs : Value} {b : Bk} (h : OBkZ V B Z vw vl vs b) : RdX V vw vl vs b := by
  obtain ⟨rs, h, _⟩ := h; exact h.rx
theorem Ow.bkZ {V V0 : World} {vw vl vs : Value} {b : Bk} (h : OBk V V0.heap.size vw vl vs b) (hb : Below V0.heap.size V0 V) : Ow V0.heap.size V.heap.size (fun V' => OBkZ V' V0.heap.size V.heap.size vw vl vs b) V := by
  obtain ⟨rs, h⟩ := h
  exact ⟨⟨rs, h, h.ltq⟩, fun V' hq => ⟨rs, h.keep fun q hk => hq q (h.blk hk).1 (h.ltq q hk), h.ltq⟩, ⟨hb.size, Nat.le_refl _⟩⟩
theorem markLotBook_lz (st : Int) {w : World} {B Z : Nat} {vw vl vs : Value} {b : Bk} (hs : smBk 1048576 b) (h : OBkZ w B Z vw vl vs b) :
    Calls Try.prog 17 #[.agg #[.int .i64 st, vw, vl, vs], .int .i64 1] w fun e w' => e = .returned (.int .i64 (zB b)) ∧ True ∧ Chg B Z w w' :=
  markLotBook_lw st hs (by obtain ⟨rs, h, _⟩ := h; exact ⟨rs, h⟩) (fun _ => h)
theorem zB_bd {b : Bk} (h : smBk 1048576 b) : 0 ≤ zB b ∧ zB b ≤ 10000000 := by
  have h1 := zS_tS b b.ls.length (Nat.le_refl _)
  have h2 := h.wn; have h3 := h.ls; have h4 := h.sc; have h5 := h.tot
  unfold zB
  rw [nsB_len, h1]
  omega

end Go.Proofs.Ytcfjanignfbidaa
