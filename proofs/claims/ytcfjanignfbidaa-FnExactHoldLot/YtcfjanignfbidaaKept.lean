/- Proved here: small rules on worlds that have grown: what was there is there still. No condition on the program. (And ahead of it: Proved here: worlds that differ in some blocks alone. No condition on the program.) -/
import Derived.Test.YtcfjanignfbidaaIntsBase
import Derived.Test.YtcfjanignfbidaaUnd
namespace Go.Proofs.Ytcfjanignfbidaa
open Go.RowKit
set_option linter.unusedVariables false
set_option linter.unusedSimpArgs false

/-- Nothing but blocks from B on and below Z has turned. -/
structure Chg (B Z : Nat) (w w' : World) : Prop where
  os : w'.os = w.os
  tape : w'.tape = w.tape
  output : w'.output = w.output
  size : w.heap.size ≤ w'.heap.size
  block : ∀ k, k < w.heap.size → (k < B ∨ Z ≤ k) → w'.heap[k]? = w.heap[k]?

theorem Chg.refl (B Z : Nat) (w : World) : Chg B Z w w := ⟨rfl, rfl, rfl, Nat.le_refl _, fun _ _ _ => rfl⟩
theorem Chg.trans {B Z : Nat} {w w' w'' : World} (h : Chg B Z w w') (h' : Chg B Z w' w'') : Chg B Z w w'' :=
  ⟨h'.os.trans h.os, h'.tape.trans h.tape, h'.output.trans h.output, Nat.le_trans h.size h'.size, fun k hk hb => (h'.block k (Nat.lt_of_lt_of_le hk h.size) hb).trans (h.block k hk hb)⟩
theorem Chg.set {B Z g o : Nat} (w : World) (u : Value) (h1 : B ≤ g) (h2 : g < Z) : Chg B Z w (w.setCell ⟨g, o, none⟩ u) :=
  ⟨rfl, rfl, rfl, by simp, fun k hk hb => heap_setCell_other _ _ _ _ (by simp; omega)⟩
theorem Chg.only {B Z g : Nat} {w w' : World} (h : Only g w w') (h1 : B ≤ g) (h2 : g < Z) : Chg B Z w w' :=
  ⟨h.os, h.tape, h.output, by rw [h.size]; exact Nat.le_refl _, fun k hk hb => h.block k (by omega)⟩
theorem Chg.below {B Z A : Nat} {w w' : World} (h : Chg B Z w w') (hA : A ≤ B) (hs : A ≤ w.heap.size) : Below A w w' :=
  ⟨h.os, h.tape, h.output, h.size, fun k hk => h.block k (by omega) (Or.inl (by omega))⟩
theorem Chg.of_below {B Z : Nat} {w w' : World} (h : Below w.heap.size w w') : Chg B Z w w' :=
  ⟨h.os, h.tape, h.output, h.size, fun k hk _ => h.block k hk⟩

end Go.Proofs.Ytcfjanignfbidaa

namespace Go.Proofs.Ytcfjanignfbidaa
open Go.RowKit
set_option linter.unusedVariables false

/-- What lay in W lies in w still. -/
def KS (W w : World) : Prop := (∀ b o, b < W.heap.size → w.cell? ⟨b, o, none⟩ = W.cell? ⟨b, o, none⟩) ∧ Below W.heap.size W w

theorem KS.of {W w : World} (h : Below W.heap.size W w) : KS W w := ⟨fun b o hb => h.cell (p := ⟨b, o, none⟩) hb, h⟩
theorem KS.start (W : World) : KS W W.drew := KS.of ((Below.refl _ _).drew)
theorem KS.call {W w w' : World} (h : KS W w) (hb : Below w.heap.size w w') : KS W w' := KS.of (h.2.trans (hb.mono h.2.size))
theorem KS.alloc {W w : World} (h : KS W w) (o : Obj) : KS W (w.alloc o) := KS.of (h.2.alloc h.2.size o)
theorem KS.set {W w : World} (h : KS W w) {p : Addr} (hp : W.heap.size ≤ p.block) (u : Value) : KS W (w.setCell p u) := KS.of (h.2.setCell hp u)

end Go.Proofs.Ytcfjanignfbidaa
