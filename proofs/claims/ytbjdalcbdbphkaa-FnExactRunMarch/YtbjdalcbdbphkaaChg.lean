/- Proved here: worlds that differ in some blocks alone. No condition on the program. -/
import Derived.Test.YtbjdalcbdbphkaaIntsBase
namespace Go.Proofs.Ytbjdalcbdbphkaa
open Go.RowKit
set_option linter.unusedVariables false
set_option linter.unusedSimpArgs false

/-- Nothing but blocks from B on and below Z has turned. -/
structure Chg (B Z : Nat) (w w' : World) : Prop where
  os : w'.os = w.os
  tape : w'.tape = w.tape
  output : w'.output = w.output
  size : w.heap.size ≤ w'.heap.size
  block : ∀ k, k < w.heap.size → (k < B ∨ Z ≤ k) → w'.heap[k]? = w.heap[k]?

theorem Chg.refl (B Z : Nat) (w : World) : Chg B Z w w := ⟨rfl, rfl, rfl, Nat.le_refl _, fun _ _ _ => rfl⟩
theorem Chg.trans {B Z : Nat} {w w' w'' : World} (h : Chg B Z w w') (h' : Chg B Z w' w'') : Chg B Z w w'' :=
  ⟨h'.os.trans h.os, h'.tape.trans h.tape, h'.output.trans h.output, Nat.le_trans h.size h'.size, fun k hk hb => (h'.block k (Nat.lt_of_lt_of_le hk h.size) hb).trans (h.block k hk hb)⟩
theorem Chg.set {B Z g o : Nat} (w : World) (u : Value) (h1 : B ≤ g) (h2 : g < Z) : Chg B Z w (w.setCell ⟨g, o, none⟩ u) :=
  ⟨rfl, rfl, rfl, by simp, fun k hk hb => heap_setCell_other _ _ _ _ (by simp; omega)⟩
theorem Chg.only {B Z g : Nat} {w w' : World} (h : Only g w w') (h1 : B ≤ g) (h2 : g < Z) : Chg B Z w w' :=
  ⟨h.os, h.tape, h.output, by rw [h.size]; exact Nat.le_refl _, fun k hk hb => h.block k (by omega)⟩
theorem Chg.below {B Z A : Nat} {w w' : World} (h : Chg B Z w w') (hA : A ≤ B) (hs : A ≤ w.heap.size) : Below A w w' :=
  ⟨h.os, h.tape, h.output, h.size, fun k hk => h.block k (by omega) (Or.inl (by omega))⟩
theorem Chg.of_below {B Z : Nat} {w w' : World} (h : Below w.heap.size w w') : Chg B Z w w' :=
  ⟨h.os, h.tape, h.output, h.size, fun k hk _ => h.block k hk⟩

end Go.Proofs.Ytbjdalcbdbphkaa
