/- Proved here: worlds that differ in a value's own block alone. -/
import Derived.Test.YtgbbigokbbllgaaTwA
import Derived.Test.YtgbbigokbbllgaaGzM
namespace Go.Proofs.Ytgbbigokbbllgaa
open Go.RowKit
set_option linter.unusedVariables false
set_option linter.unusedSimpArgs false

structure ChV (v : Value) (w w' : World) : Prop where
  os : w'.os = w.os
  tape : w'.tape = w.tape
  output : w'.output = w.output
  size : w.heap.size ≤ w'.heap.size
  block : ∀ k, k < w.heap.size → v.ownBlock ≠ some k → w'.heap[k]? = w.heap[k]?
theorem ChV.refl (v : Value) (w : World) : ChV v w w := ⟨rfl, rfl, rfl, Nat.le_refl _, fun _ _ _ => rfl⟩
theorem ChV.trans {v : Value} {w w' w'' : World} (h : ChV v w w') (h' : ChV v w' w'') : ChV v w w'' :=
  ⟨h'.os.trans h.os, h'.tape.trans h.tape, h'.output.trans h.output, Nat.le_trans h.size h'.size, fun k hk hb => (h'.block k (Nat.lt_of_lt_of_le hk h.size) hb).trans (h.block k hk hb)⟩
theorem ChV.of_below {v : Value} {w w' : World} (h : Below w.heap.size w w') : ChV v w w' := ⟨h.os, h.tape, h.output, h.size, fun k hk _ => h.block k hk⟩
theorem ChV.set {g n c o : Nat} (w : World) (u : Value) : ChV (.slice (some ⟨g, 0, none⟩) n c) w (w.setCell ⟨g, o, none⟩ u) :=
  ⟨rfl, rfl, rfl, by simp, fun k hk hb => heap_setCell_other _ _ _ _ (by
    intro e
    apply hb
    show some g = some k
    have : k = g := by simpa using e
    rw [this])⟩
theorem ChV.below {v : Value} {A : Nat} {w w' : World} (h : ChV v w w') (hA : A ≤ w.heap.size) (hv : ∀ g, v.ownBlock = some g → A ≤ g) : Below A w w' :=
  ⟨h.os, h.tape, h.output, h.size, fun k hk => h.block k (by omega) (fun e => by have := hv k e; omega)⟩

end Go.Proofs.Ytgbbigokbbllgaa
