/- Proved here: lists of lists of numbers in a law's state: which blocks they have. -/
import Derived.Test.YtkdpifplhhcpaaaGrC
import Derived.Test.YtkdpifplhhcpaaaLwS
namespace Go.Proofs.Ytkdpifplhhcpaaa
open Go.RowKit
set_option linter.unusedVariables false
set_option linter.unusedSimpArgs false

/-- Each block of a list of rows lies below Z. -/
def LtR (v : Value) (vs : List Value) (m Z : Nat) : Prop := (∀ g, v.ownBlock = some g → g < Z) ∧ ∀ i, i < m → ∀ g, (rat vs i).ownBlock = some g → g < Z
theorem RI.lt {w : World} {B : Nat} {v : Value} {ls : List (List Int)} {vs : List Value} (h : RI w B v ls vs) : LtR v vs ls.length w.heap.size :=
  ⟨fun g hg => (rowBlk h.o hg).2.1, fun i hi g hg => (rowBlk (h.bx i hi) hg).2.1⟩
theorem Ow.ri {V : World} {B hi : Nat} {v : Value} {ls : List (List Int)} {vs : List Value} (h : RI V B v ls vs) (h1 : B ≤ hi) (h2 : hi ≤ V.heap.size) (hh : LtR v vs ls.length hi) : Ow B hi (fun V => RI V B v ls vs) V :=
  ⟨h, fun V' hq => h.kept (fun g hg => hq g (rowBlk h.o hg).1 (hh.1 g hg)) fun i hi g hg => hq g (rowBlk (h.bx i hi) hg).1 (hh.2 i hi g hg), ⟨h1, h2⟩⟩
theorem Ow.riAll {V V0 : World} {v : Value} {ls : List (List Int)} {vs : List Value} (h : RI V V0.heap.size v ls vs) (hb : Below V0.heap.size V0 V) : Ow V0.heap.size V.heap.size (fun V => RI V V0.heap.size v ls vs) V :=
  Ow.ri h hb.size (Nat.le_refl _) h.lt

end Go.Proofs.Ytkdpifplhhcpaaa
