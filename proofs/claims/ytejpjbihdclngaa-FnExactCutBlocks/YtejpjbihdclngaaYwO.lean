/- Proved here: lists of lists of Byte in a law's state. -/
import Derived.Test.YtejpjbihdclngaaYwR
import Derived.Test.YtejpjbihdclngaaLwS
namespace Go.Proofs.Ytejpjbihdclngaa
open Go.ChangeShapes Go.WideShapes Go.ChangeAt Go.RowKit Go.Joins Go.Deep
set_option linter.unusedVariables false
set_option linter.unusedSimpArgs false


/-- Each block of a list of rows lies below Z. -/
def LtY (v : Value) (vs : List Value) (m Z : Nat) : Prop := (∀ g, v.ownBlock = some g → g < Z) ∧ ∀ i, i < m → ∀ g, (rat vs i).ownBlock = some g → g < Z
theorem RoY.lt {w : World} {B : Nat} {v : Value} {ls : List (List UInt8)} {vs : List Value} (h : RoY w B v ls vs) : LtY v vs ls.length w.heap.size :=
  ⟨fun g hg => (rowBlk h.o hg).2.1, fun i hi g hg => (rowBlk (h.bx i hi) hg).2.1⟩
theorem Ow.rY {V : World} {B hi : Nat} {v : Value} {ls : List (List UInt8)} {vs : List Value} (h : RoY V B v ls vs) (h1 : B ≤ hi) (h2 : hi ≤ V.heap.size) (hh : LtY v vs ls.length hi) : Ow B hi (fun V => RoY V B v ls vs) V :=
  ⟨h, fun V' hq => h.kept (fun g hg => hq g (rowBlk h.o hg).1 (hh.1 g hg)) fun i hi g hg => hq g (rowBlk (h.bx i hi) hg).1 (hh.2 i hi g hg), ⟨h1, h2⟩⟩
theorem Ow.rAllY {V V0 : World} {v : Value} {ls : List (List UInt8)} {vs : List Value} (h : RoY V V0.heap.size v ls vs) (hb : Below V0.heap.size V0 V) : Ow V0.heap.size V.heap.size (fun V => RoY V V0.heap.size v ls vs) V :=
  Ow.rY h hb.size (Nat.le_refl _) h.lt


end Go.Proofs.Ytejpjbihdclngaa
