/- Proved here: a march of the model under way. -/
import Derived.Test.YtbjdalcbdbphkaaRmG
import Derived.Test.YtbjdalcbdbphkaaRmS
import Derived.Test.YtbjdalcbdbphkaaCeQ
import Derived.Test.YtbjdalcbdbphkaaIntsBase
import Derived.Test.YtbjdalcbdbphkaaUnd
import Derived.Deep.Cut
namespace Go.Proofs.Ytbjdalcbdbphkaa
open Go.RowKit
set_option linter.unusedVariables false
set_option linter.unusedSimpArgs false

/-- A march of the model under way: the memory's bits in their row, the fault and the answer in their boxes. -/
structure MW (W w : World) (K g n : Nat) (f : Mf) (m : Nat → Int) : Prop where
  bl : Below W.heap.size W w
  bx : w.heap[K]? = some (.cells #[.int .i64 0, .bool false, .int .i64 0, .int .i64 0] 27)
  bf : w.heap[W.heap.size]? = some (.cells #[.int .i64 f.k, .int .i64 (f.c : Int), .int .i64 f.b, .int .i64 f.v] 31)
  is : IS w g (.slice (some ⟨g, 0, none⟩) n n) ((List.range n).map m)
  bit : Bit m
theorem MW.go {W w w' : World} {K g n : Nat} {f : Mf} {m m' : Nat → Int} (h : MW W w K g n f m) (h0 : W.heap.size < K) (h1 : K < g) (hi : IS w' g (.slice (some ⟨g, 0, none⟩) n n) ((List.range n).map m')) (ho : ∀ q, q < w.heap.size → q ≠ g → w'.heap[q]? = w.heap[q]?) (hb : Below g w w') (hm : Bit m') : MW W w' K g n f m' :=
  ⟨h.bl.trans (hb.mono (by omega)), by rw [ho _ (ltOfQ h.bx) (by omega)]; exact h.bx, by rw [ho _ (ltOfQ h.bf) (by omega)]; exact h.bf, hi, hm⟩
theorem MW.step {W w w' : World} {K g n : Nat} {f : Mf} {m : Nat → Int} (h : MW W w K g n f m) (hb : Below w.heap.size w w') : MW W w' K g n f m :=
  ⟨h.bl.trans (hb.mono h.bl.size), by rw [hb.block _ (ltOfQ h.bx)]; exact h.bx, by rw [hb.block _ (ltOfQ h.bf)]; exact h.bf, h.is.kept (fun q hq => hb.block q (IS.lt h.is q hq).2), h.bit⟩

end Go.Proofs.Ytbjdalcbdbphkaa
