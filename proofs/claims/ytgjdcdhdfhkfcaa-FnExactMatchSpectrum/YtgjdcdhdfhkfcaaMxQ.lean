/- Proved here: small facts on memory for MatchSpectrum. -/
import Derived.Test.YtgjdcdhdfhkfcaaMxM
import Derived.Test.YtgjdcdhdfhkfcaaLwS
import Derived.Test.YtgjdcdhdfhkfcaaFwR
namespace Go.Proofs.Ytgjdcdhdfhkfcaa
open Go.RowKit
set_option linter.unusedVariables false
set_option linter.unusedSimpArgs false

theorem three_m {w : World} {k : Nat} {a b c : Value} {T : TypeId} (h : w.heap[k]? = some (.cells #[a, b, c] T)) :
    w.cell? ⟨k, 0, none⟩ = some a ∧ w.cell? ⟨k, 1, none⟩ = some b ∧ w.cell? ⟨k, 2, none⟩ = some c ∧ w.frozen? ⟨k, 0, none⟩ = false ∧ w.frozen? ⟨k, 1, none⟩ = false ∧ w.frozen? ⟨k, 2, none⟩ = false ∧ k < w.heap.size :=
  ⟨cellOf h 0 rfl, cellOf h 1 rfl, cellOf h 2 rfl, frozOf h 0, frozOf h 1, frozOf h 2, ltOf h⟩

end Go.Proofs.Ytgjdcdhdfhkfcaa
