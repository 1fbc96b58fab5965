/- Proved here: two and four cells of a block; the numbers of a bound. -/
import Derived.Test.YtcdpaokmjoklcaaChM
import Derived.Test.YtcdpaokmjoklcaaLwS
namespace Go.Proofs.Ytcdpaokmjoklcaa
open Go.RowKit
set_option linter.unusedVariables false
set_option linter.unusedSimpArgs false

theorem bn_two {w : World} {k : Nat} {a b : Value} {T : TypeId} (h : w.heap[k]? = some (.cells #[a, b] T)) :
    w.cell? ⟨k, 0, none⟩ = some a ∧ w.cell? ⟨k, 1, none⟩ = some b ∧ w.frozen? ⟨k, 0, none⟩ = false ∧ w.frozen? ⟨k, 1, none⟩ = false ∧ k < w.heap.size := ⟨cellOf h 0 rfl, cellOf h 1 rfl, frozOf h 0, frozOf h 1, ltOf h⟩
theorem bn_four {w : World} {k : Nat} {a b c d : Value} {T : TypeId} (h : w.heap[k]? = some (.cells #[a, b, c, d] T)) :
    w.cell? ⟨k, 0, none⟩ = some a ∧ w.cell? ⟨k, 1, none⟩ = some b ∧ w.cell? ⟨k, 2, none⟩ = some c ∧ w.cell? ⟨k, 3, none⟩ = some d ∧ k < w.heap.size := ⟨cellOf h 0 rfl, cellOf h 1 rfl, cellOf h 2 rfl, cellOf h 3 rfl, ltOf h⟩
/-- The numbers that a bound is made of. -/
theorem bn_bd {N D st : Int} (hD : 1 ≤ D ∧ D ≤ 1000) (hN : 1 ≤ N ∧ N ≤ D) (hs : 0 ≤ st ∧ st ≤ 1000000) : (0 ≤ (st + 1) * D ∧ (st + 1) * D ≤ 2000000000) ∧ 0 ≤ ((st + 1) * D + N - 1) / N ∧ ((st + 1) * D + N - 1) / N ≤ 2000001000 := by
  have h1 : 0 ≤ (st + 1) * D := Int.mul_nonneg (by omega) (by omega)
  have h2 := Int.mul_le_mul (show st + 1 ≤ 1000001 by omega) hD.2 (by omega) (by omega)
  refine ⟨⟨h1, by omega⟩, Int.ediv_nonneg (by omega) (by omega), ?_⟩
  have h3 := Int.ediv_le_self (b := N) (show 0 ≤ (st + 1) * D + N - 1 by omega)
  omega

end Go.Proofs.Ytcdpaokmjoklcaa
