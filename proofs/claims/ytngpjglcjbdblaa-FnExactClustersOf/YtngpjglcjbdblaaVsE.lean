/- Proved here: a result of three cells that is stored. -/
import Derived.Test.YtngpjglcjbdblaaLwS
namespace Go.Proofs.Ytngpjglcjbdblaa
open Go.RowKit
set_option linter.unusedVariables false
set_option linter.unusedSimpArgs false

theorem vset3 {w : World} {k : Nat} {a b c a' b' c' : Value} {T : TypeId} (h : w.heap[k]? = some (.cells #[a, b, c] T)) : (((w.setCell ⟨k, 0, none⟩ a').setCell ⟨k, 1, none⟩ b').setCell ⟨k, 2, none⟩ c').heap[k]? = some (.cells #[a', b', c'] T) := by
  have h1 := heap_setCell_same w k 0 _ _ a' h
  have h2 := heap_setCell_same _ k 1 _ _ b' h1
  have h3 := heap_setCell_same _ k 2 _ _ c' h2
  simpa using h3
theorem vset3_other {w : World} {k j : Nat} {a' b' c' : Value} (h : j ≠ k) : (((w.setCell ⟨k, 0, none⟩ a').setCell ⟨k, 1, none⟩ b').setCell ⟨k, 2, none⟩ c').heap[j]? = w.heap[j]? := by
  rw [heap_setCell_other _ _ _ _ (by simpa using h), heap_setCell_other _ _ _ _ (by simpa using h), heap_setCell_other _ _ _ _ (by simpa using h)]
theorem set3e {w : World} {k : Nat} {a b c a' b' c' : Value} {T : TypeId} (h : w.heap[k]? = some (.cells #[a, b, c] T)) :
    (w.setCell ⟨k, 0, none⟩ a').cell? ⟨k, 0, none⟩ = some a' ∧ ((w.setCell ⟨k, 0, none⟩ a').setCell ⟨k, 1, none⟩ b').cell? ⟨k, 0, none⟩ = some a' ∧ ((w.setCell ⟨k, 0, none⟩ a').setCell ⟨k, 1, none⟩ b').cell? ⟨k, 1, none⟩ = some b' ∧
    (((w.setCell ⟨k, 0, none⟩ a').setCell ⟨k, 1, none⟩ b').setCell ⟨k, 2, none⟩ c').cell? ⟨k, 0, none⟩ = some a' ∧ (((w.setCell ⟨k, 0, none⟩ a').setCell ⟨k, 1, none⟩ b').setCell ⟨k, 2, none⟩ c').cell? ⟨k, 1, none⟩ = some b' ∧ (((w.setCell ⟨k, 0, none⟩ a').setCell ⟨k, 1, none⟩ b').setCell ⟨k, 2, none⟩ c').cell? ⟨k, 2, none⟩ = some c' := by
  have h1 := heap_setCell_same w k 0 _ _ a' h
  have h2 := heap_setCell_same _ k 1 _ _ b' h1
  have h3 := heap_setCell_same _ k 2 _ _ c' h2
  refine ⟨?_, ?_, ?_, ?_, ?_, ?_⟩
  · simp [World.cell?, h1]
  · simp [World.cell?, h2]
  · simp [World.cell?, h2]
  · simp [World.cell?, h3]
  · simp [World.cell?, h3]
  · simp [World.cell?, h3]
theorem set3b {w : World} {k : Nat} {a' b' c' : Value} {B : Nat} {w0 : World} (h : Below B w0 w) (hk : B ≤ k) : Below B w0 (((w.setCell ⟨k, 0, none⟩ a').setCell ⟨k, 1, none⟩ b').setCell ⟨k, 2, none⟩ c') :=
  ((h.setCell hk _).setCell hk _).setCell hk _

end Go.Proofs.Ytngpjglcjbdblaa
