/- Proved here: answers with a code have no fraction. -/
import Derived.Test.YtjacmneopijiaaaFqM
import Derived.Test.YtjacmneopijiaaaLwS
namespace Go.Proofs.Ytjacmneopijiaaa
open Go.RowKit
set_option linter.unusedVariables false
set_option linter.unusedSimpArgs false

theorem rqQ_tidy (n d : Int) : Tidy (rqQ n d) := by
  intro h
  unfold rqQ rqC rqN rqD at *
  cases hb : inB (lowN n d) (lowD n d) with
  | true => rw [hb] at h; exact absurd rfl h
  | false => exact ⟨rfl, rfl⟩
theorem adQ_tidy (a b : Fr) : Tidy (adQ a b) := by
  unfold adQ; split
  · exact rqQ_tidy _ _
  · exact fun _ => ⟨rfl, rfl⟩
theorem suQ_tidy (a b : Fr) : Tidy (suQ a b) := by
  unfold suQ; split
  · exact rqQ_tidy _ _
  · exact fun _ => ⟨rfl, rfl⟩
theorem muQ_tidy (a b : Fr) : Tidy (muQ a b) := by
  unfold muQ; split
  · exact rqQ_tidy _ _
  · exact fun _ => ⟨rfl, rfl⟩
theorem zq_bad {q : QR} (h : Tidy q) (hc : q.c ≠ 0) : q = ⟨q.c, 0, 0⟩ := by
  obtain ⟨h1, h2⟩ := h hc
  exact QR.ext rfl h1 h2
theorem zq_ok {q : QR} (h : q.c = 0) : zq q = q := by unfold zq; rw [if_pos h]
theorem zq_not {q : QR} (h : q.c ≠ 0) : zq q = ⟨q.c, 0, 0⟩ := by unfold zq; rw [if_neg h]
theorem three_c {w : World} {k : Nat} {a b c : Value} {T : TypeId} (h : w.heap[k]? = some (.cells #[a, b, c] T)) :
    w.cell? ⟨k, 0, none⟩ = some a ∧ w.cell? ⟨k, 1, none⟩ = some b ∧ w.cell? ⟨k, 2, none⟩ = some c ∧ w.frozen? ⟨k, 0, none⟩ = false ∧ w.frozen? ⟨k, 1, none⟩ = false ∧ w.frozen? ⟨k, 2, none⟩ = false ∧ k < w.heap.size :=
  ⟨cellOf h 0 rfl, cellOf h 1 rfl, cellOf h 2 rfl, frozOf h 0, frozOf h 1, frozOf h 2, ltOf h⟩
theorem two_c {w : World} {k : Nat} {a b : Value} {T : TypeId} (h : w.heap[k]? = some (.cells #[a, b] T)) :
    w.cell? ⟨k, 0, none⟩ = some a ∧ w.cell? ⟨k, 1, none⟩ = some b ∧ w.frozen? ⟨k, 0, none⟩ = false ∧ w.frozen? ⟨k, 1, none⟩ = false ∧ k < w.heap.size :=
  ⟨cellOf h 0 rfl, cellOf h 1 rfl, frozOf h 0, frozOf h 1, ltOf h⟩
theorem al_second (w : World) (a b : Obj) : ((w.alloc a).alloc b).heap[w.heap.size + 1]? = some b := by have := heap_alloc_new (w.alloc a) b; simpa using this
theorem there_three {w : World} {k : Nat} {a b c : Value} {T : TypeId} (h : w.heap[k]? = some (.cells #[a, b, c] T)) : w.there k 0 3 := by
  intro j hj
  have hj2 : j < 3 := hj
  simp [World.cell?, World.frozen?, h, hj2]
theorem set3 {w : World} {k : Nat} {a b c a' b' c' : Value} {T : TypeId} (h : w.heap[k]? = some (.cells #[a, b, c] T)) : (((w.setCell ⟨k, 0, none⟩ a').setCell ⟨k, 1, none⟩ b').setCell ⟨k, 2, none⟩ c').heap[k]? = some (.cells #[a', b', c'] T) := by
  have h1 := heap_setCell_same w k 0 _ _ a' h
  have h2 := heap_setCell_same _ k 1 _ _ b' h1
  have h3 := heap_setCell_same _ k 2 _ _ c' h2
  simpa using h3
theorem set3_other {w : World} {k j : Nat} {a' b' c' : Value} (h : j ≠ k) : (((w.setCell ⟨k, 0, none⟩ a').setCell ⟨k, 1, none⟩ b').setCell ⟨k, 2, none⟩ c').heap[j]? = w.heap[j]? := by
  rw [heap_setCell_other _ _ _ _ (by simpa using h), heap_setCell_other _ _ _ _ (by simpa using h), heap_setCell_other _ _ _ _ (by simpa using h)]

end Go.Proofs.Ytjacmneopijiaaa
