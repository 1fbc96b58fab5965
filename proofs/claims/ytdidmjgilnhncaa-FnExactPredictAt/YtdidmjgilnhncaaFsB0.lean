/- Proved here: answers with a code have no fraction. (And ahead of it: Proved here: small rules on blocks of five and of eight cells.) -/
import Derived.Test.YtdidmjgilnhncaaLwS
import Derived.Test.YtdidmjgilnhncaaOrC
import Derived.Test.YtdidmjgilnhncaaFqM
namespace Go.Proofs.Ytdidmjgilnhncaa
open Go.RowKit
set_option linter.unusedVariables false
set_option linter.unusedSimpArgs false

theorem five_c {w : World} {k : Nat} {a b c d e : Value} {T : TypeId} (h : w.heap[k]? = some (.cells #[a, b, c, d, e] T)) :
    w.cell? ⟨k, 0, none⟩ = some a ∧ w.cell? ⟨k, 1, none⟩ = some b ∧ w.cell? ⟨k, 2, none⟩ = some c ∧ w.cell? ⟨k, 3, none⟩ = some d ∧ w.cell? ⟨k, 4, none⟩ = some e ∧ w.frozen? ⟨k, 0, none⟩ = false ∧ w.frozen? ⟨k, 1, none⟩ = false ∧ w.frozen? ⟨k, 2, none⟩ = false ∧ w.frozen? ⟨k, 3, none⟩ = false ∧ w.frozen? ⟨k, 4, none⟩ = false ∧ k < w.heap.size :=
  ⟨cellOf h 0 rfl, cellOf h 1 rfl, cellOf h 2 rfl, cellOf h 3 rfl, cellOf h 4 rfl, frozOf h 0, frozOf h 1, frozOf h 2, frozOf h 3, frozOf h 4, ltOf h⟩
theorem eight_c {w : World} {k : Nat} {a b c d e f g h : Value} {T : TypeId} (hh : w.heap[k]? = some (.cells #[a, b, c, d, e, f, g, h] T)) :
    w.cell? ⟨k, 0, none⟩ = some a ∧ w.cell? ⟨k, 1, none⟩ = some b ∧ w.cell? ⟨k, 2, none⟩ = some c ∧ w.cell? ⟨k, 3, none⟩ = some d ∧ w.cell? ⟨k, 4, none⟩ = some e ∧ w.cell? ⟨k, 5, none⟩ = some f ∧ w.cell? ⟨k, 6, none⟩ = some g ∧ w.cell? ⟨k, 7, none⟩ = some h ∧ k < w.heap.size :=
  ⟨cellOf hh 0 rfl, cellOf hh 1 rfl, cellOf hh 2 rfl, cellOf hh 3 rfl, cellOf hh 4 rfl, cellOf hh 5 rfl, cellOf hh 6 rfl, cellOf hh 7 rfl, ltOf hh⟩

theorem prV_md {m : Mdl} {x y : Int} (h : mdF m ≠ 0) : prV m x y = ⟨mdF m, fr0, fr0⟩ := by unfold prV; rw [if_pos h]
theorem prV_out {m : Mdl} {x y : Int} (h : mdF m = 0) (hi : inP x y = false) : prV m x y = ⟨3, fr0, fr0⟩ := by
  unfold prV; rw [if_neg (by simpa using h), if_pos hi]
theorem prV_a {m : Mdl} {x y : Int} (h : mdF m = 0) (hi : inP x y = true) (ha : (paQ m x y).c ≠ 0) : prV m x y = ⟨(paQ m x y).c, fr0, fr0⟩ := by
  unfold prV; rw [if_neg (by simpa using h), if_neg (by rw [hi]; decide), if_pos ha]
theorem prV_u {m : Mdl} {x y : Int} (h : mdF m = 0) (hi : inP x y = true) (ha : (paQ m x y).c = 0) (hu : (puQ m x y).c ≠ 0) : prV m x y = ⟨(puQ m x y).c, fr0, fr0⟩ := by
  unfold prV; rw [if_neg (by simpa using h), if_neg (by rw [hi]; decide), if_neg (by simpa using ha), if_pos hu]
theorem prV_ok {m : Mdl} {x y : Int} (h : mdF m = 0) (hi : inP x y = true) (ha : (paQ m x y).c = 0) (hu : (puQ m x y).c = 0) : prV m x y = ⟨0, (paQ m x y).fr, (puQ m x y).fr⟩ := by
  unfold prV; rw [if_neg (by simpa using h), if_neg (by rw [hi]; decide), if_neg (by simpa using ha), if_neg (by simpa using hu)]

end Go.Proofs.Ytdidmjgilnhncaa

namespace Go.Proofs.Ytdidmjgilnhncaa
open Go.RowKit
set_option linter.unusedVariables false
set_option linter.unusedSimpArgs false

theorem rqQ_tidy (n d : Int) : Tidy (rqQ n d) := by
  intro h
  unfold rqQ rqC rqN rqD at *
  cases hb : inB (lowN n d) (lowD n d) with
  | true => rw [hb] at h; exact absurd rfl h
  | false => exact ⟨rfl, rfl⟩
theorem adQ_tidy (a b : Fr) : Tidy (adQ a b) := by
  unfold adQ; split
  · exact rqQ_tidy _ _
  · exact fun _ => ⟨rfl, rfl⟩
theorem suQ_tidy (a b : Fr) : Tidy (suQ a b) := by
  unfold suQ; split
  · exact rqQ_tidy _ _
  · exact fun _ => ⟨rfl, rfl⟩
theorem muQ_tidy (a b : Fr) : Tidy (muQ a b) := by
  unfold muQ; split
  · exact rqQ_tidy _ _
  · exact fun _ => ⟨rfl, rfl⟩
theorem zq_bad {q : QR} (h : Tidy q) (hc : q.c ≠ 0) : q = ⟨q.c, 0, 0⟩ := by
  obtain ⟨h1, h2⟩ := h hc
  exact QR.ext rfl h1 h2
theorem zq_ok {q : QR} (h : q.c = 0) : zq q = q := by unfold zq; rw [if_pos h]
theorem zq_not {q : QR} (h : q.c ≠ 0) : zq q = ⟨q.c, 0, 0⟩ := by unfold zq; rw [if_neg h]
theorem three_c {w : World} {k : Nat} {a b c : Value} {T : TypeId} (h : w.heap[k]? = some (.cells #[a, b, c] T)) :
    w.cell? ⟨k, 0, none⟩ = some a ∧ w.cell? ⟨k, 1, none⟩ = some b ∧ w.cell? ⟨k, 2, none⟩ = some c ∧ w.frozen? ⟨k, 0, none⟩ = false ∧ w.frozen? ⟨k, 1, none⟩ = false ∧ w.frozen? ⟨k, 2, none⟩ = false ∧ k < w.heap.size :=
  ⟨cellOf h 0 rfl, cellOf h 1 rfl, cellOf h 2 rfl, frozOf h 0, frozOf h 1, frozOf h 2, ltOf h⟩
theorem two_c {w : World} {k : Nat} {a b : Value} {T : TypeId} (h : w.heap[k]? = some (.cells #[a, b] T)) :
    w.cell? ⟨k, 0, none⟩ = some a ∧ w.cell? ⟨k, 1, none⟩ = some b ∧ w.frozen? ⟨k, 0, none⟩ = false ∧ w.frozen? ⟨k, 1, none⟩ = false ∧ k < w.heap.size :=
  ⟨cellOf h 0 rfl, cellOf h 1 rfl, frozOf h 0, frozOf h 1, ltOf h⟩
theorem al_second (w : World) (a b : Obj) : ((w.alloc a).alloc b).heap[w.heap.size + 1]? = some b := by have := heap_alloc_new (w.alloc a) b; simpa using this
theorem there_three {w : World} {k : Nat} {a b c : Value} {T : TypeId} (h : w.heap[k]? = some (.cells #[a, b, c] T)) : w.there k 0 3 := by
  intro j hj
  have hj2 : j < 3 := hj
  simp [World.cell?, World.frozen?, h, hj2]
theorem set3 {w : World} {k : Nat} {a b c a' b' c' : Value} {T : TypeId} (h : w.heap[k]? = some (.cells #[a, b, c] T)) : (((w.setCell ⟨k, 0, none⟩ a').setCell ⟨k, 1, none⟩ b').setCell ⟨k, 2, none⟩ c').heap[k]? = some (.cells #[a', b', c'] T) := by
  have h1 := heap_setCell_same w k 0 _ _ a' h
  have h2 := heap_setCell_same _ k 1 _ _ b' h1
  have h3 := heap_setCell_same _ k 2 _ _ c' h2
  simpa using h3
theorem set3_other {w : World} {k j : Nat} {a' b' c' : Value} (h : j ≠ k) : (((w.setCell ⟨k, 0, none⟩ a').setCell ⟨k, 1, none⟩ b').setCell ⟨k, 2, none⟩ c').heap[j]? = w.heap[j]? := by
  rw [heap_setCell_other _ _ _ _ (by simpa using h), heap_setCell_other _ _ _ _ (by simpa using h), heap_setCell_other _ _ _ _ (by simpa using h)]

end Go.Proofs.Ytdidmjgilnhncaa
