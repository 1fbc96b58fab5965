/- Proved here: floats set in a list of the call's own (cut off VrM). -/
import Derived.Test.YtgjdcdhdfhkfcaaFlC
namespace Go.Proofs.Ytgjdcdhdfhkfcaa
open Go.RowKit
set_option linter.unusedVariables false
set_option linter.unusedSimpArgs false

theorem fl_flat (s : List Nat) : s.flatMap flC = s.map (Value.float .f64) := by
  induction s with
  | nil => rfl
  | cons a t ih => rw [List.flatMap_cons, ih]; rfl
theorem OFl.set {w : World} {B g n c : Nat} {q : List Nat} (h : OFl w B (.slice (some ⟨g, 0, none⟩) n c) q) (j x : Nat) : OFl (w.setCell ⟨g, j, none⟩ (.float .f64 x)) B (.slice (some ⟨g, 0, none⟩) n c) (q.set j x) := by
  have hn : n = q.length := h.rg.len
  subst hn
  have h1 := (World.ownsRow.stored (show w.ownsRow B 55 1 (.slice (some ⟨g, 0, none⟩) q.length c) q.length (q.flatMap flC) from h) j (.float .f64 x)).1
  unfold OFl OG
  rw [List.length_set, fl_flat, List.map_set, ← fl_flat]
  exact h1
theorem OFl.zeros {w : World} {B g n : Nat} {ys : List Value} (h : w.ownsRow B 55 1 (.slice (some ⟨g, 0, none⟩) n n) n ys) (hy : ys = List.replicate n (.float .f64 0)) : OFl w B (.slice (some ⟨g, 0, none⟩) n n) (List.replicate n 0) := by
  unfold OFl OG
  rw [fl_flat, List.length_replicate, List.map_replicate, ← hy]
  exact h
theorem OFl.made {w : World} {B g n : Nat} (h : w.ownsRow B 55 1 (.slice (some ⟨g, 0, none⟩) n n) n (madeCells (Value.float .f64 0).cells (n * 1)).toList) : OFl w B (.slice (some ⟨g, 0, none⟩) n n) (List.replicate n 0) := by
  refine OFl.zeros h ?_
  apply List.ext_getElem?
  intro t
  simp only [madeCells, Value.cells, Nat.mul_one]
  by_cases ht : t < n
  · simp [List.getElem?_replicate, ht, Nat.mod_one]
  · simp [List.getElem?_replicate, ht]
theorem OFl.there {w : World} {B g n c : Nat} {q : List Nat} (h : OFl w B (.slice (some ⟨g, 0, none⟩) n c) q) {j : Nat} (hj : j < n) : (∃ u, w.cell? ⟨g, j, none⟩ = some u) ∧ w.frozen? ⟨g, j, none⟩ = false := by
  have hn : n = q.length := h.rg.len
  subst hn
  have h : w.ownsRow B 55 1 (.slice (some ⟨g, 0, none⟩) q.length c) q.length (q.flatMap flC) := h
  refine ⟨?_, World.ownsRow.frozenAt h j⟩
  rw [World.ownsRow.cellAt h j (by omega)]
  exact ⟨_, List.getElem?_eq_getElem (by rw [fl_flat]; simp; omega)⟩

end Go.Proofs.Ytgjdcdhdfhkfcaa
