/- Proved here: a world behind one whose first two blocks of its own are told. -/
import Derived.Test.YtkacfjbhkgdpdaaTwA
namespace Go.Proofs.Ytkacfjbhkgdpdaa
open Go.RowKit
set_option linter.unusedVariables false
set_option linter.unusedSimpArgs false

structure S2 (w : World) (o p : Obj) (W : World) : Prop where
  bl : Below w.heap.size w W
  b0 : W.heap[w.heap.size]? = some o
  b1 : W.heap[w.heap.size + 1]? = some p
theorem S2.next {w : World} {o p : Obj} {V V' : World} (h : S2 w o p V) (hb : Below V.heap.size V V') : S2 w o p V' :=
  ⟨h.bl.trans (hb.mono h.bl.size), (hb.block _ (ltOf h.b0)).trans h.b0, (hb.block _ (ltOf h.b1)).trans h.b1⟩
theorem S2.new (w : World) (o p : Obj) : S2 w o p ((w.alloc o).alloc p) :=
  ⟨by (repeat' (first | (with_reducible exact Below.refl _ _) | (with_reducible assumption) | (with_reducible refine Below.setCell ?_ ?_ _) | (with_reducible refine Below.alloc ?_ ?_ _) | (with_reducible refine below_drewN ?_ _) | (with_reducible refine Below.drew ?_) | (with_reducible exact Nat.le_refl _) | omega | (simp; done) | (simp; omega))), (Below.heap_alloc _ _ _ (by simp)).trans (heap_alloc_new w _), tw_at1 w _ _⟩
theorem tw_two {w : World} {k : Nat} {a b : Value} {T : TypeId} (h : w.heap[k]? = some (.cells #[a, b] T)) :
    w.cell? ⟨k, 0, none⟩ = some a ∧ w.cell? ⟨k, 1, none⟩ = some b ∧ (∀ i, w.frozen? ⟨k, i, none⟩ = false) ∧ k < w.heap.size :=
  ⟨cellOf h 0 rfl, cellOf h 1 rfl, frozOf h, ltOf h⟩

end Go.Proofs.Ytkacfjbhkgdpdaa
