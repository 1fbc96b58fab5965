/- Proved here: a world behind one whose first two blocks of its own are told. (And ahead of it: Proved here: two lists of numbers of the call's own: small facts.) -/
import Derived.Test.YtkacfjbhkgdpdaaLwS
import Derived.Test.YtkacfjbhkgdpdaaNlQ
namespace Go.Proofs.Ytkacfjbhkgdpdaa
open Go.RowKit
set_option linter.unusedVariables false
set_option linter.unusedSimpArgs false

/-- Two lists of numbers of the call's own, in blocks of their own. -/
def OwL (V : World) (B : Nat) (v1 v2 : Value) (L E : List Int) : Prop := IS V B v1 L ∧ IS V B v2 E ∧ ∀ g, v1.ownBlock = some g → v2.ownBlock ≠ some g
def BkL (v1 v2 : Value) (q : Nat) : Prop := v1.ownBlock = some q ∨ v2.ownBlock = some q
theorem OwL.blk {V : World} {B : Nat} {v1 v2 : Value} {L E : List Int} (h : OwL V B v1 v2 L E) {q : Nat} (hq : BkL v1 v2 q) : B ≤ q ∧ q < V.heap.size := by
  rcases hq with hq | hq
  · exact IS.lt h.1 q hq
  · exact IS.lt h.2.1 q hq
theorem OwL.keep {V V' : World} {B : Nat} {v1 v2 : Value} {L E : List Int} (h : OwL V B v1 v2 L E) (hk : ∀ q, BkL v1 v2 q → V'.heap[q]? = V.heap[q]?) : OwL V' B v1 v2 L E :=
  ⟨h.1.kept fun q hq => hk q (Or.inl hq), h.2.1.kept fun q hq => hk q (Or.inr hq), h.2.2⟩
theorem OwL.low {V : World} {A B : Nat} {v1 v2 : Value} {L E : List Int} (h : OwL V B v1 v2 L E) (hab : A ≤ B) : OwL V A v1 v2 L E := ⟨h.1.low hab, h.2.1.low hab, h.2.2⟩
theorem OwL.form1 {V : World} {B : Nat} {v1 v2 : Value} {L E : List Int} (h : OwL V B v1 v2 L E) : ∃ a c, v1 = .slice a L.length c := h.1.form
theorem OwL.form2 {V : World} {B : Nat} {v1 v2 : Value} {L E : List Int} (h : OwL V B v1 v2 L E) : ∃ a c, v2 = .slice a E.length c := h.2.1.form
def RdL (V : World) (v1 v2 : Value) (L E : List Int) : Prop := RdI V v1 L ∧ RdI V v2 E
theorem OwL.rd {V : World} {B : Nat} {v1 v2 : Value} {L E : List Int} (h : OwL V B v1 v2 L E) : RdL V v1 v2 L E := ⟨h.1.rg, h.2.1.rg⟩
def LtL (v1 v2 : Value) (Z : Nat) : Prop := ∀ q, BkL v1 v2 q → q < Z
theorem OwL.lt {V : World} {B : Nat} {v1 v2 : Value} {L E : List Int} (h : OwL V B v1 v2 L E) : LtL v1 v2 V.heap.size := fun q hq => (h.blk hq).2
theorem Ow.rL2 {V : World} {B hi : Nat} {v1 v2 : Value} {L E : List Int} (h : OwL V B v1 v2 L E) (h1 : B ≤ hi) (h2 : hi ≤ V.heap.size) (hh : LtL v1 v2 hi) : Ow B hi (fun V => OwL V B v1 v2 L E) V :=
  Ow.and (Ow.row h.1 h1 h2 fun g hg => hh g (Or.inl hg)) (Ow.and (Ow.row h.2.1 h1 h2 fun g hg => hh g (Or.inr hg)) ⟨h.2.2, fun _ _ => h.2.2, ⟨h1, h2⟩⟩)
theorem Ow.rAllL2 {V V0 : World} {v1 v2 : Value} {L E : List Int} (h : OwL V V0.heap.size v1 v2 L E) (hb : Below V0.heap.size V0 V) : Ow V0.heap.size V.heap.size (fun V => OwL V V0.heap.size v1 v2 L E) V :=
  Ow.rL2 h hb.size (Nat.le_refl _) h.lt
def MkL2 (V : World) (B : Nat) (v1 v2 : Value) (n m : Nat) : Prop := V.ownsRow B 2 1 v1 n (mkV 1 n) ∧ V.ownsRow B 2 1 v2 m (mkV (1 + (n : Int)) m)
theorem Ow.mL2 {V : World} {B hi n m : Nat} {v1 v2 : Value} (h : MkL2 V B v1 v2 n m) (h1 : B ≤ hi) (h2 : hi ≤ V.heap.size) (hh : LtL v1 v2 hi) : Ow B hi (fun V => MkL2 V B v1 v2 n m) V :=
  Ow.and (Ow.row h.1 h1 h2 fun g hg => hh g (Or.inl hg)) (Ow.row h.2 h1 h2 fun g hg => hh g (Or.inr hg))
theorem three_L {w : World} {k : Nat} {a b c : Value} {T : TypeId} (h : w.heap[k]? = some (.cells #[a, b, c] T)) :
    w.cell? ⟨k, 0, none⟩ = some a ∧ w.cell? ⟨k, 1, none⟩ = some b ∧ w.cell? ⟨k, 2, none⟩ = some c ∧ k < w.heap.size := ⟨cellOf h 0 rfl, cellOf h 1 rfl, cellOf h 2 rfl, ltOf h⟩
theorem own_formL {w : World} {B n : Nat} {v : Value} {ys : List Value} (h : w.ownsRow B 2 1 v n ys) : ∃ a c, v = .slice a n c := by
  rcases h.2 with ⟨rfl, h0⟩ | ⟨g, cap, cur, rfl, _⟩
  · exact ⟨none, 0, by rw [h0]⟩
  · exact ⟨_, _, rfl⟩

theorem tw_at1 (w : World) (a b : Obj) : ((w.alloc a).alloc b).heap[w.heap.size + 1]? = some b := by have := heap_alloc_new (w.alloc a) b; simpa using this
theorem tw_at2 (w : World) (a b c : Obj) : (((w.alloc a).alloc b).alloc c).heap[w.heap.size + 2]? = some c := by have := heap_alloc_new ((w.alloc a).alloc b) c; simpa using this
theorem RdL.below {w w' : World} {va vb : Value} {s t : List Int} (h : RdL w va vb s t) (hb : Below w.heap.size w w') : RdL w' va vb s t := ⟨RG.below h.1 hb, RG.below h.2 hb⟩
theorem tw_three {w : World} {k : Nat} {a b c : Value} {T : TypeId} (h : w.heap[k]? = some (.cells #[a, b, c] T)) :
    w.cell? ⟨k, 0, none⟩ = some a ∧ w.cell? ⟨k, 1, none⟩ = some b ∧ w.cell? ⟨k, 2, none⟩ = some c ∧ (∀ i, w.frozen? ⟨k, i, none⟩ = false) ∧ k < w.heap.size :=
  ⟨cellOf h 0 rfl, cellOf h 1 rfl, cellOf h 2 rfl, frozOf h, ltOf h⟩

end Go.Proofs.Ytkacfjbhkgdpdaa

namespace Go.Proofs.Ytkacfjbhkgdpdaa
open Go.RowKit
set_option linter.unusedVariables false
set_option linter.unusedSimpArgs false

structure S2 (w : World) (o p : Obj) (W : World) : Prop where
  bl : Below w.heap.size w W
  b0 : W.heap[w.heap.size]? = some o
  b1 : W.heap[w.heap.size + 1]? = some p
theorem S2.next {w : World} {o p : Obj} {V V' : World} (h : S2 w o p V) (hb : Below V.heap.size V V') : S2 w o p V' :=
  ⟨h.bl.trans (hb.mono h.bl.size), (hb.block _ (ltOf h.b0)).trans h.b0, (hb.block _ (ltOf h.b1)).trans h.b1⟩
theorem S2.new (w : World) (o p : Obj) : S2 w o p ((w.alloc o).alloc p) :=
  ⟨by (repeat' (first | (with_reducible exact Below.refl _ _) | (with_reducible assumption) | (with_reducible refine Below.setCell ?_ ?_ _) | (with_reducible refine Below.alloc ?_ ?_ _) | (with_reducible refine below_drewN ?_ _) | (with_reducible refine Below.drew ?_) | (with_reducible exact Nat.le_refl _) | omega | (simp; done) | (simp; omega))), (Below.heap_alloc _ _ _ (by simp)).trans (heap_alloc_new w _), tw_at1 w _ _⟩
theorem tw_two {w : World} {k : Nat} {a b : Value} {T : TypeId} (h : w.heap[k]? = some (.cells #[a, b] T)) :
    w.cell? ⟨k, 0, none⟩ = some a ∧ w.cell? ⟨k, 1, none⟩ = some b ∧ (∀ i, w.frozen? ⟨k, i, none⟩ = false) ∧ k < w.heap.size :=
  ⟨cellOf h 0 rfl, cellOf h 1 rfl, frozOf h, ltOf h⟩

end Go.Proofs.Ytkacfjbhkgdpdaa
