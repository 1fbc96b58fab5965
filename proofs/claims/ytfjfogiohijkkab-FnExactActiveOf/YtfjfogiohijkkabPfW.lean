/- Proved here: profiles of a call's own. No condition on the program. -/
import Derived.Test.YtfjfogiohijkkabPfM
import Derived.Test.YtfjfogiohijkkabNlJ
import Derived.Test.YtfjfogiohijkkabLwS
import Derived.Test.YtfjfogiohijkkabCpA
import Derived.RangeFuncWrites
namespace Go.Proofs.Ytfjfogiohijkkab
open Go.RowKit
set_option linter.unusedVariables false
set_option linter.unusedSimpArgs false

theorem IS.setE {w : World} {B g n c : Nat} {xs : List Int} (h : IS w B (.slice (some ⟨g, 0, none⟩) n c) xs) (j : Nat) (y : Int) : IS (w.setCell ⟨g, j, none⟩ (.int .i64 y)) B (.slice (some ⟨g, 0, none⟩) n c) (xs.set j y) := by
  have hn : n = xs.length := by obtain ⟨_, _, e⟩ := h.form; injection e
  subst hn
  have := (World.ownsRow.stored h j (.int .i64 y)).1
  unfold IS
  rw [List.length_set, List.map_set]
  exact this
theorem IS.keepE {w w' : World} {B g n c : Nat} {xs : List Int} (h : IS w B (.slice (some ⟨g, 0, none⟩) n c) xs) (hb : w'.heap[g]? = w.heap[g]?) : IS w' B (.slice (some ⟨g, 0, none⟩) n c) xs :=
  h.kept fun q hq => by have e : g = q := Option.some.inj hq; rw [← e]; exact hb
/-- A profile that is made: its box and its cells. -/
structure MP (B K g n c : Nat) (L : List Int) (O : Int) (wr : World) : Prop where
  bx : wr.heap[K]? = some (.cells #[.slice (some ⟨g, 0, none⟩) n c, .int .i64 O] 29)
  is : IS wr B (.slice (some ⟨g, 0, none⟩) n c) L
  ne : g ≠ K
  len : n = L.length
  lo : B ≤ g ∧ B ≤ K
theorem MP.keep {B K g n c : Nat} {L : List Int} {O : Int} {wr w' : World} (h : MP B K g n c L O wr) (hg : w'.heap[g]? = wr.heap[g]?) (hk : w'.heap[K]? = wr.heap[K]?) : MP B K g n c L O w' :=
  ⟨hk.trans h.bx, h.is.keepE hg, h.ne, h.len, h.lo⟩
theorem MP.lt {B K g n c : Nat} {L : List Int} {O : Int} {wr : World} (h : MP B K g n c L O wr) : g < wr.heap.size ∧ K < wr.heap.size := ⟨(IS.lt h.is g rfl).2, ltOf h.bx⟩
theorem MP.below {B K g n c : Nat} {L : List Int} {O : Int} {wr w' : World} (h : MP B K g n c L O wr) (hb : Below wr.heap.size wr w') : MP B K g n c L O w' := h.keep (hb.block _ h.lt.1) (hb.block _ h.lt.2)
theorem MP.setL {B K g n c : Nat} {L : List Int} {O : Int} {wr : World} (h : MP B K g n c L O wr) (j : Nat) (y : Int) : MP B K g n c (L.set j y) O (wr.setCell ⟨g, j, none⟩ (.int .i64 y)) :=
  ⟨(heap_setCell_other _ _ _ _ (fun e => h.ne e.symm)).trans h.bx, h.is.setE j y, h.ne, by rw [List.length_set]; exact h.len, h.lo⟩
theorem MP.setO {B K g n c : Nat} {L : List Int} {O : Int} {wr : World} (h : MP B K g n c L O wr) (y : Int) : MP B K g n c L y (wr.setCell ⟨K, 1, none⟩ (.int .i64 y)) := by
  refine ⟨?_, h.is.keepE (heap_setCell_other _ _ _ _ h.ne), h.ne, h.len, h.lo⟩
  have := heap_setCell_same _ _ 1 _ _ (.int .i64 y) h.bx
  simpa using this
theorem MP.cell {B K g n c : Nat} {L : List Int} {O : Int} {wr : World} (h : MP B K g n c L O wr) {j : Nat} (hj : j < n) : wr.cell? ⟨g, j, none⟩ = some (.int .i64 (L.getD j 0)) ∧ wr.frozen? ⟨g, j, none⟩ = false := by
  have hi := h.is
  rw [h.len] at hi
  refine ⟨?_, World.ownsRow.frozenAt hi j⟩
  have hp : 0 < L.length := by have := h.len; omega
  obtain ⟨g', cap, e, _, _, hx⟩ := h.is.pos hp
  injection e with e1
  injection e1 with e2
  injection e2 with e3
  subst e3
  exact hx j (by have := h.len; omega)
theorem MP.rd {B K g n c : Nat} {L : List Int} {O : Int} {wr : World} (h : MP B K g n c L O wr) : RdI wr (.slice (some ⟨g, 0, none⟩) n c) L := IS.rg h.is
/-- What putting leaves. -/
def ptL (L : List Int) (d : Nat) (a : Int) : List Int := L.set d (L.getD d 0 + a)
def ptO (L : List Int) (O : Int) (d : Nat) (a : Int) : Int := if d < L.length then O else O + a
theorem ptL_len (L : List Int) (d : Nat) (a : Int) : (ptL L d a).length = L.length := by simp [ptL]
structure PU (K g : Nat) (A C : World) : Prop where
  size : C.heap.size = A.heap.size
  oth : ∀ q, q ≠ g → q ≠ K → C.heap[q]? = A.heap[q]?
  ko : KeepsOthers A C
  bl : ∀ B, B ≤ g → B ≤ K → Below B A C
theorem PU.setK {K g : Nat} {A : World} (j : Nat) (v : Value) : PU K g A (A.setCell ⟨K, j, none⟩ v) :=
  ⟨by simp, fun q _ h => heap_setCell_other _ _ _ _ h, KeepsOthers.setCell _ _ _, fun B _ h => (Below.refl _ _).setCell (p := ⟨K, j, none⟩) h _⟩
theorem PU.setG {K g : Nat} {A : World} (j : Nat) (v : Value) : PU K g A (A.setCell ⟨g, j, none⟩ v) :=
  ⟨by simp, fun q h _ => heap_setCell_other _ _ _ _ h, KeepsOthers.setCell _ _ _, fun B h _ => (Below.refl _ _).setCell (p := ⟨g, j, none⟩) h _⟩
theorem PU.trans {K g : Nat} {A C D : World} (h : PU K g A C) (k : PU K g C D) : PU K g A D :=
  ⟨k.size.trans h.size, fun q h1 h2 => (k.oth q h1 h2).trans (h.oth q h1 h2), h.ko.trans k.ko, fun B h1 h2 => (h.bl B h1 h2).trans (k.bl B h1 h2)⟩

end Go.Proofs.Ytfjfogiohijkkab
