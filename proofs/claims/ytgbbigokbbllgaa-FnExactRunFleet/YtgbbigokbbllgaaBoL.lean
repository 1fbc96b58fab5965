/- Proved here: lists of truths of the call's own. -/
import Derived.Test.YtgbbigokbbllgaaIntsBase
namespace Go.Proofs.Ytgbbigokbbllgaa
open Go.RowKit
set_option linter.unusedVariables false
set_option linter.unusedSimpArgs false

theorem info_bo : (Try.prog.info? 4).map (fun i => (i.zero, i.size, i.bytes)) = some (some (.bool false), 1, 1) := by kernel_rfl
/-- A list of truths that a slice of the call's own holds. -/
def BO (w : World) (B : Nat) (v : Value) (xs : List Bool) : Prop := w.ownsRow B 4 1 v xs.length (xs.map Value.bool)
theorem BO.form {w : World} {B : Nat} {v : Value} {xs : List Bool} (h : BO w B v xs) : ∃ a c, v = .slice a xs.length c := by
  rcases h.2 with ⟨rfl, h0⟩ | ⟨g, cap, cur, rfl, _⟩
  · exact ⟨none, 0, by rw [h0]⟩
  · exact ⟨_, _, rfl⟩
theorem BO.lt {w : World} {B : Nat} {v : Value} {s : List Bool} (h : BO w B v s) : ∀ g, v.ownBlock = some g → B ≤ g ∧ g < w.heap.size := World.ownsRow.lt h
theorem BO.kept {w w' : World} {B : Nat} {v : Value} {xs : List Bool} (h : BO w B v xs) (hb : ∀ g, v.ownBlock = some g → w'.heap[g]? = w.heap[g]?) : BO w' B v xs := by
  refine ⟨h.1, ?_⟩
  rcases h.2 with h' | ⟨g, cap, cur, rfl, hB, hg, hr⟩
  · exact Or.inl h'
  · exact Or.inr ⟨g, cap, cur, rfl, hB, by rw [hb g rfl]; exact hg, hr⟩
theorem BO.bel {w w' : World} {B : Nat} {v : Value} {s : List Bool} (h : BO w B v s) (hb : Below w.heap.size w w') : BO w' B v s := h.kept fun g hg => hb.block g (h.lt g hg).2
theorem BO.low {w : World} {A B : Nat} {v : Value} {s : List Bool} (h : BO w B v s) (hab : A ≤ B) : BO w A v s := by
  refine ⟨h.1, ?_⟩
  rcases h.2 with h' | ⟨g, cap, cur, rfl, hB, hr⟩
  · exact Or.inl h'
  · exact Or.inr ⟨g, cap, cur, rfl, Nat.le_trans hab hB, hr⟩
theorem BO.atL {w : World} {B g n c : Nat} {xs : List Bool} (h : BO w B (.slice (some ⟨g, 0, none⟩) n c) xs) {j : Nat} (hj : j < n) : w.cell? ⟨g, j, none⟩ = some (.bool (xs.getD j false)) ∧ w.frozen? ⟨g, j, none⟩ = false := by
  have hn : n = xs.length := by obtain ⟨_, _, e⟩ := h.form; injection e
  subst hn
  refine ⟨?_, World.ownsRow.frozenAt h j⟩
  rw [World.ownsRow.cellAt h j (by omega)]
  simp [List.getElem?_map, List.getElem?_eq_getElem hj]
theorem BO.at {w : World} {B n c : Nat} {a : Option Addr} {xs : List Bool} (h : BO w B (.slice a n c) xs) {j : Nat} (hj : j < n) : ∃ g, a = some ⟨g, 0, none⟩ ∧ g < w.heap.size ∧ w.cell? ⟨g, j, none⟩ = some (.bool (xs.getD j false)) := by
  have hn : n = xs.length := by obtain ⟨_, _, e⟩ := h.form; injection e
  rcases h.2 with ⟨h1, h0⟩ | ⟨g, cap, cur, h1, hB, _⟩
  · omega
  · injection h1 with h1 h2 h3
    subst h1
    exact ⟨g, rfl, (h.lt g rfl).2, (h.atL hj).1⟩
theorem BO.setL {w : World} {B g n c : Nat} {xs : List Bool} (h : BO w B (.slice (some ⟨g, 0, none⟩) n c) xs) (j : Nat) (y : Bool) : BO (w.setCell ⟨g, j, none⟩ (.bool y)) B (.slice (some ⟨g, 0, none⟩) n c) (xs.set j y) := by
  have hn : n = xs.length := by obtain ⟨_, _, e⟩ := h.form; injection e
  subst hn
  have := (World.ownsRow.stored h j (.bool y)).1
  unfold BO
  rw [List.length_set, List.map_set]
  exact this
theorem BO.made {w : World} {B g n : Nat} (h : w.ownsRow B 4 1 (.slice (some ⟨g, 0, none⟩) n n) n (madeCells (Value.cells (.bool false)) (n * 1)).toList) : BO w B (.slice (some ⟨g, 0, none⟩) n n) (List.replicate n false) := by
  unfold BO
  have e : (madeCells (Value.cells (.bool false)) (n * 1)).toList = (List.replicate n false).map Value.bool := by
    rw [show (Value.bool false).cells = #[Value.bool false] from rfl, toList_madeCells_one]
    simp
  rw [e] at h
  simpa using h

end Go.Proofs.Ytgbbigokbbllgaa
