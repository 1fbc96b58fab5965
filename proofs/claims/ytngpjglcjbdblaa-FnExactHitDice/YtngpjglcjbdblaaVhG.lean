/- Proved here: grids made of rows. -/
import Derived.Test.YtngpjglcjbdblaaRwM
import Derived.Test.YtngpjglcjbdblaaVkE
import Derived.Test.YtngpjglcjbdblaaVhM
namespace Go.Proofs.Ytngpjglcjbdblaa
open Go.RowKit
set_option linter.unusedVariables false
set_option linter.unusedSimpArgs false

theorem RI.made {w : World} {B g H W : Nat} (h : w.ownsRow B 24 1 (.slice (some ⟨g, 0, none⟩) H H) H (madeCells (Value.cells (.slice none 0 0)) (H * 1)).toList) : RI w B (.slice (some ⟨g, 0, none⟩) H H) (zK H W 0) (List.replicate H (.slice none 0 0)) := by
  rw [show (Value.slice none 0 0).cells = #[Value.slice none 0 0] from rfl, toList_madeCells_one] at h
  refine ⟨?_, fun i hi => ?_, fun i j _ hi _ g hg => ?_⟩
  · rw [zK_len]
    simpa using h
  · rw [zK_len] at hi
    have e1 : rat (List.replicate H (Value.slice none 0 0)) i = .slice none 0 0 := by simp [rat, hi]
    rw [e1, zK_zero]
    have e2 : (List.replicate H ([] : List Int)).getD i [] = [] := by simp [hi]
    rw [e2]
    exact World.ownsRow_nil _ _ _ _
  · rw [zK_len] at hi
    have e1 : rat (List.replicate H (Value.slice none 0 0)) i = .slice none 0 0 := by simp [rat, hi]
    rw [e1] at hg
    cases hg
/-- A cell of the list of rows. -/
theorem RI.cellk {w : World} {B g H c : Nat} {ls : List (List Int)} {vs : List Value} (h : RI w B (.slice (some ⟨g, 0, none⟩) H c) ls vs) {k : Nat} (hk : k < ls.length) :
    w.cell? ⟨g, k, none⟩ = some (rat vs k) ∧ w.frozen? ⟨g, k, none⟩ = false ∧ g < w.heap.size := by
  obtain ⟨_, _, e⟩ := h.form
  injection e with e1 e2 e3
  have ho := h.o
  rw [← e2] at ho hk
  have hl := h.len
  refine ⟨?_, World.ownsRow.frozenAt ho k, (World.ownsRow.lt ho g rfl).2⟩
  rw [World.ownsRow.cellAt ho k (by omega)]
  simp [rat, List.getElem?_eq_getElem (show k < vs.length by omega)]
/-- A row of a grid, in memory. -/
theorem RI.row {w : World} {B g H c W : Nat} {G : Nat → Nat → Int} {vs : List Value} (h : RI w B (.slice (some ⟨g, 0, none⟩) H c) (gR G H W) vs) {j i : Nat} (hj : j < H) (hi : i < W) :
    ∃ gj cj, rat vs j = .slice (some ⟨gj, 0, none⟩) W cj ∧ w.cell? ⟨gj, i, none⟩ = some (.int .i64 (G j i)) ∧ w.frozen? ⟨gj, i, none⟩ = false ∧ gj < w.heap.size ∧ B ≤ gj ∧ gj ≠ g ∧
      ∀ z : Int, RI (w.setCell ⟨gj, i, none⟩ (.int .i64 z)) B (.slice (some ⟨g, 0, none⟩) H c) (gR (fun a b => if a = j ∧ b = i then z else G a b) H W) vs := by
  have hb := h.bx j (by rw [gR_len]; exact hj)
  rw [gR_row hj] at hb
  have hlen : ((List.range W).map (G j)).length = W := by simp
  obtain ⟨gj, cj, e, hB, hl, hc⟩ : ∃ gj cj, rat vs j = .slice (some ⟨gj, 0, none⟩) W cj ∧ B ≤ gj ∧ gj < w.heap.size ∧ True := by
    rcases hb.2 with ⟨h1, h0⟩ | ⟨gj, cap, cur, h1, h2, h3, _⟩
    · rw [hlen] at h0; omega
    · rw [hlen] at h1
      have := World.ownsRow.lt hb gj (by rw [h1]; rfl)
      exact ⟨gj, cap, h1, h2, this.2, trivial⟩
  rw [e] at hb
  obtain ⟨t1, t2⟩ := hb.cellAt (j := i) (y := G j i) (by simp [hi])
  have hne : gj ≠ g := h.rowNot rfl (by rw [← e] at hb; exact hb) (by rw [e]; rfl)
  refine ⟨gj, cj, e, t1, t2, hl, hB, hne, fun z => ?_⟩
  have h9 := h.turn (k := j) (w' := w.setCell ⟨gj, i, none⟩ (.int .i64 z)) (l := ((List.range W).map (G j)).set i z) (by rw [gR_len]; exact hj) (by rw [e]; exact hb.put i z) (fun q hq => heap_setCell_other _ _ _ _ (fun e9 => hq (by rw [e]; exact congrArg some (by simpa using e9.symm))))
  rw [gR_set hj] at h9
  exact h9
/-- All blocks of a grid stay. -/
theorem RI.keepAll {w w' : World} {B : Nat} {v : Value} {ls : List (List Int)} {vs : List Value} (h : RI w B v ls vs) (hq : ∀ q, B ≤ q → q < w.heap.size → (∃ cs T, w.heap[q]? = some (.cells cs T (0, 0)) ∧ (T = 2 ∨ T = 24)) → w'.heap[q]? = w.heap[q]?) : RI w' B v ls vs :=
  h.kept (fun g hg => by obtain ⟨h1, h2, cs, h3⟩ := rowBlk h.o hg; exact hq g h1 h2 ⟨cs, _, h3, Or.inr rfl⟩) (fun i hi g hg => by obtain ⟨h1, h2, cs, h3⟩ := rowBlk (h.bx i hi) hg; exact hq g h1 h2 ⟨cs, _, h3, Or.inl rfl⟩)

end Go.Proofs.Ytngpjglcjbdblaa
