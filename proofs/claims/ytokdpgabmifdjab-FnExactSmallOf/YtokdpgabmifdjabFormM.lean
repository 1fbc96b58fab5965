/- Proved here: boxes of a list in the one form, and the cells of a list. No condition on the program. -/
import Derived.Test.YtokdpgabmifdjabShCount
import Derived.Test.YtokdpgabmifdjabIForm
namespace Go.Proofs.Ytokdpgabmifdjab
open Go.RowKit
set_option linter.unusedVariables false
set_option linter.unusedSimpArgs false

/-- A box of the one form has cells. -/
theorem form_in : ∀ {rows : List (List Bx)} {below : List Bx}, FormB below rows → ∀ b ∈ rows.flatten, b.x0 < b.x1 ∧ b.y0 < b.y1 := by
  intro rows
  induction rows with
  | nil => intro below _ b hb; simp at hb
  | cons r rest ih =>
    intro below h b hb
    simp only [List.flatten_cons, List.mem_append] at hb
    rcases hb with hb | hb
    · have h1 := h.2.2.1.y b hb
      have h2 := h.2.1
      omega
    · exact ih h.2.2.2.2.2 b hb
theorem cell_of {l : List Bx} {b : Bx} {x y : Int} (hb : b ∈ l) (h : b.x0 ≤ x ∧ x < b.x1 ∧ b.y0 ≤ y ∧ y < b.y1) : Cell l x y := by
  refine ⟨b, ?_, h.1, h.2.1⟩
  unfold rowK
  rw [List.mem_filter]
  refine ⟨hb, ?_⟩
  simp
  omega
theorem shape_rows {s : List Bx} (h : shapeK s = 0) : ∃ rows, s = rows.flatten ∧ FormB [] rows := by
  have hb : boxesK s = 0 := by
    unfold shapeK at h
    split at h
    · assumption
    · rename_i h0; exact absurd h h0
  have hz := (boxesK_zero hb).2
  have hf : inForm s.length [] s = true := by
    unfold shapeK at h
    rw [if_pos hb] at h
    split at h
    · assumption
    · cases h
  exact inForm_rows s.length [] s (Nat.le_refl _) (fun b hb => ⟨(hz b hb).1, (hz b hb).2.1⟩) ⟨0, 0, Canon.nil 0 0⟩ hf
theorem cell_iff (l : List Bx) (x y : Int) : Cell l x y ↔ ∃ b ∈ l, b.x0 ≤ x ∧ x < b.x1 ∧ b.y0 ≤ y ∧ y < b.y1 := by
  unfold Cell Cov rowK
  constructor
  · rintro ⟨b, hb, h1, h2⟩
    rw [List.mem_filter] at hb
    have h3 : b.y0 ≤ y ∧ y < b.y1 := by simpa using hb.2
    exact ⟨b, hb.1, h1, h2, h3.1, h3.2⟩
  · rintro ⟨b, hb, h1, h2, h3, h4⟩
    exact ⟨b, List.mem_filter.2 ⟨hb, by simp; omega⟩, h1, h2⟩
/-- A list in the one form has boxes with cells. -/
theorem opOf_tall (K : Bool → Bool → Bool) (hK : K false false = false) (s q : List Bx) : ∀ b ∈ opOf K s q, b.x0 < b.x1 ∧ b.y0 < b.y1 := by
  obtain ⟨rows, hr, hF⟩ := opOf_form K hK s q
  rw [hr]
  exact form_in hF

end Go.Proofs.Ytokdpgabmifdjab
