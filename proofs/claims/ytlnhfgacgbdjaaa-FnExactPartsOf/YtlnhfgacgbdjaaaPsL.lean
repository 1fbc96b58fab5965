/- Proved here: parts by their first boxes: the rows that the model fills, as lists; rows of the call's own that grow one by one. -/
import Derived.Test.YtlnhfgacgbdjaaaSpMM
import Derived.Test.YtlnhfgacgbdjaaaPsP
namespace Go.Proofs.Ytlnhfgacgbdjaaa
open Go.RowKit
set_option linter.unusedVariables false
set_option linter.unusedSimpArgs false

/-- The first boxes ahead of i. -/
def firstsL (F : Nat → Nat) : Nat → List Nat
  | 0 => []
  | i + 1 => if F i = i then firstsL F i ++ [i] else firstsL F i
theorem firstsL_len (F : Nat → Nat) (i : Nat) : (firstsL F i).length = cnt F i := by
  induction i with
  | zero => rfl
  | succ i ih => simp only [firstsL, cnt]; split <;> simp [ih]
theorem firstsL_mem {F : Nat → Nat} {i p : Nat} : p ∈ firstsL F i ↔ p < i ∧ F p = p := by
  induction i with
  | zero => simp [firstsL]
  | succ i ih =>
    simp only [firstsL]
    split
    · rename_i h
      rw [List.mem_append, ih]
      constructor
      · rintro (⟨h1, h2⟩ | h1)
        · exact ⟨by omega, h2⟩
        · have : p = i := by simpa using h1
          subst this; exact ⟨by omega, h⟩
      · rintro ⟨h1, h2⟩
        by_cases e : p = i
        · exact Or.inr (by simp [e])
        · exact Or.inl ⟨by omega, h2⟩
    · rename_i h
      rw [ih]
      constructor
      · rintro ⟨h1, h2⟩; exact ⟨by omega, h2⟩
      · rintro ⟨h1, h2⟩
        refine ⟨?_, h2⟩
        by_cases e : p = i
        · subst e; exact absurd h2 h
        · omega
theorem firstsL_at {F : Nat → Nat} {i p : Nat} (hp : p < i) (hF : F p = p) : (firstsL F i)[cnt F p]? = some p := by
  induction i with
  | zero => omega
  | succ i ih =>
    simp only [firstsL]
    by_cases e : p = i
    · subst e
      rw [if_pos hF, List.getElem?_append_right (by rw [firstsL_len]; exact Nat.le_refl _), firstsL_len]
      simp
    · have h1 := ih (by omega)
      split
      · rw [List.getElem?_append_left ?_]
        · exact h1
        · obtain ⟨h2, _⟩ := List.getElem?_eq_some_iff.1 h1; exact h2
      · exact h1
theorem firstsL_inj {F : Nat → Nat} {i a b : Nat} (ha : a < (firstsL F i).length) (hb : b < (firstsL F i).length) (h : (firstsL F i)[a] = (firstsL F i)[b]) : a = b := by
  have key : ∀ c (hc : c < (firstsL F i).length), cnt F ((firstsL F i)[c]) = c := by
    clear h ha hb
    induction i with
    | zero => intro c hc; exact absurd hc (by simp [firstsL])
    | succ i ih =>
      intro c hc
      by_cases e : F i = i
      · have hl : firstsL F (i + 1) = firstsL F i ++ [i] := by simp [firstsL, e]
        simp only [hl] at hc ⊢
        by_cases hc' : c < (firstsL F i).length
        · rw [List.getElem_append_left hc']; exact ih c hc'
        · have ec : c = (firstsL F i).length := by simp at hc; omega
          subst ec
          simp [firstsL_len]
      · have hl : firstsL F (i + 1) = firstsL F i := by simp [firstsL, e]
        simp only [hl] at hc ⊢
        exact ih c hc
  have h1 := key a ha
  have h2 := key b hb
  rw [h] at h1
  omega
/-- The rows, once the boxes ahead of i have been put. -/
def rowsL (s : List Bx) (F : Nat → Nat) (i : Nat) : List (List Bx) := (firstsL F i).map fun p => selB s F p i
theorem rowsL_len (s : List Bx) (F : Nat → Nat) (i : Nat) : (rowsL s F i).length = cnt F i := by simp [rowsL, firstsL_len]
theorem rowsL_row (s : List Bx) (F : Nat → Nat) (i k : Nat) : ((rowsL s F i).getD k []).length ≤ i := by
  unfold rowsL
  rw [List.getD_eq_getElem?_getD, List.getElem?_map]
  cases (firstsL F i)[k]? with
  | none => simp
  | some p => simpa using selB_len s F p i
theorem selB_none {s : List Bx} {F : Nat → Nat} {p i : Nat} (h : ∀ a, a < i → F a ≠ p) : selB s F p i = [] := by
  induction i with
  | zero => rfl
  | succ i ih => simp only [selB]; rw [if_neg (h i (by omega)), ih fun a ha => h a (by omega)]
/-- Box i, a first one: a new row. -/
theorem rowsL_new {E : Nat → Nat → Prop} {n : Nat} {F : Nat → Nat} (hL : Lab E n F) {s : List Bx} {i : Nat} (hi : i < n) (hF : F i = i) : rowsL s F (i + 1) = rowsL s F i ++ [[bat s i]] := by
  unfold rowsL
  simp only [firstsL, if_pos hF, List.map_append, List.map_cons, List.map_nil]
  congr 1
  · apply List.map_congr_left
    intro p hp
    simp only [selB]
    rw [if_neg]
    rw [hF]
    have := (firstsL_mem.1 hp).1
    omega
  · simp only [selB, if_pos hF]
    rw [selB_none]
    · rfl
    · intro a ha e
      have := hL.le a (by omega)
      omega
/-- Box i, of a row that stands. -/
theorem rowsL_more {E : Nat → Nat → Prop} {n : Nat} {F : Nat → Nat} (hL : Lab E n F) {s : List Bx} {i : Nat} (hi : i < n) (hF : F i ≠ i) : cnt F (F i) < (rowsL s F i).length ∧ rowsL s F (i + 1) = (rowsL s F i).set (cnt F (F i)) ((rowsL s F i).getD (cnt F (F i)) [] ++ [bat s i]) := by
  have hp : F i < i := by have := hL.le i hi; omega
  have hat := firstsL_at (i := i) hp (hL.own i hi)
  obtain ⟨hlt, hget⟩ := List.getElem?_eq_some_iff.1 hat
  have hlt' : cnt F (F i) < (rowsL s F i).length := by rw [rowsL_len]; have h := hlt; rw [firstsL_len] at h; exact h
  refine ⟨hlt', ?_⟩
  have hr : (rowsL s F i).getD (cnt F (F i)) [] = selB s F (F i) i := by
    unfold rowsL
    rw [List.getD_eq_getElem?_getD, List.getElem?_map, hat]
    rfl
  rw [hr]
  apply List.ext_getElem?
  intro q
  have e1 : rowsL s F (i + 1) = (firstsL F i).map fun p => selB s F p (i + 1) := by unfold rowsL; simp only [firstsL, if_neg hF]
  rw [e1, List.getElem?_map, List.getElem?_set]
  by_cases eq : cnt F (F i) = q
  · subst eq
    rw [if_pos rfl, if_pos hlt', hat]
    simp only [Option.map_some, selB, if_true]
  · rw [if_neg eq]
    unfold rowsL
    rw [List.getElem?_map]
    by_cases hq : q < (firstsL F i).length
    · rw [List.getElem?_eq_getElem hq]
      simp only [Option.map_some, selB]
      rw [if_neg]
      intro e
      refine eq (firstsL_inj hlt hq ?_)
      rw [hget, e]
    · rw [List.getElem?_eq_none (by omega)]; rfl
/-- All rows, each in the one form: the parts. -/
theorem rowsL_parts (s : List Bx) (F : Nat → Nat) (n : Nat) : (rowsL s F n).map (fun l => opOf (takesK 1) l []) = partsL s F n n := by
  have h : ∀ k, (firstsL F k).map (fun p => opOf (takesK 1) (selB s F p n) []) = partsL s F n k := by
    intro k
    induction k with
    | zero => rfl
    | succ k ih =>
      simp only [firstsL, partsL]
      split
      · simp [ih]
      · exact ih
  rw [← h n]
  simp [rowsL]

end Go.Proofs.Ytlnhfgacgbdjaaa
