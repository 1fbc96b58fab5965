/- GrowShape's answer, as a function of the list and of the number: grC, grL. Arithmetic alone. (And ahead of it: Proved here: boxes of a list in the one form, and the cells of a list. No condition on the program.) -/
import Derived.Test.YtokdpgabmifdjaaShCount
import Derived.Test.YtokdpgabmifdjaaIForm
import Derived.Test.YtokdpgabmifdjaaTurnM
import Derived.Test.YtokdpgabmifdjaaBnd0
namespace Go.Proofs.Ytokdpgabmifdjaa
open Go.RowKit
set_option linter.unusedVariables false
set_option linter.unusedSimpArgs false

/-- A box of the one form has cells. -/
theorem form_in : ∀ {rows : List (List Bx)} {below : List Bx}, FormB below rows → ∀ b ∈ rows.flatten, b.x0 < b.x1 ∧ b.y0 < b.y1 := by
  intro rows
  induction rows with
  | nil => intro below _ b hb; simp at hb
  | cons r rest ih =>
    intro below h b hb
    simp only [List.flatten_cons, List.mem_append] at hb
    rcases hb with hb | hb
    · have h1 := h.2.2.1.y b hb
      have h2 := h.2.1
      omega
    · exact ih h.2.2.2.2.2 b hb
theorem cell_of {l : List Bx} {b : Bx} {x y : Int} (hb : b ∈ l) (h : b.x0 ≤ x ∧ x < b.x1 ∧ b.y0 ≤ y ∧ y < b.y1) : Cell l x y := by
  refine ⟨b, ?_, h.1, h.2.1⟩
  unfold rowK
  rw [List.mem_filter]
  refine ⟨hb, ?_⟩
  simp
  omega
theorem shape_rows {s : List Bx} (h : shapeK s = 0) : ∃ rows, s = rows.flatten ∧ FormB [] rows := by
  have hb : boxesK s = 0 := by
    unfold shapeK at h
    split at h
    · assumption
    · rename_i h0; exact absurd h h0
  have hz := (boxesK_zero hb).2
  have hf : inForm s.length [] s = true := by
    unfold shapeK at h
    rw [if_pos hb] at h
    split at h
    · assumption
    · cases h
  exact inForm_rows s.length [] s (Nat.le_refl _) (fun b hb => ⟨(hz b hb).1, (hz b hb).2.1⟩) ⟨0, 0, Canon.nil 0 0⟩ hf
theorem cell_iff (l : List Bx) (x y : Int) : Cell l x y ↔ ∃ b ∈ l, b.x0 ≤ x ∧ x < b.x1 ∧ b.y0 ≤ y ∧ y < b.y1 := by
  unfold Cell Cov rowK
  constructor
  · rintro ⟨b, hb, h1, h2⟩
    rw [List.mem_filter] at hb
    have h3 : b.y0 ≤ y ∧ y < b.y1 := by simpa using hb.2
    exact ⟨b, hb.1, h1, h2, h3.1, h3.2⟩
  · rintro ⟨b, hb, h1, h2, h3, h4⟩
    exact ⟨b, List.mem_filter.2 ⟨hb, by simp; omega⟩, h1, h2⟩
/-- A list in the one form has boxes with cells. -/
theorem opOf_tall (K : Bool → Bool → Bool) (hK : K false false = false) (s q : List Bx) : ∀ b ∈ opOf K s q, b.x0 < b.x1 ∧ b.y0 < b.y1 := by
  obtain ⟨rows, hr, hF⟩ := opOf_form K hK s q
  rw [hr]
  exact form_in hF

end Go.Proofs.Ytokdpgabmifdjaa

namespace Go.Proofs.Ytokdpgabmifdjaa
open Go.RowKit
set_option linter.unusedVariables false
set_option linter.unusedSimpArgs false

def growB (d : Int) (b : Bx) : Bx := ⟨b.x0 - d, b.y0 - d, b.x1 + d, b.y1 + d⟩
def grS (s : List Bx) (d : Int) : List Bx := s.map (growB d)
def misL (s : List Bx) : List Bx := opOf (takesK 3) [growB 1 (bnd s s.length)] s
def shL (s : List Bx) (d : Int) : List Bx := if s.length = 0 then [] else opOf (takesK 3) s (grS (misL s) d)
def grC (s : List Bx) (d : Int) : Int :=
  if shapeK s = 0 then (if d < -1000 ∨ 1000 < d then 3 else if d < 0 then toldC (shL s (-d)).length else if firstK (grS s d) = 0 then toldC (opOf (takesK 1) (grS s d) []).length else firstK (grS s d)) else shapeK s
def grL (s : List Bx) (d : Int) : List Bx :=
  if shapeK s = 0 then (if d < -1000 ∨ 1000 < d then [] else if d < 0 then toldL (shL s (-d)) else if firstK (grS s d) = 0 then toldL (opOf (takesK 1) (grS s d) []) else []) else []
theorem toldL_len (l : List Bx) : (toldL l).length ≤ 150 := by
  unfold toldL; split
  · assumption
  · simp
theorem grL_length (s : List Bx) (d : Int) : (grL s d).length ≤ 150 := by
  unfold grL
  split
  · split
    · simp
    · split
      · exact toldL_len _
      · split
        · exact toldL_len _
        · simp
  · simp
theorem gr_far {s : List Bx} {d : Int} (hs0 : shapeK s = 0) (h : d < -1000 ∨ 1000 < d) : grC s d = 3 ∧ grL s d = [] := by
  constructor
  · unfold grC; rw [if_pos hs0, if_pos h]
  · unfold grL; rw [if_pos hs0, if_pos h]
theorem gr_neg {s : List Bx} {d : Int} (hs0 : shapeK s = 0) (h : -1000 ≤ d ∧ d < 0) : grC s d = toldC (shL s (-d)).length ∧ grL s d = toldL (shL s (-d)) := by
  have hr : ¬ (d < -1000 ∨ 1000 < d) := by omega
  constructor
  · unfold grC; rw [if_pos hs0, if_neg hr, if_pos h.2]
  · unfold grL; rw [if_pos hs0, if_neg hr, if_pos h.2]
theorem gr_pos {s : List Bx} {d : Int} (hs0 : shapeK s = 0) (h : 0 ≤ d ∧ d ≤ 1000) (hf : firstK (grS s d) = 0) : grC s d = toldC (opOf (takesK 1) (grS s d) []).length ∧ grL s d = toldL (opOf (takesK 1) (grS s d) []) := by
  have hr : ¬ (d < -1000 ∨ 1000 < d) := by omega
  have hd : ¬ d < 0 := by omega
  constructor
  · unfold grC; rw [if_pos hs0, if_neg hr, if_neg hd, if_pos hf]
  · unfold grL; rw [if_pos hs0, if_neg hr, if_neg hd, if_pos hf]
theorem gr_out {s : List Bx} {d : Int} (hs0 : shapeK s = 0) (h : 0 ≤ d ∧ d ≤ 1000) (hf : ¬ firstK (grS s d) = 0) : grC s d = firstK (grS s d) ∧ grL s d = [] := by
  have hr : ¬ (d < -1000 ∨ 1000 < d) := by omega
  have hd : ¬ d < 0 := by omega
  constructor
  · unfold grC; rw [if_pos hs0, if_neg hr, if_neg hd, if_neg hf]
  · unfold grL; rw [if_pos hs0, if_neg hr, if_neg hd, if_neg hf]
theorem takes1 : takesK 1 = or := by funext p q; simp [takesK]

theorem join_le (a b : Bx) : (joinB a b).x0 ≤ a.x0 ∧ (joinB a b).y0 ≤ a.y0 ∧ a.x1 ≤ (joinB a b).x1 ∧ a.y1 ≤ (joinB a b).y1 ∧ (joinB a b).x0 ≤ b.x0 ∧ (joinB a b).y0 ≤ b.y0 ∧ b.x1 ≤ (joinB a b).x1 ∧ b.y1 ≤ (joinB a b).y1 := by
  simp only [joinB, minI, maxI]
  refine ⟨?_, ?_, ?_, ?_, ?_, ?_, ?_, ?_⟩ <;> split <;> omega
/-- The least box has each box, and no more than it must. -/
theorem fold_join : ∀ (l : List Bx) (a : Bx), ((l.foldl joinB a).x0 ≤ a.x0 ∧ (l.foldl joinB a).y0 ≤ a.y0 ∧ a.x1 ≤ (l.foldl joinB a).x1 ∧ a.y1 ≤ (l.foldl joinB a).y1) ∧
    (∀ b ∈ l, (l.foldl joinB a).x0 ≤ b.x0 ∧ (l.foldl joinB a).y0 ≤ b.y0 ∧ b.x1 ≤ (l.foldl joinB a).x1 ∧ b.y1 ≤ (l.foldl joinB a).y1) ∧
    ∀ (lo hi : Int), (∀ b ∈ a :: l, lo ≤ b.x0 ∧ lo ≤ b.y0 ∧ b.x1 ≤ hi ∧ b.y1 ≤ hi) → lo ≤ (l.foldl joinB a).x0 ∧ lo ≤ (l.foldl joinB a).y0 ∧ (l.foldl joinB a).x1 ≤ hi ∧ (l.foldl joinB a).y1 ≤ hi := by
  intro l
  induction l with
  | nil => intro a; exact ⟨⟨Int.le_refl _, Int.le_refl _, Int.le_refl _, Int.le_refl _⟩, (fun b hb => by cases hb), (fun lo hi h => h a (by simp))⟩
  | cons c t ih =>
    intro a
    rw [List.foldl_cons]
    obtain ⟨h1, h2, h3⟩ := ih (joinB a c)
    have hj := join_le a c
    refine ⟨⟨by omega, by omega, by omega, by omega⟩, fun b hb => ?_, fun lo hi h => h3 lo hi fun b hb => ?_⟩
    · rcases List.mem_cons.1 hb with rfl | hb
      · refine ⟨by omega, by omega, by omega, by omega⟩
      · exact h2 b hb
    · rcases List.mem_cons.1 hb with rfl | hb
      · have e1 := h a (by simp)
        have e2 := h c (by simp)
        simp only [joinB, minI, maxI]
        refine ⟨?_, ?_, ?_, ?_⟩ <;> split <;> omega
      · exact h b (by simp [hb])
theorem bat_mem {s : List Bx} (h : 0 < s.length) : bat s 0 ∈ s := by
  cases s with
  | nil => simp at h
  | cons b t => simp [bat]
theorem bnd_all {s : List Bx} (hp : 0 < s.length) : (∀ b ∈ s, (bnd s s.length).x0 ≤ b.x0 ∧ (bnd s s.length).y0 ≤ b.y0 ∧ b.x1 ≤ (bnd s s.length).x1 ∧ b.y1 ≤ (bnd s s.length).y1) ∧
    ∀ lo hi, (∀ b ∈ s, lo ≤ b.x0 ∧ lo ≤ b.y0 ∧ b.x1 ≤ hi ∧ b.y1 ≤ hi) → lo ≤ (bnd s s.length).x0 ∧ lo ≤ (bnd s s.length).y0 ∧ (bnd s s.length).x1 ≤ hi ∧ (bnd s s.length).y1 ≤ hi := by
  unfold bnd
  rw [List.take_length]
  obtain ⟨_, h2, h3⟩ := fold_join s (bat s 0)
  refine ⟨h2, fun lo hi h => h3 lo hi fun b hb => ?_⟩
  rcases List.mem_cons.1 hb with rfl | hb
  · exact h _ (bat_mem hp)
  · exact h b hb
theorem firstK_zero_iff : ∀ (l : List Bx), firstK l = 0 ↔ ∀ b ∈ l, bfK b = 0 := by
  intro l
  induction l with
  | nil => simp [firstK]
  | cons b t ih =>
    unfold firstK
    by_cases h : bfK b = 0
    · rw [if_pos h, ih]
      simp [h]
    · rw [if_neg h]
      simp [h]
theorem firstK_three : ∀ (l : List Bx), (∀ b ∈ l, bfK b = 0 ∨ bfK b = 3) → firstK l = 0 ∨ firstK l = 3 := by
  intro l
  induction l with
  | nil => intro _; exact Or.inl rfl
  | cons b t ih =>
    intro h
    unfold firstK
    split
    · exact ih fun c hc => h c (by simp [hc])
    · rename_i h0
      exact Or.inr ((h b (by simp)).resolve_left h0)
/-- The first fault of the grown boxes is the grown least box's. -/
theorem grown_fault {s : List Bx} (hp : 0 < s.length) (hs : ∀ b ∈ s, b.x0 < b.x1 ∧ b.y0 < b.y1) {d : Int} (hd : 0 ≤ d) : firstK (grS s d) = bfK (growB d (bnd s s.length)) := by
  obtain ⟨hall, hlim⟩ := bnd_all hp
  obtain ⟨B, hB⟩ : ∃ B, B = bnd s s.length := ⟨_, rfl⟩
  rw [← hB] at hall hlim ⊢
  have h0 := hall _ (bat_mem hp)
  have h00 := hs _ (bat_mem hp)
  have key : ∀ b : Bx, b.x0 < b.x1 → b.y0 < b.y1 → (bfK (growB d b) = 0 ∨ bfK (growB d b) = 3) ∧ (bfK (growB d b) = 0 ↔ (-10000 + d ≤ b.x0 ∧ -10000 + d ≤ b.y0 ∧ b.x1 ≤ 10000 - d ∧ b.y1 ≤ 10000 - d)) := by
    intro b h1 h2
    unfold bfK growB
    simp only
    rw [if_neg (by omega)]
    split
    · refine ⟨Or.inr rfl, ⟨fun h => by omega, fun h => by omega⟩⟩
    · exact ⟨Or.inl rfl, ⟨fun _ => by omega, fun _ => rfl⟩⟩
  have kB := key B (by omega) (by omega)
  have hm : ∀ c ∈ grS s d, ∃ b ∈ s, c = growB d b := by
    intro c hc
    obtain ⟨b, hb, rfl⟩ := List.mem_map.1 hc
    exact ⟨b, hb, rfl⟩
  have h3 := firstK_three (grS s d) (fun c hc => by
    obtain ⟨b, hb, rfl⟩ := hm c hc
    exact (key b (hs b hb).1 (hs b hb).2).1)
  have hiff : firstK (grS s d) = 0 ↔ bfK (growB d B) = 0 := by
    rw [firstK_zero_iff, kB.2]
    constructor
    · intro h
      refine hlim _ _ fun b hb => ?_
      exact (key b (hs b hb).1 (hs b hb).2).2.1 (h _ (List.mem_map.2 ⟨b, hb, rfl⟩))
    · intro h c hc
      obtain ⟨b, hb, rfl⟩ := hm c hc
      have := hall b hb
      exact (key b (hs b hb).1 (hs b hb).2).2.2 (by omega)
  rcases h3 with e | e
  · rw [e, (hiff.1 e)]
  · rcases kB.1 with e2 | e2
    · rw [hiff.2 e2, e2]
    · rw [e, e2]
/-- What is missing around a list: few boxes, none far off. -/
theorem mis_small {s : List Bx} (h : shapeK s = 0) (hp : 0 < s.length) : (misL s).length ≤ 452 ∧ ∀ b ∈ misL s, b.x0 < b.x1 ∧ b.y0 < b.y1 ∧ -10001 ≤ b.x0 ∧ -10001 ≤ b.y0 ∧ b.x1 ≤ 10001 ∧ b.y1 ≤ 10001 := by
  have hz := boxesK_zero (shapeK_zero h)
  obtain ⟨hall, hlim⟩ := bnd_all hp
  have hB := hlim (-10000) 10000 fun b hb => by have := hz.2 b hb; omega
  unfold misL
  obtain ⟨B, hBe⟩ : ∃ B, B = bnd s s.length := ⟨_, rfl⟩
  rw [← hBe] at hall hB ⊢
  constructor
  · obtain ⟨rows, hr, hF⟩ := shape_rows h
    have := less_len (takesK 3) (B := growB 1 B) hF (by rw [← hr]; intro b hb; have := hall b hb; unfold growB; simp only; omega)
    rw [← hr] at this
    have := hz.1
    omega
  · intro b hb
    obtain ⟨rows, hr, hF⟩ := opOf_form (takesK 3) rfl [growB 1 B] s
    have hb' := hb
    rw [hr] at hb'
    have hin := form_in hF b hb'
    have c1 : ∀ x y, Cell (opOf (takesK 3) [growB 1 B] s) x y → B.x0 - 1 ≤ x ∧ x < B.x1 + 1 ∧ B.y0 - 1 ≤ y ∧ y < B.y1 + 1 := by
      intro x y hc
      rw [opOf_cell (takesK 3) rfl] at hc
      have h1 : inK (rowK [growB 1 B] y) x = true := by
        cases e : inK (rowK [growB 1 B] y) x
        · rw [e] at hc; simp [takesK] at hc
        · rfl
      rw [inK_cov] at h1
      obtain ⟨r, hr, h2⟩ := h1
      unfold rowK at hr
      rw [List.mem_filter] at hr
      obtain ⟨hr1, hr2⟩ := hr
      simp only [List.mem_singleton] at hr1
      subst hr1
      have e2 : (growB 1 B).y0 ≤ y ∧ y < (growB 1 B).y1 := by simpa using hr2
      simp only [growB] at e2 h2
      omega
    have a1 := c1 b.x0 b.y0 (cell_of hb (by omega))
    have a2 := c1 (b.x1 - 1) (b.y1 - 1) (cell_of hb (by omega))
    omega
/-- The grown missing cells, in whatever form. -/
theorem sh_same (s : List Bx) (d : Int) (l : List Bx) : opOf (takesK 3) s (opOf (takesK 1) l []) = opOf (takesK 3) s l :=
  opOf_congr (takesK 3) rfl (fun _ _ => Iff.rfl) fun x y => by rw [takes1]; exact opOf_or_cell l x y

end Go.Proofs.Ytokdpgabmifdjaa
