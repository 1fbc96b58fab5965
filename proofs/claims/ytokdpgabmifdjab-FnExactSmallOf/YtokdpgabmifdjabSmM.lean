/- Proved here: how many boxes all parts have; what of them is small. No condition on the program. -/
import Derived.Test.YtokdpgabmifdjabSmA
import Derived.Test.YtokdpgabmifdjabPoI
import Derived.Test.YtokdpgabmifdjabLawPS
import Derived.Test.YtokdpgabmifdjabShEnds
import Derived.Test.YtokdpgabmifdjabFormM
namespace Go.Proofs.Ytokdpgabmifdjab
set_option linter.unusedVariables false
set_option linter.unusedSimpArgs false

theorem good_op {l : List Bx} (h : Good l) : Good (opOf (takesK 1) l []) := by
  obtain ⟨rows, hr, hF⟩ := opOf_form (takesK 1) rfl l []
  have hv : ∀ b ∈ opOf (takesK 1) l [], b.x0 < b.x1 ∧ b.y0 < b.y1 := fun b hb => form_in hF b (by rw [← hr]; exact hb)
  have he : EndsIn (l.map Bx.x0 ++ l.map Bx.x1) (l.map Bx.y0 ++ l.map Bx.y1) l := fun b hb => by
    simp only [List.mem_append, List.mem_map]
    exact ⟨Or.inl ⟨b, hb, rfl⟩, Or.inr ⟨b, hb, rfl⟩, Or.inl ⟨b, hb, rfl⟩, Or.inr ⟨b, hb, rfl⟩⟩
  have h1 := opOf_ends (K := takesK 1) rfl he (q := []) (fun b hb => by cases hb)
  have bx : ∀ v ∈ l.map Bx.x0 ++ l.map Bx.x1, -10000 ≤ v ∧ v ≤ 10000 := by
    intro v hv
    rcases List.mem_append.1 hv with hv | hv <;> obtain ⟨b, hb, rfl⟩ := List.mem_map.1 hv <;> have := h b hb <;> omega
  have by' : ∀ v ∈ l.map Bx.y0 ++ l.map Bx.y1, -10000 ≤ v ∧ v ≤ 10000 := by
    intro v hv
    rcases List.mem_append.1 hv with hv | hv <;> obtain ⟨b, hb, rfl⟩ := List.mem_map.1 hv <;> have := h b hb <;> omega
  intro b hb
  obtain ⟨e1, e2, e3, e4⟩ := h1 b hb
  have := hv b hb
  have a1 := bx _ e1
  have a2 := bx _ e2
  have a3 := by' _ e3
  have a4 := by' _ e4
  omega
theorem tot_snoc (ls : List (List Bx)) (l : List Bx) : ∀ j, tot (ls ++ [l]) j ≤ tot ls j + (if ls.length < j then l.length else 0) := by
  intro j
  induction j with
  | zero => simp [tot]
  | succ j ih =>
    simp only [tot]
    rcases Nat.lt_trichotomy j ls.length with e | e | e
    · rw [if_neg (by omega)] at ih ⊢
      rw [List.getD_eq_getElem?_getD, List.getD_eq_getElem?_getD, List.getElem?_append_left e]
      omega
    · rw [if_neg (by omega)] at ih
      rw [if_pos (by omega)]
      have e1 : (ls ++ [l]).getD j [] = l := by rw [List.getD_eq_getElem?_getD, List.getElem?_append_right (by omega)]; simp [e]
      rw [e1]; omega
    · rw [if_pos e] at ih
      rw [if_pos (by omega)]
      have e1 : (ls ++ [l]).getD j [] = [] := by rw [List.getD_eq_getElem?_getD, List.getElem?_eq_none (by simp; omega)]; rfl
      rw [e1]; simp; omega
/-- How many of the first j boxes are of parts whose first box stands ahead of k. -/
def sizes (s : List Bx) (F : Nat → Nat) (j : Nat) : Nat → Nat
  | 0 => 0
  | k + 1 => if F k = k then sizes s F j k + (selB s F k j).length else sizes s F j k
theorem sizes_step (s : List Bx) (F : Nat → Nat) (j : Nat) : ∀ k, sizes s F (j + 1) k ≤ sizes s F j k + (if F j < k then 1 else 0) := by
  intro k
  induction k with
  | zero => simp [sizes]
  | succ k ih =>
    have e : (selB s F k (j + 1)).length = (selB s F k j).length + (if F j = k then 1 else 0) := by
      simp only [selB]; split <;> simp
    simp only [sizes]
    by_cases h : F k = k
    · rw [if_pos h, if_pos h, e]
      by_cases h1 : F j = k
      · rw [if_pos h1, if_pos (by omega)]; rw [if_neg (by omega)] at ih; omega
      · rw [if_neg h1]
        by_cases h2 : F j < k
        · rw [if_pos (by omega)]; rw [if_pos h2] at ih; omega
        · rw [if_neg (by omega)]; rw [if_neg h2] at ih; omega
    · rw [if_neg h, if_neg h]
      by_cases h2 : F j < k
      · rw [if_pos (by omega)]; rw [if_pos h2] at ih; omega
      · rw [if_neg h2] at ih
        split <;> omega
theorem sizes_le (s : List Bx) (F : Nat → Nat) (k : Nat) : ∀ j, sizes s F j k ≤ j := by
  intro j
  induction j with
  | zero =>
    have : sizes s F 0 k = 0 := by
      induction k with
      | zero => rfl
      | succ k ih => simp only [sizes]; split <;> simp [ih, selB]
    omega
  | succ j ih =>
    have := sizes_step s F j k
    split at this <;> omega
theorem parts_tot (s : List Bx) (F : Nat → Nat) (n : Nat) : ∀ k j, tot (partsL s F n k) j ≤ 2 * sizes s F n k * sizes s F n k := by
  intro k
  induction k with
  | zero =>
    intro j
    have : tot [] j = 0 := by
      induction j with
      | zero => rfl
      | succ j ih => simp [tot, ih]
    simp [partsL, this]
  | succ k ih =>
    intro j
    simp only [partsL, sizes]
    by_cases h : F k = k
    · rw [if_pos h, if_pos h]
      have h1 := tot_snoc (partsL s F n k) (opOf (takesK 1) (selB s F k n) []) j
      have h2 := ih j
      have h3 := or_len (takesK 1) (selB s F k n)
      have h4 : tot (partsL s F n k ++ [opOf (takesK 1) (selB s F k n) []]) j ≤ 2 * sizes s F n k * sizes s F n k + 2 * (selB s F k n).length * (selB s F k n).length := by
        split at h1 <;> omega
      refine Nat.le_trans h4 ?_
      generalize sizes s F n k = a
      generalize (selB s F k n).length = b
      rw [Nat.mul_add (2 * (a + b)) a b]
      exact Nat.add_le_add (Nat.mul_le_mul_right _ (by omega)) (Nat.mul_le_mul_right _ (by omega))
    · rw [if_neg h, if_neg h]; exact ih j
theorem parts_all (s : List Bx) (i : Nat) : tot (partsV s) i ≤ 45000 := by
  unfold partsV
  split
  · rename_i h
    have hl : s.length ≤ 150 := (boxesK_zero (shapeK_zeroP h).1).1
    have h1 := parts_tot s (partF s) s.length s.length i
    have h2 := sizes_le s (partF s) s.length s.length
    have h3 : 2 * sizes s (partF s) s.length s.length * sizes s (partF s) s.length s.length ≤ 2 * 150 * 150 := Nat.mul_le_mul (Nat.mul_le_mul_left _ (by omega)) (by omega)
    omega
  · have : tot [] i = 0 := by
      induction i with
      | zero => rfl
      | succ j ih => simp [tot, ih]
    rw [this]; omega
theorem parts_good (s : List Bx) (i : Nat) : Good ((partsV s).getD i []) := by
  have key : ∀ k, shapeK s = 0 → ∀ l ∈ partsL s (partF s) s.length k, Good l := by
    intro k h
    have hg : Good s := (boxesK_zero (shapeK_zeroP h).1).2
    induction k with
    | zero => intro l hl; cases hl
    | succ k ih =>
      intro l hl
      simp only [partsL] at hl
      split at hl
      · rcases List.mem_append.1 hl with h2 | h2
        · exact ih l h2
        · have e : l = opOf (takesK 1) (selB s (partF s) k s.length) [] := by simpa using h2
          rw [e]
          refine good_op fun b hb => ?_
          obtain ⟨a, ha, _, rfl⟩ := selB_mem hb
          rw [bat_get ha]; exact hg _ (List.getElem_mem ha)
      · exact ih l hl
  unfold partsV
  split
  · rename_i h
    rw [List.getD_eq_getElem?_getD]
    cases hh : (partsL s (partF s) s.length s.length)[i]? with
    | none => intro b hb; cases hb
    | some l => simpa using key _ h l (List.mem_of_getElem? hh)
  · intro b hb; simp at hb
theorem selB_first {s : List Bx} {F : Nat → Nat} {p : Nat} : ∀ {k a : Nat}, a < k → F a = p → bat s a ∈ selB s F p k := by
  intro k
  induction k with
  | zero => intro a ha; omega
  | succ k ih =>
    intro a ha hF
    simp only [selB]
    by_cases e : a = k
    · subst e; rw [if_pos hF]; simp
    · have := ih (a := a) (by omega) hF
      split
      · exact List.mem_append.2 (Or.inl this)
      · exact this
/-- The boxes of the first k parts that have fewer than x cells. -/
def smB (x : Int) (ls : List (List Bx)) : Nat → List Bx
  | 0 => []
  | k + 1 => if areaS (ls.getD k []) < x then smB x ls k ++ ls.getD k [] else smB x ls k
theorem smB_len (x : Int) (ls : List (List Bx)) (k : Nat) : (smB x ls k).length ≤ tot ls k := by
  induction k with
  | zero => exact Nat.le_refl _
  | succ k ih =>
    simp only [smB, tot]; split
    · simp; omega
    · omega
theorem smB_good {x : Int} {ls : List (List Bx)} (h : ∀ i, Good (ls.getD i [])) (k : Nat) : Good (smB x ls k) := by
  induction k with
  | zero => intro b hb; cases hb
  | succ k ih =>
    simp only [smB]; split
    · intro b hb
      rcases List.mem_append.1 hb with hb | hb
      · exact ih b hb
      · exact h k b hb
    · exact ih

end Go.Proofs.Ytokdpgabmifdjab
