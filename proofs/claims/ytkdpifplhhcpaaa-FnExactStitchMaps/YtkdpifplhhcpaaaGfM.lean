/- Proved here: the faults of a grid: gfC; what a grid without one is like. -/
import Derived.Test.YtkdpifplhhcpaaaUnd
namespace Go.Proofs.Ytkdpifplhhcpaaa
set_option linter.unusedVariables false
set_option linter.unusedSimpArgs false

def inR (M : Int) : List Int → Bool
  | [] => true
  | x :: t => decide (0 ≤ x ∧ x ≤ M) && inR M t
def scG (W : Nat) (M : Int) : List (List Int) → Int
  | [] => 0
  | r :: t => if r.length = W then (if inR M r = true then scG W M t else 3) else 1
def lgG : List (List Int) → Bool
  | [] => false
  | r :: t => decide (16 < r.length) || lgG t
/-- The fault of a grid whose numbers are at most M. -/
def gfC (ls : List (List Int)) (M : Int) : Int :=
  if ls.length = 0 then 1 else if (ls.getD 0 []).length = 0 then 1 else if 16 < ls.length then 2 else if lgG ls = true then 2 else scG (ls.getD 0 []).length M ls
theorem getD_lt {α : Type} {s : List α} {k : Nat} {d : α} (h : k < s.length) : s.getD k d = s[k] := by
  rw [List.getD_eq_getElem?_getD, List.getElem?_eq_getElem h]; rfl
theorem inR_step {M : Int} {s : List Int} {k : Nat} (h : k < s.length) : inR M (s.drop k) = (decide (0 ≤ s.getD k 0 ∧ s.getD k 0 ≤ M) && inR M (s.drop (k + 1))) := by
  rw [List.drop_eq_getElem_cons h, inR, getD_lt h]
theorem scG_step {W : Nat} {M : Int} {s : List (List Int)} {k : Nat} (h : k < s.length) : scG W M (s.drop k) = if (s.getD k []).length = W then (if inR M (s.getD k []) = true then scG W M (s.drop (k + 1)) else 3) else 1 := by
  rw [List.drop_eq_getElem_cons h, scG, getD_lt h]
theorem lgG_step {s : List (List Int)} {k : Nat} (h : k < s.length) : lgG (s.drop k) = (decide (16 < (s.getD k []).length) || lgG (s.drop (k + 1))) := by
  rw [List.drop_eq_getElem_cons h, lgG, getD_lt h]
/-- A grid: so many rows, as wide each, its numbers from 0 to M. -/
structure GG (M : Int) (ls : List (List Int)) : Prop where
  h0 : 0 < ls.length
  h1 : ls.length ≤ 16
  w0 : 0 < (ls.getD 0 []).length
  w1 : (ls.getD 0 []).length ≤ 16
  wd : ∀ r ∈ ls, r.length = (ls.getD 0 []).length
  nu : ∀ r ∈ ls, ∀ x ∈ r, 0 ≤ x ∧ x ≤ M
theorem inR_good {M : Int} {s : List Int} (h : inR M s = true) : ∀ x ∈ s, 0 ≤ x ∧ x ≤ M := by
  induction s with
  | nil => intro x hx; cases hx
  | cons a t ih =>
    rw [inR, Bool.and_eq_true, decide_eq_true_eq] at h
    intro x hx
    rcases List.mem_cons.1 hx with rfl | hx
    · exact h.1
    · exact ih h.2 x hx
theorem inR_all {M : Int} {s : List Int} (h : ∀ x ∈ s, 0 ≤ x ∧ x ≤ M) : inR M s = true := by
  induction s with
  | nil => rfl
  | cons a t ih =>
    rw [inR, Bool.and_eq_true, decide_eq_true_eq]
    exact ⟨h a (by simp), ih fun x hx => h x (by simp [hx])⟩
theorem scG_good {W : Nat} {M : Int} {ls : List (List Int)} (h : scG W M ls = 0) : ∀ r ∈ ls, r.length = W ∧ ∀ x ∈ r, 0 ≤ x ∧ x ≤ M := by
  induction ls with
  | nil => intro x hx; cases hx
  | cons a t ih =>
    rw [scG] at h
    by_cases h1 : a.length = W
    · rw [if_pos h1] at h
      by_cases h2 : inR M a = true
      · rw [if_pos h2] at h
        intro x hx
        rcases List.mem_cons.1 hx with rfl | hx
        · exact ⟨h1, inR_good h2⟩
        · exact ih h x hx
      · rw [if_neg h2] at h; cases h
    · rw [if_neg h1] at h; cases h
theorem scG_all {W : Nat} {M : Int} {ls : List (List Int)} (h : ∀ r ∈ ls, r.length = W ∧ ∀ x ∈ r, 0 ≤ x ∧ x ≤ M) : scG W M ls = 0 := by
  induction ls with
  | nil => rfl
  | cons a t ih =>
    rw [scG, if_pos (h a (by simp)).1, if_pos (inR_all (h a (by simp)).2)]
    exact ih fun r hr => h r (by simp [hr])
theorem lgG_none {ls : List (List Int)} (h : ∀ r ∈ ls, r.length ≤ 16) : lgG ls = false := by
  induction ls with
  | nil => rfl
  | cons a t ih =>
    rw [lgG, ih fun r hr => h r (by simp [hr]), Bool.or_false, decide_eq_false_iff_not]
    have := h a (by simp); omega
theorem lgG_good {ls : List (List Int)} (h : ¬ lgG ls = true) : ∀ r ∈ ls, r.length ≤ 16 := by
  induction ls with
  | nil => intro x hx; cases hx
  | cons a t ih =>
    rw [lgG, Bool.or_eq_true, decide_eq_true_eq] at h
    intro r hr
    rcases List.mem_cons.1 hr with rfl | hr
    · have : ¬ 16 < r.length := fun e => h (Or.inl e)
      omega
    · exact ih (fun e => h (Or.inr e)) r hr
theorem gfC_good {ls : List (List Int)} {M : Int} (h : gfC ls M = 0) : GG M ls := by
  unfold gfC at h
  split at h
  · cases h
  · split at h
    · cases h
    · split at h
      · cases h
      · split at h
        · cases h
        · rename_i h1 h2 h3 h4
          have hm : ls.getD 0 [] ∈ ls := by rw [getD_lt (show 0 < ls.length by omega)]; exact List.getElem_mem _
          have hs := scG_good h
          exact ⟨by omega, by omega, by omega, lgG_good h4 _ hm, fun r hr => (hs r hr).1, fun r hr => (hs r hr).2⟩
theorem GG.fine {ls : List (List Int)} {M : Int} (h : GG M ls) : gfC ls M = 0 := by
  have a := h.h0; have b := h.h1; have c := h.w0; have d := h.w1
  unfold gfC
  rw [if_neg (by omega), if_neg (by omega), if_neg (by omega), if_neg (by rw [lgG_none fun r hr => by rw [h.wd r hr]; exact d]; simp)]
  exact scG_all fun r hr => ⟨h.wd r hr, h.nu r hr⟩
theorem GG.row {ls : List (List Int)} {M : Int} (h : GG M ls) {j : Nat} (hj : j < ls.length) : (ls.getD j []).length = (ls.getD 0 []).length := by
  rw [getD_lt hj]; exact h.wd _ (List.getElem_mem _)
theorem GG.rowp' {ls : List (List Int)} {M : Int} (h : GG M ls) {j : Nat} (hj : j < ls.length) : 0 < (ls.getD j []).length ∧ (ls.getD j []).length ≤ 16 := by
  rw [h.row hj]; exact ⟨h.w0, h.w1⟩
theorem GG.at {ls : List (List Int)} {M : Int} (h : GG M ls) (j k : Nat) : 0 ≤ (ls.getD j []).getD k 0 ∧ ((ls.getD j []).getD k 0 ≤ M ∨ (ls.getD j []).getD k 0 = 0) := by
  by_cases hj : j < ls.length
  · by_cases hk : k < (ls.getD j []).length
    · have := h.nu (ls.getD j []) (by rw [getD_lt hj]; exact List.getElem_mem _) ((ls.getD j []).getD k 0) (by rw [getD_lt hk]; exact List.getElem_mem _)
      exact ⟨this.1, Or.inl this.2⟩
    · rw [List.getD_eq_getElem?_getD, List.getElem?_eq_none (by omega)]; simp
  · rw [show ls.getD j [] = [] by rw [List.getD_eq_getElem?_getD, List.getElem?_eq_none (by omega)]; rfl]; simp

end Go.Proofs.Ytkdpifplhhcpaaa
