/- Proved here: the arithmetic of lines that help: what stands between two lines, all of them put in order. -/
import Derived.Test.YtfjcebgknpccbaaLnT
namespace Go.Proofs.Ytfjcebgknpccbaa
set_option linter.unusedVariables false
set_option linter.unusedSimpArgs false

/-- The line that helps between two, if there is room. -/
def asOne (gap width : Int) (p q : Ln) : List Ln := if gap ≤ q.f - p.t ∧ width + 2 ≤ q.f - p.t then [⟨p.t + (q.f - p.t - width) / 2, p.t + (q.f - p.t - width) / 2 + width⟩] else []
def lnAt (ls : List Ln) (i : Nat) : Ln := ls.getD i ⟨0, 0⟩
/-- Those between the first i lines. -/
def asK (gap width : Int) (ls : List Ln) : Nat → List Ln
  | 0 => []
  | i + 1 => asK gap width ls i ++ (if i = 0 then [] else asOne gap width (lnAt ls (i - 1)) (lnAt ls i))
/-- The first i lines, with those between them. -/
def mgK (gap width : Int) (ls : List Ln) : Nat → List Ln
  | 0 => []
  | i + 1 => mgK gap width ls i ++ (if i = 0 then [] else asOne gap width (lnAt ls (i - 1)) (lnAt ls i)) ++ [lnAt ls i]
theorem asOne_len (gap width : Int) (p q : Ln) : (asOne gap width p q).length ≤ 1 := by unfold asOne; split <;> simp
theorem asK_len (gap width : Int) (ls : List Ln) : ∀ i, (asK gap width ls i).length ≤ i
  | 0 => Nat.le_refl _
  | i + 1 => by
    rw [asK, List.length_append]
    have := asK_len gap width ls i
    split
    · simp; omega
    · have := asOne_len gap width (lnAt ls (i - 1)) (lnAt ls i); omega
theorem mgK_len (gap width : Int) (ls : List Ln) : ∀ i, (mgK gap width ls i).length ≤ 2 * i
  | 0 => Nat.le_refl _
  | i + 1 => by
    rw [mgK, List.length_append, List.length_append]
    have := mgK_len gap width ls i
    split
    · simp; omega
    · have := asOne_len gap width (lnAt ls (i - 1)) (lnAt ls i); simp; omega
theorem lnAt_get {ls : List Ln} {i : Nat} (h : i < ls.length) : lnAt ls i = ls[i] := by simp [lnAt, h]
/-- The same ends. -/
theorem mg_perm (gap width : Int) (ls : List Ln) : ∀ i, i ≤ ls.length → (mgK gap width ls i).Perm (ls.take i ++ asK gap width ls i)
  | 0, _ => by simp [mgK, asK]
  | i + 1, h => by
    have ih := mg_perm gap width ls i (by omega)
    have hi : i < ls.length := by omega
    rw [mgK, asK, List.take_succ_eq_append_getElem hi, lnAt_get hi]
    generalize (if i = 0 then [] else asOne gap width (lnAt ls (i - 1)) ls[i]) = one
    refine (List.Perm.append_right _ (List.Perm.append_right _ ih)).trans ?_
    -- take ++ as ++ one ++ [x] ~ take ++ [x] ++ (as ++ one)
    simp only [List.append_assoc]
    refine List.Perm.append_left _ ?_
    have := List.perm_append_comm (l₁ := asK gap width ls i ++ one) (l₂ := [ls[i]])
    simpa using this
theorem flL_perm {a b : List Ln} (h : a.Perm b) : (flL a).Perm (flL b) := by
  unfold flL
  exact h.flatMap_right _
/-- The ends rise. -/
theorem mg_rise {gap width len : Int} {ls : List Ln} (hw : 1 ≤ width) (hr : Rise len (-1) ls) : ∀ i, i ≤ ls.length → (flL (mgK gap width ls i)).Pairwise (fun x y => decide (x ≤ y) = true) ∧ (∀ x ∈ flL (mgK gap width ls i), x ≤ (if i = 0 then -1 else (lnAt ls (i - 1)).t)) ∧ Rise len (if i = 0 then -1 else (lnAt ls (i - 1)).t) (ls.drop i)
  | 0, _ => by simp [mgK, flL, hr]
  | i + 1, h => by
    obtain ⟨h1, h2, h3⟩ := mg_rise (gap := gap) hw hr i (by omega)
    have hi : i < ls.length := by omega
    rw [List.drop_eq_getElem_cons hi] at h3
    obtain ⟨r1, r2, r3, r4, r5⟩ := h3
    have hm : ∀ P : Int, (∀ x ∈ flL (mgK gap width ls i), x ≤ P) → P < ls[i].f → ∀ one : List Ln, (one = [] ∨ ∃ a b : Int, one = [⟨a, b⟩] ∧ P ≤ a ∧ a ≤ b ∧ b ≤ ls[i].f) → (flL (mgK gap width ls i ++ one ++ [ls[i]])).Pairwise (fun x y => decide (x ≤ y) = true) ∧ ∀ x ∈ flL (mgK gap width ls i ++ one ++ [ls[i]]), x ≤ ls[i].t := by
      intro P hP hPf one ho
      rw [flL_app, flL_app]
      have hlast : flL [ls[i]] = [ls[i].f, ls[i].t] := rfl
      rw [hlast]
      rcases ho with rfl | ⟨a, b, rfl, ha, hab, hb⟩
      · have e0 : flL ([] : List Ln) = [] := rfl
        rw [e0, List.append_nil]
        refine ⟨?_, ?_⟩
        · rw [List.pairwise_append]
          refine ⟨h1, by simp; omega, fun x hx y hy => ?_⟩
          have := hP x hx
          simp only [List.mem_cons, List.not_mem_nil, or_false] at hy
          rcases hy with rfl | rfl <;> simp <;> omega
        · intro x hx
          rcases List.mem_append.1 hx with hx | hx
          · have := hP x hx; omega
          · simp only [List.mem_cons, List.not_mem_nil, or_false] at hx
            rcases hx with rfl | rfl <;> omega
      · have e1 : flL [(⟨a, b⟩ : Ln)] = [a, b] := rfl
        rw [e1, List.append_assoc]
        refine ⟨?_, ?_⟩
        · rw [List.pairwise_append]
          refine ⟨h1, by simp; omega, fun x hx y hy => ?_⟩
          have := hP x hx
          simp only [List.mem_append, List.mem_cons, List.not_mem_nil, or_false] at hy
          rcases hy with (rfl | rfl) | rfl | rfl <;> simp <;> omega
        · intro x hx
          rcases List.mem_append.1 hx with hx | hx
          · have := hP x hx; omega
          · simp only [List.mem_append, List.mem_cons, List.not_mem_nil, or_false] at hx
            rcases hx with (rfl | rfl) | rfl | rfl <;> omega
    have e : (if i + 1 = 0 then (-1 : Int) else (lnAt ls (i + 1 - 1)).t) = ls[i].t := by simp [lnAt_get hi]
    rw [e, mgK, lnAt_get hi]
    have key := hm _ h2 r1 (if i = 0 then [] else asOne gap width (lnAt ls (i - 1)) ls[i]) (by
      by_cases hi0 : i = 0
      · rw [if_pos hi0]; exact Or.inl rfl
      · rw [if_neg hi0] at r1 ⊢
        rw [if_neg hi0]
        unfold asOne
        split
        · rename_i hc
          refine Or.inr ⟨_, _, rfl, ?_, ?_, ?_⟩ <;> omega
        · exact Or.inl rfl)
    exact ⟨key.1, key.2, r5⟩
theorem mg_sort {gap width len : Int} {ls : List Ln} (hw : 1 ≤ width) (hr : Rise len (-1) ls) :
    (flL ls ++ flL (asK gap width ls ls.length)).mergeSort (fun x y => decide (x ≤ y)) = flL (mgK gap width ls ls.length) := by
  have h1 := (mg_rise (gap := gap) hw hr ls.length (Nat.le_refl _)).1
  have h2 := List.pairwise_mergeSort (le := fun x y : Int => decide (x ≤ y)) (fun a b c hab hbc => by simp at hab hbc ⊢; omega) (fun a b => by simp; omega) (flL ls ++ flL (asK gap width ls ls.length))
  refine List.Perm.eq_of_pairwise (le := fun x y : Int => decide (x ≤ y) = true) (fun a b _ _ hab hba => by simp at hab hba; omega) h2 h1 ?_
  refine (List.mergeSort_perm _ _).trans ?_
  have := flL_perm (mg_perm gap width ls ls.length (Nat.le_refl _))
  rw [List.take_length, flL_app] at this
  exact this.symm

end Go.Proofs.Ytfjcebgknpccbaa
