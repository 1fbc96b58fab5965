/- Proved here: the faults of maps; what two maps make. Arithmetic alone. -/
import Derived.Test.YtkdpifplhhcpaaaStG
import Derived.Test.YtkdpifplhhcpaaaPbM
namespace Go.Proofs.Ytkdpifplhhcpaaa
open Go.RowKit
set_option linter.unusedVariables false
set_option linter.unusedSimpArgs false

def lgM (r : List Int) : Bool := decide (20 < r.length)
def unM (W : Nat) (r : List Int) : Bool := !decide (r.length = W)
def ouM (r : List Int) : Bool := r.any (oo 0 99)
def smF (ls : List (List Int)) : Int := if ls.length = 0 ∨ (ls.getD 0 []).length = 0 then 1 else if 20 < ls.length then 2 else if ls.any lgM = true then 2 else if ls.any (unM (ls.getD 0 []).length) = true then 1 else if ls.any ouM = true then 3 else 0
theorem smF_ok {ls : List (List Int)} (h : smF ls = 0) : GM ls := by
  unfold smF at h
  by_cases h1 : ls.length = 0 ∨ (ls.getD 0 []).length = 0
  · rw [if_pos h1] at h; cases h
  rw [if_neg h1] at h
  by_cases h2 : 20 < ls.length
  · rw [if_pos h2] at h; cases h
  rw [if_neg h2] at h
  cases h3 : ls.any lgM with
  | true => rw [h3, if_pos rfl] at h; cases h
  | false =>
    rw [h3, if_neg (by decide)] at h
    cases h4 : ls.any (unM (ls.getD 0 []).length) with
    | true => rw [h4, if_pos rfl] at h; cases h
    | false =>
      rw [h4, if_neg (by decide)] at h
      cases h5 : ls.any ouM with
      | true => rw [h5, if_pos rfl] at h; cases h
      | false =>
        have hm : ls.getD 0 [] ∈ ls := by rw [getD_lt (show 0 < ls.length by omega)]; exact List.getElem_mem _
        refine ⟨by omega, by omega, by omega, ?_, fun r hr => ?_, fun r hr x hx => ?_⟩
        · have := (List.any_eq_false.1 h3) _ hm
          simp [lgM] at this; simpa using this
        · have := (List.any_eq_false.1 h4) r hr
          simpa [unM] using this
        · have := (List.any_eq_false.1 h5) r hr
          simp only [ouM, Bool.not_eq_true] at this
          exact oo_in this hx
/-- Two numbers that can't both stand. -/
def cfB (x y : Int) : Bool := decide (x ≠ 0) && decide (y ≠ 0) && decide (x ≠ y)
def mgI (x y : Int) : Int := if x = 0 then y else x
theorem mgI_max {x y : Int} (hx : 0 ≤ x) (hy : 0 ≤ y) (h : cfB x y = false) : mgI x y = max x y := by
  unfold cfB at h
  unfold mgI
  by_cases h1 : x = 0
  · rw [if_pos h1]; omega
  · rw [if_neg h1]
    by_cases h2 : y = 0
    · omega
    · have : x = y := by simpa [h1, h2] using h
      omega
def cfA (a b : List (List Int)) : Bool := (List.range a.length).any fun j => (List.range (a.getD 0 []).length).any fun m => cfB (at2 a j m) (at2 b j m)
def stC (a b : List (List Int)) : Int := if smF a ≠ 0 then smF a else if smF b ≠ 0 then smF b else if a.length ≠ b.length ∨ (a.getD 0 []).length ≠ (b.getD 0 []).length then 1 else if cfA a b = true then 7 else 0
def mgL (a b : List (List Int)) : List (List Int) := (List.range a.length).map fun j => (List.range (a.getD 0 []).length).map fun m => mgI (at2 a j m) (at2 b j m)
def stL (a b : List (List Int)) : List (List Int) := if stC a b = 0 then mgL a b else []
theorem cfA_true {a b : List (List Int)} {j m : Nat} (hj : j < a.length) (hm : m < (a.getD 0 []).length) (h : cfB (at2 a j m) (at2 b j m) = true) : cfA a b = true := by
  unfold cfA
  exact List.any_eq_true.2 ⟨j, List.mem_range.2 hj, List.any_eq_true.2 ⟨m, List.mem_range.2 hm, h⟩⟩
theorem cfA_false {a b : List (List Int)} (h : ∀ j m, j < a.length → m < (a.getD 0 []).length → cfB (at2 a j m) (at2 b j m) = false) : cfA a b = false := by
  unfold cfA
  refine List.any_eq_false.2 fun j hj => ?_
  simp only [Bool.not_eq_true]
  refine List.any_eq_false.2 fun m hm => ?_
  rw [h j m (List.mem_range.1 hj) (List.mem_range.1 hm)]; decide
theorem mgL_sh (a b : List (List Int)) : Sh a.length (a.getD 0 []).length (mgL a b) := by
  refine ⟨by simp [mgL], fun j hj => ?_⟩
  rw [getD_lt (by simp [mgL]; exact hj)]
  simp [mgL]
theorem mgL_at {a b : List (List Int)} {j m : Nat} (hj : j < a.length) (hm : m < (a.getD 0 []).length) : at2 (mgL a b) j m = mgI (at2 a j m) (at2 b j m) := by
  have e : (mgL a b).getD j [] = (List.range (a.getD 0 []).length).map fun m => mgI (at2 a j m) (at2 b j m) := by
    rw [getD_lt (by simp [mgL]; exact hj)]; simp [mgL]
  conv => lhs; unfold at2
  rw [e, getD_lt (by simp; exact hm)]
  simp
/-- How far a stitching has come. -/
structure SJ23 (a b L : List (List Int)) (j m : Nat) : Prop where
  sh : Sh a.length (a.getD 0 []).length L
  at_ : ∀ i k, i < a.length → k < (a.getD 0 []).length → at2 L i k = if i < j ∨ (i = j ∧ k < m) then mgI (at2 a i k) (at2 b i k) else at2 a i k
  no : ∀ i k, i < a.length → k < (a.getD 0 []).length → (i < j ∨ (i = j ∧ k < m)) → cfB (at2 a i k) (at2 b i k) = false
theorem SJ23.start {a b : List (List Int)} (h : GM a) : SJ23 a b a 0 0 := ⟨h.sh, fun i k _ _ => by rw [if_neg (by omega)], fun i k _ _ h => by omega⟩
theorem SJ23.step {a b L : List (List Int)} {j m : Nat} (h : SJ23 a b L j m) (hj : j < a.length) (hm : m < (a.getD 0 []).length) (hc : cfB (at2 a j m) (at2 b j m) = false) : SJ23 a b (set2 L j m (mgI (at2 a j m) (at2 b j m))) j (m + 1) := by
  refine ⟨h.sh.set2 _ _ _, fun i k hi hk => ?_, fun i k hi hk hb => ?_⟩
  · rw [at2_set2 h.sh hj hm]
    by_cases e : i = j ∧ k = m
    · rw [if_pos e, if_pos (by omega), e.1, e.2]
    · rw [if_neg e, h.at_ i k hi hk]
      by_cases e2 : i < j ∨ (i = j ∧ k < m)
      · rw [if_pos e2, if_pos (by omega)]
      · rw [if_neg e2, if_neg (by omega)]
  · by_cases e : i = j ∧ k = m
    · rw [e.1, e.2]; exact hc
    · exact h.no i k hi hk (by omega)
/-- Where nothing is to be turned. -/
theorem SJ23.same {a b L : List (List Int)} {j m : Nat} (h : SJ23 a b L j m) (hj : j < a.length) (hm : m < (a.getD 0 []).length) (hx : at2 a j m ≠ 0) (hc : cfB (at2 a j m) (at2 b j m) = false) : SJ23 a b L j (m + 1) := by
  refine ⟨h.sh, fun i k hi hk => ?_, fun i k hi hk hb => ?_⟩
  · rw [h.at_ i k hi hk]
    by_cases e : i = j ∧ k = m
    · rw [if_neg (by omega), if_pos (by omega), e.1, e.2, mgI, if_neg hx]
    · by_cases e2 : i < j ∨ (i = j ∧ k < m)
      · rw [if_pos e2, if_pos (by omega)]
      · rw [if_neg e2, if_neg (by omega)]
  · by_cases e : i = j ∧ k = m
    · rw [e.1, e.2]; exact hc
    · exact h.no i k hi hk (by omega)
theorem SJ23.row {a b L : List (List Int)} {j : Nat} (h : SJ23 a b L j (a.getD 0 []).length) : SJ23 a b L (j + 1) 0 := by
  refine ⟨h.sh, fun i k hi hk => ?_, fun i k hi hk hb => h.no i k hi hk (by omega)⟩
  rw [h.at_ i k hi hk]
  by_cases e2 : i < j ∨ (i = j ∧ k < (a.getD 0 []).length)
  · rw [if_pos e2, if_pos (by omega)]
  · rw [if_neg e2, if_neg (by omega)]
theorem SJ23.here {a b L : List (List Int)} {j m : Nat} (h : SJ23 a b L j m) (hj : j < a.length) (hm : m < (a.getD 0 []).length) : at2 L j m = at2 a j m := by
  rw [h.at_ j m hj hm, if_neg (by omega)]
theorem SJ23.done {a b L : List (List Int)} (h : SJ23 a b L a.length 0) : L = mgL a b ∧ cfA a b = false := by
  refine ⟨grid_ext h.sh (mgL_sh a b) fun j m hj hm => ?_, cfA_false fun j m hj hm => h.no j m hj hm (Or.inl hj)⟩
  rw [h.at_ j m hj hm, if_pos (Or.inl hj), mgL_at hj hm]
theorem stL_no {a b : List (List Int)} (h : stC a b ≠ 0) : stL a b = [] := by rw [stL, if_neg h]
theorem totR_le {L : List (List Int)} {W : Nat} (h : ∀ j, (L.getD j []).length ≤ W) : ∀ i, totR L i ≤ i * W := by
  intro i
  induction i with
  | zero => simp [totR]
  | succ i ih =>
    have e : totR L (i + 1) = totR L i + (L.getD i []).length := rfl
    have := h i
    rw [e, Nat.add_mul]; omega
theorem stL_sm (a b : List (List Int)) : SmR (stL a b) := by
  by_cases h : stC a b = 0
  · have ha : smF a = 0 := by
      unfold stC at h
      by_cases h1 : smF a ≠ 0
      · rw [if_pos h1] at h; exact absurd h h1
      · exact Decidable.not_not.1 h1
    have hg := smF_ok ha
    have hs := mgL_sh a b
    rw [stL, if_pos h]
    have hw : ∀ j, ((mgL a b).getD j []).length ≤ 20 := fun j => by
      rcases Nat.lt_or_ge j a.length with h1 | h1
      · rw [hs.wd j h1]; exact hg.w1
      · rw [List.getD_eq_getElem?_getD, List.getElem?_eq_none (by rw [hs.len]; exact h1)]; simp
    have hl := hs.len
    have h20 := hg.h1
    refine ⟨by omega, ?_⟩
    have := totR_le hw (mgL a b).length
    rw [hl] at this ⊢
    omega
  · rw [stL_no h]; exact ⟨by simp, by simp [totR]⟩

end Go.Proofs.Ytkdpifplhhcpaaa
