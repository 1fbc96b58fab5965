/- The first fault among places, where a number is first. Arithmetic alone. -/
import Derived.Test.YtecobfhlpjlpkaaProg
import Derived.RowKit
namespace Go.Proofs.Ytecobfhlpjlpkaa
open Go.RowKit
set_option linter.unusedVariables false
set_option linter.unusedSimpArgs false

/-- The first code among m places from j on. -/
def frm (K : Nat → Int) (j : Nat) : Nat → Int
  | 0 => 0
  | m + 1 => if K j ≠ 0 then K j else frm K (j + 1) m
theorem frm_hit {K : Nat → Int} {j n : Nat} {t : Int} (hj : j < n) (ht : K j = t) (h : t ≠ 0) : frm K j (n - j) = t := by
  obtain ⟨m, hm⟩ : ∃ m, n - j = m + 1 := ⟨n - j - 1, by omega⟩
  rw [hm]; show (if K j ≠ 0 then K j else _) = t
  rw [ht, if_pos h]
theorem frm_miss {K : Nat → Int} {j n : Nat} (hj : j < n) (ht : K j = 0) : frm K j (n - j) = frm K (j + 1) (n - (j + 1)) := by
  obtain ⟨m, hm⟩ : ∃ m, n - j = m + 1 := ⟨n - j - 1, by omega⟩
  rw [hm, show n - (j + 1) = m by omega]; show (if K j ≠ 0 then K j else _) = _
  rw [ht, if_neg (by decide)]
theorem frm_end (K : Nat → Int) (n : Nat) : frm K n (n - n) = 0 := by rw [Nat.sub_self]; rfl
theorem frm_all {K : Nat → Int} : ∀ {m j : Nat}, frm K j m = 0 → ∀ i, j ≤ i → i < j + m → K i = 0 := by
  intro m
  induction m with
  | zero => intro j _ i h1 h2; omega
  | succ m ih =>
    intro j h i h1 h2
    unfold frm at h
    split at h
    · rename_i h3; exact absurd h h3
    · rename_i h3
      rcases Nat.lt_or_ge j i with h4 | h4
      · exact ih h i (by omega) (by omega)
      · have : i = j := by omega
        subst this
        exact Decidable.byContradiction fun h5 => h3 h5
theorem frm_zero {K : Nat → Int} {n : Nat} (h : frm K 0 (n - 0) = 0) (i : Nat) (hi : i < n) : K i = 0 := frm_all h i (Nat.zero_le _) (by omega)
/-- Where v is first among the first n; -1: nowhere. -/
def fdI (f : Nat → Int) (v : Int) : Nat → Int
  | 0 => -1
  | n + 1 => if 0 ≤ fdI f v n then fdI f v n else if f n = v then (n : Int) else -1
theorem fdI_cases (f : Nat → Int) (v : Int) : ∀ n, (fdI f v n = -1 ∧ ∀ i, i < n → f i ≠ v) ∨ ∃ i, i < n ∧ fdI f v n = (i : Int) ∧ f i = v ∧ ∀ k, k < i → f k ≠ v := by
  intro n
  induction n with
  | zero => exact Or.inl ⟨rfl, fun i h => by omega⟩
  | succ n ih =>
    unfold fdI
    rcases ih with ⟨h1, h2⟩ | ⟨i, h1, h2, h3, h4⟩
    · rw [if_neg (by omega)]
      by_cases h3 : f n = v
      · rw [if_pos h3]; exact Or.inr ⟨n, by omega, rfl, h3, h2⟩
      · rw [if_neg h3]
        refine Or.inl ⟨rfl, fun i hi => ?_⟩
        rcases (by omega : i < n ∨ i = n) with e | e
        · exact h2 i e
        · subst e; exact h3
    · rw [if_pos (by omega)]; exact Or.inr ⟨i, by omega, h2, h3, h4⟩
theorem fdI_neg {f : Nat → Int} {v : Int} {n : Nat} (h : fdI f v n < 0) : ∀ i, i < n → f i ≠ v := by
  rcases fdI_cases f v n with ⟨_, h2⟩ | ⟨i, _, h2, _⟩
  · exact h2
  · omega
theorem fdI_pos {f : Nat → Int} {v : Int} {n : Nat} (h : 0 ≤ fdI f v n) : ∃ i, i < n ∧ fdI f v n = (i : Int) ∧ f i = v ∧ ∀ k, k < i → f k ≠ v := by
  rcases fdI_cases f v n with ⟨h1, _⟩ | h2
  · omega
  · exact h2
theorem fdI_lt (f : Nat → Int) (v : Int) (n : Nat) : fdI f v n < n ∧ -1 ≤ fdI f v n := by
  rcases fdI_cases f v n with ⟨h1, _⟩ | ⟨i, h0, h2, _⟩ <;> omega
theorem fdI_is {f : Nat → Int} {v : Int} {n i : Nat} (hi : i < n) (h1 : f i = v) (h2 : ∀ k, k < i → f k ≠ v) : fdI f v n = (i : Int) := by
  rcases fdI_cases f v n with ⟨_, h3⟩ | ⟨j, h3, h4, h5, h6⟩
  · exact absurd h1 (h3 i hi)
  · rcases (by omega : j < i ∨ j = i ∨ i < j) with e | e | e
    · exact absurd h5 (h2 j e)
    · rw [h4, e]
    · exact absurd h1 (h6 i e)
theorem fdI_no {f : Nat → Int} {v : Int} {n : Nat} (h : ∀ i, i < n → f i ≠ v) : fdI f v n = -1 := by
  rcases fdI_cases f v n with ⟨h1, _⟩ | ⟨i, h0, _, h2, _⟩
  · exact h1
  · exact absurd h2 (h i h0)

end Go.Proofs.Ytecobfhlpjlpkaa
