/- Proved here: the fault of a march. Arithmetic alone. -/
import Derived.Test.YtbjdalcbdbphkaaMeB
import Derived.Test.YtbjdalcbdbphkaaPbM
namespace Go.Proofs.Ytbjdalcbdbphkaa
open Go.RowKit
set_option linter.unusedVariables false
set_option linter.unusedSimpArgs false

def elF (e : Elm) : Int := if e.p.length = 0 then 1 else if 8 < e.p.length then 2 else if e.p.any (oo 0 3) = true then 1 else 0
def mfL : List Elm → Int
  | [] => 0
  | e :: t => if elF e = 0 then mfL t else elF e
def mfF (s : List Elm) : Int := if s.length = 0 then 1 else if 12 < s.length then 2 else mfL s
theorem mfL_step {s : List Elm} {k : Nat} (h : k < s.length) : mfL (s.drop k) = if elF s[k] = 0 then mfL (s.drop (k + 1)) else elF s[k] := by
  rw [List.drop_eq_getElem_cons h, mfL]
theorem mfL_end {s : List Elm} {k : Nat} (h : s.length ≤ k) : mfL (s.drop k) = 0 := by rw [List.drop_eq_nil_of_le h, mfL]
theorem mfL_zero : ∀ {s : List Elm}, mfL s = 0 → ∀ k (h : k < s.length), elF s[k] = 0 := by
  intro s
  induction s with
  | nil => intro _ k h; simp at h
  | cons e t ih =>
    intro h k hk
    rw [mfL] at h
    by_cases h1 : elF e = 0
    · rw [if_pos h1] at h
      cases k with
      | zero => exact h1
      | succ k => exact ih h k (by simpa using hk)
    · rw [if_neg h1] at h; exact absurd h h1
theorem elF_ok {e : Elm} (h : elF e = 0) : 0 < e.p.length ∧ e.p.length ≤ 8 ∧ e.p.any (oo 0 3) = false := by
  unfold elF at h
  by_cases h1 : e.p.length = 0
  · rw [if_pos h1] at h; cases h
  · rw [if_neg h1] at h
    by_cases h2 : 8 < e.p.length
    · rw [if_pos h2] at h; cases h
    · rw [if_neg h2] at h
      cases h3 : e.p.any (oo 0 3)
      · exact ⟨by omega, by omega, rfl⟩
      · rw [h3, if_pos rfl] at h; cases h
theorem mfF_ok {s : List Elm} (h : mfF s = 0) : 0 < s.length ∧ s.length ≤ 12 ∧ ∀ k (h : k < s.length), 0 < s[k].p.length ∧ s[k].p.length ≤ 8 ∧ s[k].p.any (oo 0 3) = false := by
  unfold mfF at h
  by_cases h1 : s.length = 0
  · rw [if_pos h1] at h; cases h
  · rw [if_neg h1] at h
    by_cases h2 : 12 < s.length
    · rw [if_pos h2] at h; cases h
    · rw [if_neg h2] at h
      exact ⟨by omega, by omega, fun k hk => elF_ok (mfL_zero h k hk)⟩

end Go.Proofs.Ytbjdalcbdbphkaa
