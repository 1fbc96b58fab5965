/- Proved here: the fault of marks, told in two ways. -/
import Derived.Test.YtdidmjgilnhncaaMaC
namespace Go.Proofs.Ytdidmjgilnhncaa
open Go.RowKit
set_option linter.unusedVariables false
set_option linter.unusedSimpArgs false

/-- A mark that lies beyond the bounds. -/
def beyM (m : Mrk) : Bool := !(decide (-50 ≤ m.x ∧ m.x ≤ 50)) || !(decide (-50 ≤ m.y ∧ m.y ≤ 50)) || !(decide (-1000 ≤ m.dx ∧ m.dx ≤ 1000)) || !(decide (-1000 ≤ m.dy ∧ m.dy ≤ 1000))
def aptM (a m : Mrk) : Bool := decide (a.x ≠ m.x) || decide (a.y ≠ m.y)
def msG (a : Mrk) (one : Bool) : List Mrk → Int
  | [] => if one then 1 else 0
  | m :: t => if beyM m then 3 else msG a (one && !aptM a m) t
def msF (s : List Mrk) : Int :=
  if s.length < 2 then 1 else if 20 < s.length then 2 else
  match s with
  | [] => 1
  | a :: t => if (a :: t).any beyM then 3 else if !((a :: t).any (aptM a)) then 1 else 0
theorem msG_is (a : Mrk) : ∀ (s : List Mrk) (one : Bool), msG a one s = if s.any beyM then 3 else if one && !(s.any (aptM a)) then 1 else 0 := by
  intro s
  induction s with
  | nil => intro one; cases one <;> rfl
  | cons m t ih =>
    intro one
    rw [msG, ih]
    cases hb : beyM m
    · simp only [List.any_cons, hb, Bool.false_or]
      rw [show (one && !aptM a m && !t.any (aptM a)) = (one && !(aptM a m || t.any (aptM a))) by rw [Bool.not_or, Bool.and_assoc]]
      simp
    · simp [hb]
theorem msF_few {s : List Mrk} (h : s.length < 2) : msF s = 1 := by unfold msF; rw [if_pos h]
theorem msF_many {s : List Mrk} (h : 20 < s.length) : msF s = 2 := by unfold msF; rw [if_neg (by omega), if_pos h]
theorem msF_is {a : Mrk} {t : List Mrk} (h1 : ¬ (a :: t).length < 2) (h2 : ¬ 20 < (a :: t).length) : msF (a :: t) = msG a true (a :: t) := by
  rw [msG_is]; unfold msF; rw [if_neg h1, if_neg h2]; simp
theorem msF_is2 {a : Mrk} {t : List Mrk} (h1 : ¬ (a :: t).length < 2) (h2 : ¬ 20 < (a :: t).length) : msF (a :: t) = if (a :: t).any beyM then 3 else if !((a :: t).any (aptM a)) then 1 else 0 := by
  unfold msF; rw [if_neg h1, if_neg h2]
/-- Marks without a fault. -/
theorem msF_ok {s : List Mrk} (h : msF s = 0) : 2 ≤ s.length ∧ s.length ≤ 20 ∧ (∀ m ∈ s, -50 ≤ m.x ∧ m.x ≤ 50 ∧ -50 ≤ m.y ∧ m.y ≤ 50 ∧ -1000 ≤ m.dx ∧ m.dx ≤ 1000 ∧ -1000 ≤ m.dy ∧ m.dy ≤ 1000) := by
  by_cases h1 : s.length < 2
  · rw [msF_few h1] at h; exact absurd h (by decide)
  by_cases h2 : 20 < s.length
  · rw [msF_many h2] at h; exact absurd h (by decide)
  refine ⟨by omega, by omega, fun m hm => ?_⟩
  cases s with
  | nil => cases hm
  | cons a t =>
    rw [msF_is2 h1 h2] at h
    cases hb : (a :: t).any beyM with
    | true => rw [if_pos hb] at h; exact absurd h (by decide)
    | false =>
      have := List.any_eq_false.1 hb m hm
      unfold beyM at this
      simp only [Bool.or_eq_true, not_or, Bool.not_eq_true', Bool.not_eq_false, decide_eq_true_eq] at this
      omega
theorem any_drop {α : Type} {P : α → Bool} {s : List α} {k : Nat} (h : k < s.length) : (s.drop k).any P = (P s[k] || (s.drop (k + 1)).any P) := by
  rw [List.drop_eq_getElem_cons h, List.any_cons]

end Go.Proofs.Ytdidmjgilnhncaa
