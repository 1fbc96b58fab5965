/- Proved here: the least and the greatest of a list; what is capable, as numbers. -/
import Derived.Test.YtcdpaokmjoklcaaChM
import Derived.Test.YtcdpaokmjoklcaaLow
namespace Go.Proofs.Ytcdpaokmjoklcaa
open Go.RowKit
set_option linter.unusedVariables false
set_option linter.unusedSimpArgs false

/-- A code and a fraction. -/
structure Q3 where
  c : Int
  n : Int
  d : Int
def mqQ (n d : Int) : Q3 := if d = 0 then ⟨6, 0, 0⟩ else ⟨rqC n d, rqN n d, rqD n d⟩
/-- The least and the greatest of the first k + 1 numbers. -/
def leK (s : List Int) : Nat → Int
  | 0 => s.getD 0 0
  | k + 1 => if s.getD (k + 1) 0 < leK s k then s.getD (k + 1) 0 else leK s k
def gtK (s : List Int) : Nat → Int
  | 0 => s.getD 0 0
  | k + 1 => if gtK s k < s.getD (k + 1) 0 then s.getD (k + 1) 0 else gtK s k
theorem lg_bd {s : List Int} (h : ∀ k, k < s.length → -1000000 ≤ s.getD k 0 ∧ s.getD k 0 ≤ 1000000) : ∀ k, k < s.length → (-1000000 ≤ leK s k ∧ leK s k ≤ 1000000) ∧ (-1000000 ≤ gtK s k ∧ gtK s k ≤ 1000000) ∧ leK s k ≤ gtK s k := by
  intro k
  induction k with
  | zero => intro hk; have := h 0 hk; rw [leK, gtK]; omega
  | succ k ih =>
    intro hk
    have h1 := ih (by omega)
    have h2 := h (k + 1) hk
    rw [leK, gtK]
    split <;> split <;> omega
def cpQ (lo hi : Int) (s : List Int) : Q3 :=
  if chF s = 0 then
    (if s.length < 2 then ⟨4, 0, 0⟩ else if lo < hi ∧ -1000000 ≤ lo ∧ hi ≤ 1000000 then
      mqQ (if leK s (s.length - 1) - lo < hi - gtK s (s.length - 1) then leK s (s.length - 1) - lo else hi - gtK s (s.length - 1)) (gtK s (s.length - 1) - leK s (s.length - 1))
    else ⟨3, 0, 0⟩)
  else ⟨chF s, 0, 0⟩

end Go.Proofs.Ytcdpaokmjoklcaa
