/- Proved here: the fault of classes as a number. -/
import Derived.Test.YtjacmneopijiaaaVcC
namespace Go.Proofs.Ytjacmneopijiaaa
open Go.RowKit
set_option linter.unusedVariables false
set_option linter.unusedSimpArgs false

def vcR (a b c d e : Bool) : Bool := !a || b || !c || d || !e
/-- A class with a fault. -/
def vcBad (c : Cls) : Bool := vcR (decide (-1 ≤ c.k ∧ c.k ≤ 9)) (decide (c.hi < c.lo)) (decide (1 ≤ c.nm ∧ c.nm ≤ 99)) (!okR c.q) (decide (0 ≤ c.q.n ∧ c.q.n ≤ c.q.d))
/-- The fault of a list of classes. -/
def vcF (s : List Cls) : Int := if 20 < s.length then 2 else if s.any vcBad then 1 else 0
theorem any_dropV {α : Type} {P : α → Bool} {s : List α} {k : Nat} (h : k < s.length) : (s.drop k).any P = (P s[k] || (s.drop (k + 1)).any P) := by
  rw [List.drop_eq_getElem_cons h, List.any_cons]
/-- A class without a fault. -/
def Cok (c : Cls) : Prop := -1 ≤ c.k ∧ c.k ≤ 9 ∧ c.lo ≤ c.hi ∧ 1 ≤ c.nm ∧ c.nm ≤ 99 ∧ okR c.q = true ∧ 0 ≤ c.q.n ∧ c.q.n ≤ c.q.d
theorem vcBad_ok {c : Cls} (h : vcBad c = false) : Cok c := by
  unfold vcBad vcR at h
  simp only [Bool.or_eq_false_iff, Bool.not_eq_false', decide_eq_true_eq, decide_eq_false_iff_not, Int.not_lt] at h
  obtain ⟨⟨⟨⟨h1, h2⟩, h3⟩, h4⟩, h5⟩ := h
  exact ⟨h1.1, h1.2, h2, h3.1, h3.2, h4, h5.1, h5.2⟩
theorem vcF_ok {s : List Cls} (h : vcF s = 0) : s.length ≤ 20 ∧ ∀ c ∈ s, Cok c := by
  unfold vcF at h
  by_cases h1 : 20 < s.length
  · rw [if_pos h1] at h; omega
  · rw [if_neg h1] at h
    cases h2 : s.any vcBad with
    | true => rw [h2] at h; simp at h
    | false =>
      refine ⟨by omega, fun c hc => vcBad_ok ?_⟩
      cases h3 : vcBad c with
      | false => rfl
      | true =>
        have := List.any_eq_true.2 ⟨c, hc, h3⟩
        rw [h2] at this; cases this
theorem codeF_ne (c : Cls) : (codeF c.q.n c.q.d != 0) = !okR c.q := by
  unfold codeF okR
  cases okF c.q.n c.q.d <;> rfl

end Go.Proofs.Ytjacmneopijiaaa
