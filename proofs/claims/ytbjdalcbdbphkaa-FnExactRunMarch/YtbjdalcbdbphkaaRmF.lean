/- Proved here: may it be a fault: what is answered. Arithmetic alone. -/
import Derived.Test.YtbjdalcbdbphkaaRmM
namespace Go.Proofs.Ytbjdalcbdbphkaa
open Go.RowKit
set_option linter.unusedVariables false
set_option linter.unusedSimpArgs false

def mayB (k c b v n : Int) : Bool := if ¬ (0 ≤ c ∧ c ≤ n - 1) then false else if ¬ (0 ≤ v ∧ v ≤ 1) then false else if k = 0 then decide (c = 0 ∧ b = 0 ∧ v = 0) else if k = 1 then decide (b = 0) else if k = 2 ∨ k = 3 then decide (b = 0 ∧ v = 0) else if k = 4 ∨ k = 5 then decide ((0 ≤ b ∧ b ≤ n - 1) ∧ b ≠ c) else false
theorem mayB_ok {k c b v n : Int} (h : mayB k c b v n = true) : (0 ≤ c ∧ c ≤ n - 1) ∧ (v = 0 ∨ v = 1) := by
  unfold mayB at h
  by_cases h1 : 0 ≤ c ∧ c ≤ n - 1
  · rw [if_neg (fun e => e h1)] at h
    by_cases h2 : 0 ≤ v ∧ v ≤ 1
    · exact ⟨h1, by omega⟩
    · rw [if_pos h2] at h; cases h
  · rw [if_pos h1] at h; cases h
theorem mayB_k {k c b v n : Int} (h : ¬ (0 ≤ k ∧ k ≤ 5)) : mayB k c b v n = false := by
  unfold mayB
  by_cases h1 : 0 ≤ c ∧ c ≤ n - 1
  · rw [if_neg (fun e => e h1)]
    by_cases h2 : 0 ≤ v ∧ v ≤ 1
    · rw [if_neg (fun e => e h2), if_neg (by omega), if_neg (by omega), if_neg (by omega), if_neg (by omega)]
    · rw [if_pos h2]
  · rw [if_pos h1]

end Go.Proofs.Ytbjdalcbdbphkaa
