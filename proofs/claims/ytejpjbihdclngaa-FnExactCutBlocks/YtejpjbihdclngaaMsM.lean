/- Proved here: messages: the fault of one. -/
import Derived.Test.YtejpjbihdclngaaUnd
import Derived.Test.YtejpjbihdclngaaByC
namespace Go.Proofs.Ytejpjbihdclngaa
open Go.RowKit
set_option linter.unusedVariables false
set_option linter.unusedSimpArgs false

def msD (x lo hi : Int) : Bool := decide (lo ≤ x ∧ x ≤ hi)
def mgF (A B C : Int) (n : Nat) : Int := if msD A 1 127 && msD B 0 255 && msD C 0 255 then (if 2000 < n then 2 else 0) else 3
theorem mgF_good {A B C : Int} {n : Nat} (h : mgF A B C n = 0) : 1 ≤ A ∧ A ≤ 127 ∧ 0 ≤ B ∧ B ≤ 255 ∧ 0 ≤ C ∧ C ≤ 255 ∧ n ≤ 2000 := by
  unfold mgF at h
  split at h
  · rename_i h1
    split at h
    · exact absurd h (by decide)
    · simp only [msD, Bool.and_eq_true, decide_eq_true_eq] at h1; omega
  · exact absurd h (by decide)

end Go.Proofs.Ytejpjbihdclngaa
