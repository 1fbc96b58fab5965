/- The faults of jobs, place by place. Arithmetic alone. -/
import Derived.Test.YtecobfhlpjlpkaaDjC
import Derived.Test.YtecobfhlpjlpkaaFdM
namespace Go.Proofs.Ytecobfhlpjlpkaa
open Go.RowKit
set_option linter.unusedVariables false
set_option linter.unusedSimpArgs false

def jdA (s : List Jb) (i : Nat) : Int := (s.getD i default).id
theorem jdA_at {s : List Jb} {i : Nat} (h : i < s.length) : jdA s i = s[i].id := by simp [jdA, List.getD, h]
def rgJ (j : Jb) : Prop := ((0 ≤ j.co ∧ j.co ≤ 1000000) ∧ (0 ≤ j.se ∧ j.se ≤ 1000000) ∧ (0 ≤ j.du ∧ j.du ≤ 1000000)) ∧ (1 ≤ j.ti ∧ j.ti ≤ 1000000) ∧ (0 ≤ j.we ∧ j.we ≤ 100) ∧ (0 ≤ j.ki ∧ j.ki ≤ 9)
instance (j : Jb) : Decidable (rgJ j) := by unfold rgJ; infer_instance
/-- The fault of one job, where seen tells whether a job ahead has its number. -/
def j1C (seen : Bool) (j : Jb) : Int := if j.id < 1 ∨ seen = true then 1 else if rgJ j then 0 else 3
def jbK (s : List Jb) (i : Nat) : Int := j1C (decide (0 ≤ fdI (jdA s) (jdA s i) i)) (s.getD i default)
theorem jbK_at {s : List Jb} {i : Nat} (h : i < s.length) : jbK s i = j1C (decide (0 ≤ fdI (jdA s) s[i].id i)) s[i] := by
  unfold jbK; rw [jdA_at h]; simp [List.getD, h]
def jbF (s : List Jb) : Int := if 30 < s.length then 2 else frm (jbK s) 0 (s.length - 0)
theorem fdI_congr {f g : Nat → Int} {v : Int} : ∀ {n : Nat}, (∀ i, i < n → f i = g i) → fdI f v n = fdI g v n := by
  intro n
  induction n with
  | zero => intro _; rfl
  | succ n ih => intro h; unfold fdI; rw [ih fun i hi => h i (by omega), h n (by omega)]
theorem jdA_take {s : List Jb} {k i : Nat} (h : i < k) (hk : k ≤ s.length) : jdA (s.take k) i = jdA s i := by
  rw [jdA_at (by simp; omega), jdA_at (by omega)]; simp
/-- What is true of jobs without a fault. -/
structure OkJ (s : List Jb) : Prop where
  len : s.length ≤ 30
  pos : ∀ i (h : i < s.length), 1 ≤ s[i].id
  rg : ∀ i (h : i < s.length), rgJ s[i]
  uniq : ∀ i j (h : i < s.length) (h' : j < s.length), s[i].id = s[j].id → i = j
theorem jbF_ok {s : List Jb} (h : jbF s = 0) : OkJ s := by
  unfold jbF at h
  split at h
  · cases h
  · rename_i hl
    have hz := frm_zero h
    have h1 : ∀ i (hi : i < s.length), ¬ (s[i].id < 1 ∨ decide (0 ≤ fdI (jdA s) s[i].id i) = true) ∧ rgJ s[i] := fun i hi => by
      have := hz i hi
      rw [jbK_at hi, j1C] at this
      split at this
      · cases this
      · rename_i h2
        split at this
        · rename_i h3; exact ⟨h2, h3⟩
        · cases this
    have hlt : ∀ i j (hi : i < s.length) (hj : j < s.length), i < j → s[i].id ≠ s[j].id := fun i j hi hj hij e => by
      have h2 := (h1 j hj).1
      have h3 : fdI (jdA s) s[j].id j < 0 := by
        rcases Int.lt_or_le (fdI (jdA s) s[j].id j) 0 with h4 | h4
        · exact h4
        · exact absurd (Or.inr (decide_eq_true h4)) h2
      exact fdI_neg h3 i hij (by rw [jdA_at hi]; exact e)
    refine ⟨by omega, fun i hi => by have := (h1 i hi).1; omega, fun i hi => (h1 i hi).2, fun i j hi hj e => ?_⟩
    rcases (by omega : i < j ∨ i = j ∨ j < i) with h2 | h2 | h2
    · exact absurd e (hlt i j hi hj h2)
    · exact h2
    · exact absurd e.symm (hlt j i hj hi h2)

end Go.Proofs.Ytecobfhlpjlpkaa
