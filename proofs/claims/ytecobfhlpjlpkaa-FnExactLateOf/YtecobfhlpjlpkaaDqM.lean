/- What an order of jobs without a fault is. Arithmetic alone. -/
import Derived.Test.YtecobfhlpjlpkaaDpM
namespace Go.Proofs.Ytecobfhlpjlpkaa
open Go.RowKit
set_option linter.unusedVariables false
set_option linter.unusedSimpArgs false


theorem joL_bad {s : List Jb} {is : List Int} (h : joC s is ≠ 0) : joL s is = [] := by unfold joL; rw [if_neg h]
theorem joC_zero {s : List Jb} {is : List Int} (h : joC s is = 0) : jbF s = 0 ∧ ordB s is = true := by
  by_cases h1 : jbF s = 0
  · refine ⟨h1, ?_⟩
    cases h2 : ordB s is
    · rw [(joC_no (is := is) h1 h2).1] at h; cases h
    · rfl
  · rw [(joC_bad (is := is) h1).1] at h; exact absurd h h1
theorem pkL_ok {s : List Jb} {is : List Int} (h : OkJ s) (hin : ∀ i, i < is.length → 0 ≤ fdI (jdA s) (is.getD i 0) s.length) : ∀ i (hi : i < (pkL s is).length), rgJ (pkL s is)[i] := by
  intro i hi
  have hi2 : i < is.length := by rw [pkL_len] at hi; exact hi
  have e : (pkL s is)[i] = pkJ s (is.getD i 0) := by simp [pkL, List.getD, hi2]
  rw [e]
  obtain ⟨j, hj, e2, _, _⟩ := pkJ_rg h (hin i hi2)
  rw [e2]
  exact h.rg j hj
theorem joL_ok {s : List Jb} {is : List Int} (h : joC s is = 0) : (joL s is).length ≤ 30 ∧ ∀ i (hi : i < (joL s is).length), rgJ (joL s is)[i] := by
  obtain ⟨h1, h2⟩ := joC_zero h
  have hok := jbF_ok h1
  have e : joL s is = pkL s is := (joC_ok h1 h2).2
  obtain ⟨h3, h4⟩ := ordB_at h2
  rw [e]
  exact ⟨by rw [pkL_len, h3]; exact hok.len, pkL_ok hok fun i hi => (h4 i hi).1⟩

end Go.Proofs.Ytecobfhlpjlpkaa
