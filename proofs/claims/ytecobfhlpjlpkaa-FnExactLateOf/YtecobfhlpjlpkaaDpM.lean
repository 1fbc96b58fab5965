/- What a map of jobs holds while an order is read. Arithmetic alone. -/
import Derived.Test.YtecobfhlpjlpkaaDkM
namespace Go.Proofs.Ytecobfhlpjlpkaa
open Go.RowKit
set_option linter.unusedVariables false
set_option linter.unusedSimpArgs false


def jmF (s : List Jb) (k : Nat) (x : Int) : Option Jb := if 0 ≤ fdI (jdA s) x k then some (s.getD (fdI (jdA s) x k).toNat default) else none
theorem jmF_zero (s : List Jb) (x : Int) : jmF s 0 x = none := by unfold jmF fdI; rfl
theorem jmF_step {s : List Jb} (h : OkJ s) {k : Nat} (hk : k < s.length) (q : Int) : (if s[k].id = q then some s[k] else jmF s k q) = jmF s (k + 1) q := by
  unfold jmF
  rw [show fdI (jdA s) q (k + 1) = if 0 ≤ fdI (jdA s) q k then fdI (jdA s) q k else if jdA s k = q then (k : Int) else -1 from rfl, jdA_at hk]
  by_cases h1 : 0 ≤ fdI (jdA s) q k
  · obtain ⟨i, hi, h2, h3, _⟩ := fdI_pos h1
    have hil : i < s.length := by omega
    rw [jdA_at hil] at h3
    have h4 : ¬ s[k].id = q := fun e => by
      have := h.uniq i k hil hk (h3.trans e.symm)
      omega
    rw [if_neg h4, if_pos h1, if_pos h1, if_pos h1]
  · rw [if_neg h1, if_neg h1]
    by_cases h4 : s[k].id = q
    · rw [if_pos h4, if_pos h4, if_pos (by omega)]
      simp [List.getD, hk]
    · rw [if_neg h4, if_neg h4, if_neg (by decide)]
def f2J (s : List Jb) (is : List Int) (t : Nat) (q : Int) : Option Jb := if q ∈ is.take t then none else jmF s s.length q
theorem f2J_zero (s : List Jb) (is : List Int) (q : Int) : f2J s is 0 q = jmF s s.length q := by simp [f2J]
theorem f2J_step {s : List Jb} {is : List Int} {t : Nat} (h : t < is.length) (q : Int) : (if is.getD t 0 = q then none else f2J s is t q) = f2J s is (t + 1) q := by
  unfold f2J
  have e : is.take (t + 1) = is.take t ++ [is.getD t 0] := by
    rw [List.take_succ_eq_append_getElem h]; simp [List.getD, h]
  rw [e]
  by_cases h1 : is.getD t 0 = q
  · rw [if_pos h1, if_pos (by rw [List.mem_append]; exact Or.inr (by rw [h1]; exact List.mem_singleton.2 rfl))]
  · rw [if_neg h1]
    by_cases h2 : q ∈ is.take t
    · rw [if_pos h2, if_pos (by rw [List.mem_append]; exact Or.inl h2)]
    · rw [if_neg h2, if_neg (by rw [List.mem_append]; rintro (e | e); exact h2 e; exact h1 (List.mem_singleton.1 e).symm)]
theorem f2J_some (s : List Jb) (is : List Int) (t : Nat) : (f2J s is t (is.getD t 0)).isSome = inO s is t := by
  unfold f2J inO jmF
  by_cases h : is.getD t 0 ∈ is.take t
  · rw [if_pos h, decide_eq_false (p := is.getD t 0 ∉ is.take t) (fun e => e h)]; simp
  · rw [if_neg h]
    by_cases h2 : 0 ≤ fdI (jdA s) (is.getD t 0) s.length
    · rw [if_pos h2, decide_eq_true h2, decide_eq_true h]; rfl
    · rw [if_neg h2, decide_eq_false h2]; rfl
theorem f2J_get {s : List Jb} {is : List Int} {t : Nat} (h : inO s is t = true) : (f2J s is t (is.getD t 0)).getD default = pkJ s (is.getD t 0) := by
  have h1 := h
  unfold inO at h1
  rw [Bool.and_eq_true, decide_eq_true_iff, decide_eq_true_iff] at h1
  unfold f2J jmF pkJ
  rw [if_neg h1.2, if_pos h1.1]; rfl
theorem pkL_step {s : List Jb} {is : List Int} {t : Nat} (h : t < is.length) : pkL s (is.take (t + 1)) = pkL s (is.take t) ++ [pkJ s (is.getD t 0)] := by
  unfold pkL
  rw [List.take_succ_eq_append_getElem h, List.map_append]
  simp [List.getD, h]
theorem joC_bad {s : List Jb} {is : List Int} (h : jbF s ≠ 0) : joC s is = jbF s ∧ joL s is = [] := by
  have e : joC s is = jbF s := by unfold joC; rw [if_pos h]
  exact ⟨e, by unfold joL; rw [e, if_neg h]⟩
theorem joC_no {s : List Jb} {is : List Int} (h : jbF s = 0) (h2 : ordB s is = false) : joC s is = 1 ∧ joL s is = [] := by
  have e : joC s is = 1 := by unfold joC; rw [if_neg (fun e => e h), h2]; rfl
  exact ⟨e, by unfold joL; rw [e]; rfl⟩
theorem joC_ok {s : List Jb} {is : List Int} (h : jbF s = 0) (h2 : ordB s is = true) : joC s is = 0 ∧ joL s is = pkL s is := by
  have e : joC s is = 0 := by unfold joC; rw [if_neg (fun e => e h), h2]; rfl
  exact ⟨e, by unfold joL; rw [e]; rfl⟩

end Go.Proofs.Ytecobfhlpjlpkaa
