/- Proved here: the arithmetic of stripping. No condition. -/
import Derived.Test.YtfjfogiohijkkaaDoM
namespace Go.Proofs.Ytfjfogiohijkkaa
open Go.RowKit
set_option linter.unusedVariables false

/-- One cell after the other: away, or kept. -/
def srF (c : Int) {s : List Int} (o : Int) (pre : List (Dp s)) : List Int × Int := pre.foldl (fun q x => if (x.1.1 : Int) < c then (q.1, q.2 + x.1.2) else (q.1 ++ [x.1.2], q.2)) ([], o)
theorem srF_snoc (c : Int) {s : List Int} (o : Int) (pre : List (Dp s)) (x : Dp s) : srF c o (pre ++ [x]) = if (x.1.1 : Int) < c then ((srF c o pre).1, (srF c o pre).2 + x.1.2) else ((srF c o pre).1 ++ [x.1.2], (srF c o pre).2) := by
  unfold srF; rw [List.foldl_append]; rfl
theorem srF_all (c : Nat) {s : List Int} (o : Int) : ∀ k, k ≤ s.length → srF c o (dpL s k) = ((s.take k).drop c, o + suL ((s.take k).take c)) := by
  intro k
  induction k with
  | zero => intro _; simp [dpL, srF, suL]
  | succ k ih =>
    intro hk
    have hk1 : k < s.length := by omega
    refine (congrArg (srF c o) (dpL_succ hk1)).trans ((srF_snoc _ _ _ _).trans ?_)
    have h9 := ih (by omega)
    have ht : s.take (k + 1) = s.take k ++ [s.getD k 0] := by rw [List.take_succ_eq_append_getElem hk1, show s.getD k 0 = s[k] from by simp [List.getD, hk1]]
    have hl : (s.take k).length = k := by rw [List.length_take]; omega
    generalize s.take k = T at h9 ht hl
    rw [h9]
    by_cases h : k < c
    · rw [if_pos (by show ((k : Nat) : Int) < c; omega), ht, List.drop_eq_nil_of_le (by rw [hl]; omega), List.drop_eq_nil_of_le (by rw [List.length_append, hl]; simp; omega), List.take_of_length_le (by rw [hl]; omega), List.take_of_length_le (by rw [List.length_append, hl]; simp; omega), suL_app]
      simp [suL]; omega
    · rw [if_neg (by show ¬ ((k : Nat) : Int) < c; omega), ht, List.drop_append_of_le_length (by rw [hl]; omega), List.take_append_of_le_length (by rw [hl]; omega)]
theorem srF_end (c : Nat) {s : List Int} (o : Int) : srF c o (dpL s s.length) = (s.drop c, o + suL (s.take c)) := by
  rw [srF_all c o _ (Nat.le_refl _), List.take_length]
theorem srF_bd {s : List Int} {o : Int} (c : Int) (h : PG s o) : ∀ pre : List (Dp s), 0 ≤ (srF c o pre).2 ∧ (srF c o pre).2 ≤ 1000000000 * (pre.length + 1) ∧ (srF c o pre).1.length ≤ pre.length := by
  have key : ∀ (pre : List (Dp s)) (q : List Int × Int) (m : Nat), 0 ≤ q.2 ∧ q.2 ≤ 1000000000 * ((m : Int) + 1) ∧ q.1.length ≤ m → 0 ≤ (pre.foldl (fun q x => if (x.1.1 : Int) < c then (q.1, q.2 + x.1.2) else (q.1 ++ [x.1.2], q.2)) q).2 ∧ (pre.foldl (fun q x => if (x.1.1 : Int) < c then (q.1, q.2 + x.1.2) else (q.1 ++ [x.1.2], q.2)) q).2 ≤ 1000000000 * (((m + pre.length : Nat) : Int) + 1) ∧ (pre.foldl (fun q x => if (x.1.1 : Int) < c then (q.1, q.2 + x.1.2) else (q.1 ++ [x.1.2], q.2)) q).1.length ≤ m + pre.length := by
    intro pre
    induction pre with
    | nil => intro q m hq; simpa using hq
    | cons x r ih =>
      intro q m hq
      rw [List.foldl_cons]
      have h1 := h.c x.1.1
      rw [← x.2.2] at h1
      have := ih (if (x.1.1 : Int) < c then (q.1, q.2 + x.1.2) else (q.1 ++ [x.1.2], q.2)) (m + 1) (by
        split
        · exact ⟨by simp only; omega, by simp only; omega, by simp only; omega⟩
        · exact ⟨by simp only; omega, by simp only; omega, by simp only [List.length_append, List.length_singleton]; omega⟩)
      rw [List.length_cons, show m + (r.length + 1) = m + 1 + r.length by omega]
      exact this
  intro pre
  have := key pre ([], o) 0 ⟨h.o0.1, by have := h.o0; simp only; omega, by simp⟩
  simpa [srF] using this
/-- What Strip answers. -/
def srC (s : List Int) (o c : Int) : Int := if pfC s o = 0 then if 0 ≤ c ∧ c ≤ (s.length : Int) - 1 then pfC (s.drop c.toNat) (o + suL (s.take c.toNat)) else 3 else pfC s o
theorem srC_bad {s : List Int} {o c : Int} (h : pfC s o ≠ 0) : srC s o c = pfC s o := by rw [srC, if_neg h]
theorem srC_out {s : List Int} {o c : Int} (h : pfC s o = 0) (h2 : ¬ (0 ≤ c ∧ c ≤ (s.length : Int) - 1)) : srC s o c = 3 := by rw [srC, if_pos h, if_neg h2]
theorem srC_in {s : List Int} {o c : Int} (h : pfC s o = 0) (h2 : 0 ≤ c ∧ c ≤ (s.length : Int) - 1) : srC s o c = pfC (s.drop c.toNat) (o + suL (s.take c.toNat)) := by rw [srC, if_pos h, if_pos h2]

end Go.Proofs.Ytfjfogiohijkkaa
