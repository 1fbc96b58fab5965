/- Proved here: the arithmetic of junctions and of what is active. No condition. -/
import Derived.Test.YtfjfogiohijkkabDoM
import Derived.Test.YtfjfogiohijkkabPfW
namespace Go.Proofs.Ytfjfogiohijkkab
open Go.RowKit
set_option linter.unusedVariables false

/-- Reached, and where it is below again for the first time. -/
def jst {s : List Int} (a : Int) (q : Bool × Option Nat) (x : Dp s) : Bool × Option Nat :=
  match q.2 with
  | some i => q
  | none => if a ≤ x.1.2 then (true, none) else if q.1 = true then (q.1, some x.1.1) else q
def jf {s : List Int} (a : Int) (pre : List (Dp s)) : Bool × Option Nat := pre.foldl (jst a) (false, none)
theorem jf_snoc {s : List Int} (a : Int) (pre : List (Dp s)) (x : Dp s) : jf a (pre ++ [x]) = jst a (jf a pre) x := by unfold jf; rw [List.foldl_append]; rfl
theorem jf_stay {s : List Int} {a : Int} {i : Nat} : ∀ (q : List (Dp s)) (p : Bool × Option Nat), p.2 = some i → (q.foldl (jst a) p) = p := by
  intro q
  induction q with
  | nil => intro p _; rfl
  | cons x r ih => intro p hp; rw [List.foldl_cons, show jst a p x = p from by unfold jst; rw [hp]]; exact ih p hp
theorem dpL_more {s : List Int} : ∀ (d k : Nat), k + d ≤ s.length → ∃ q, dpL s (k + d) = dpL s k ++ q := by
  intro d
  induction d with
  | zero => intro k _; exact ⟨[], by simp⟩
  | succ d ih =>
    intro k h
    obtain ⟨q, hq⟩ := ih k (by omega)
    refine ⟨q ++ [⟨(k + d, s.getD (k + d) 0), by omega, rfl⟩], ?_⟩
    rw [← List.append_assoc, ← hq]
    exact dpL_succ (show k + d < s.length by omega)
theorem jf_end {s : List Int} {a : Int} {k i : Nat} (hk : k ≤ s.length) (h : (jf a (dpL s k)).2 = some i) : (jf a (dpL s s.length)).2 = some i := by
  obtain ⟨q, hq⟩ := dpL_more (s := s) (s.length - k) k (by omega)
  rw [show k + (s.length - k) = s.length by omega] at hq
  rw [hq]
  unfold jf at h ⊢
  rw [List.foldl_append, jf_stay q _ h]; exact h
def jnO (s : List Int) (a : Int) : Option Nat := (jf a (dpL s s.length)).2
theorem jf_succ {s : List Int} {a : Int} {k : Nat} (hk : k < s.length) : jf a (dpL s (k + 1)) = jst a (jf a (dpL s k)) ⟨(k, s.getD k 0), hk, rfl⟩ := (congrArg (jf a) (dpL_succ hk)).trans (jf_snoc _ _ _)
theorem jf_r {s : List Int} {a : Int} : ∀ k, k ≤ s.length → (jf a (dpL s k)).2 = none → (jf a (dpL s k)).1 = decide (0 < k ∧ a ≤ s.getD (k - 1) 0) := by
  intro k
  induction k with
  | zero => intro _ _; rfl
  | succ k ih =>
    intro hk h
    rw [jf_succ (by omega)] at h ⊢
    obtain ⟨r, e⟩ : ∃ r, r = jf a (dpL s k) := ⟨_, rfl⟩
    rw [← e] at h ih ⊢
    obtain ⟨r1, r2⟩ := r
    unfold jst at h ⊢
    cases r2 with
    | some i => simp at h
    | none =>
      have ih2 := ih (by omega) rfl
      simp only at h ih2 ⊢
      by_cases h1 : a ≤ s.getD k 0
      · rw [if_pos h1]; symm; exact decide_eq_true ⟨by omega, by simpa using h1⟩
      · rw [if_neg h1] at h ⊢
        by_cases h2 : r1 = true
        · rw [if_pos h2] at h; simp at h
        · rw [if_neg h2]; simp only
          have : r1 = false := by simpa using h2
          rw [this]; symm; exact decide_eq_false (fun h => h1 (by simpa using h.2))
/-- The model's test. -/
theorem jf_next {s : List Int} {a : Int} {k : Nat} (h0 : 0 < k) (hk : k < s.length) (h : (jf a (dpL s k)).2 = none) : (jf a (dpL s (k + 1))).2 = if s.getD k 0 < a ∧ a ≤ s.getD (k - 1) 0 then some k else none := by
  have hr := jf_r k (by omega) h
  rw [jf_succ hk]
  obtain ⟨r, e⟩ : ∃ r, r = jf a (dpL s k) := ⟨_, rfl⟩
  rw [← e] at h hr ⊢
  obtain ⟨r1, r2⟩ := r
  simp only at h hr
  subst h
  unfold jst
  simp only
  by_cases h1 : a ≤ s.getD k 0
  · rw [if_pos h1, if_neg (by omega)]
  · rw [if_neg h1]
    by_cases h2 : a ≤ s.getD (k - 1) 0
    · have : r1 = true := by rw [hr]; exact decide_eq_true ⟨h0, h2⟩
      rw [if_pos this, if_pos ⟨by omega, h2⟩]
    · have : r1 = false := by rw [hr]; exact decide_eq_false (fun h => h2 h.2)
      rw [this, if_neg (by decide), if_neg (fun h => h2 h.2)]
theorem jf_one {s : List Int} {a : Int} (h : 0 < s.length) : (jf a (dpL s 1)).2 = none := by
  rw [jf_succ h]
  have e : jf a (dpL s 0) = (false, none) := rfl
  rw [e]
  unfold jst
  simp only
  split <;> rfl
/-- What JunctionOf answers. -/
def jnC (s : List Int) (o a : Int) : Int := if pfC s o = 0 then if 0 ≤ a ∧ a ≤ 1000000000 then if (jnO s a).isSome = true then 0 else 4 else 3 else pfC s o
def jnV (s : List Int) (o a : Int) : Int := if pfC s o = 0 then if 0 ≤ a ∧ a ≤ 1000000000 then ((jnO s a).getD 0 : Nat) else 0 else 0
theorem jn_bad {s : List Int} {o a : Int} (h : pfC s o ≠ 0) : jnC s o a = pfC s o ∧ jnV s o a = 0 := by rw [jnC, jnV, if_neg h, if_neg h]; exact ⟨rfl, rfl⟩
theorem jn_out {s : List Int} {o a : Int} (h : pfC s o = 0) (h2 : ¬ (0 ≤ a ∧ a ≤ 1000000000)) : jnC s o a = 3 ∧ jnV s o a = 0 := by rw [jnC, jnV, if_pos h, if_pos h, if_neg h2, if_neg h2]; exact ⟨rfl, rfl⟩
theorem jn_some {s : List Int} {o a : Int} {i : Nat} (h : pfC s o = 0) (h2 : 0 ≤ a ∧ a ≤ 1000000000) (h3 : jnO s a = some i) : jnC s o a = 0 ∧ jnV s o a = (i : Int) := by rw [jnC, jnV, if_pos h, if_pos h, if_pos h2, if_pos h2, h3]; exact ⟨rfl, rfl⟩
theorem jn_none {s : List Int} {o a : Int} (h : pfC s o = 0) (h2 : 0 ≤ a ∧ a ≤ 1000000000) (h3 : jnO s a = none) : jnC s o a = 4 ∧ jnV s o a = 0 := by rw [jnC, jnV, if_pos h, if_pos h, if_pos h2, if_pos h2, h3]; exact ⟨rfl, rfl⟩
/-- What is active. -/
def mnA (x t : Int) : Int := if x < t then x else t
def acL (s : List Int) (t : Int) : Nat → List Int
  | 0 => s
  | k + 1 => (acL s t k).set k (mnA (s.getD k 0) t)
def acO (s : List Int) (o t : Int) : Nat → Int
  | 0 => o
  | k + 1 => acO s o t k + (s.getD k 0 - mnA (s.getD k 0) t)
theorem acL_len (s : List Int) (t : Int) (k : Nat) : (acL s t k).length = s.length := by
  induction k with
  | zero => rfl
  | succ k ih => rw [acL, List.length_set, ih]
theorem acL_at (s : List Int) (t : Int) : ∀ k j : Nat, k ≤ j → (acL s t k).getD j 0 = s.getD j 0 := by
  intro k
  induction k with
  | zero => intro j _; rfl
  | succ k ih =>
    intro j hj
    rw [acL, ← ih j (by omega)]
    simp [List.getD, List.getElem?_set_ne (show k ≠ j by omega)]
theorem mnA_bd {x t : Int} (hx : 0 ≤ x) (ht : 0 ≤ t) : 0 ≤ mnA x t ∧ mnA x t ≤ x ∧ mnA x t ≤ t := by unfold mnA; split <;> omega
theorem acO_bd {s : List Int} {o t : Int} (h : PG s o) (ht : 0 ≤ t) : ∀ k : Nat, 0 ≤ acO s o t k ∧ acO s o t k ≤ 1000000000 * ((k : Int) + 1) := by
  intro k
  induction k with
  | zero => have := h.o0; simp only [acO]; omega
  | succ k ih =>
    have h1 := h.c k
    have h2 := mnA_bd h1.1 ht
    rw [acO]; omega
def acF (s : List Int) (o t : Int) (pre : List (Dp s)) : List Int × Int := pre.foldl (fun q x => (q.1.set x.1.1 (mnA x.1.2 t), q.2 + (x.1.2 - mnA x.1.2 t))) (s, o)
theorem acF_snoc (s : List Int) (o t : Int) (pre : List (Dp s)) (x : Dp s) : acF s o t (pre ++ [x]) = ((acF s o t pre).1.set x.1.1 (mnA x.1.2 t), (acF s o t pre).2 + (x.1.2 - mnA x.1.2 t)) := by unfold acF; rw [List.foldl_append]; rfl
theorem acF_all (s : List Int) (o t : Int) : ∀ k, k ≤ s.length → acF s o t (dpL s k) = (acL s t k, acO s o t k) := by
  intro k
  induction k with
  | zero => intro _; rfl
  | succ k ih =>
    intro hk
    refine (congrArg (acF s o t) (dpL_succ (show k < s.length by omega))).trans ((acF_snoc _ _ _ _ _).trans ?_)
    rw [ih (by omega)]; rfl
theorem acF_bd {s : List Int} {o t : Int} (h : PG s o) (ht : 0 ≤ t) (pre : List (Dp s)) : 0 ≤ (acF s o t pre).2 ∧ (acF s o t pre).2 ≤ 1000000000 * ((pre.length : Int) + 1) := by
  have key : ∀ (r : List (Dp s)) (m : Nat) (q : List Int × Int), (0 ≤ q.2 ∧ q.2 ≤ 1000000000 * ((m : Int) + 1)) → (0 ≤ (r.foldl (fun q x => (q.1.set x.1.1 (mnA x.1.2 t), q.2 + (x.1.2 - mnA x.1.2 t))) q).2 ∧ (r.foldl (fun q x => (q.1.set x.1.1 (mnA x.1.2 t), q.2 + (x.1.2 - mnA x.1.2 t))) q).2 ≤ 1000000000 * (((m + r.length : Nat) : Int) + 1)) := by
    intro r
    induction r with
    | nil => intro m q hq; simpa using hq
    | cons x r ih =>
      intro m q hq
      rw [List.foldl_cons, List.length_cons, show m + (r.length + 1) = (m + 1) + r.length by omega]
      apply ih (m + 1)
      have h1 := h.c x.1.1
      rw [← x.2.2] at h1
      have h2 := mnA_bd h1.1 ht
      simp only
      omega
  have := key pre 0 (s, o) ⟨h.o0.1, by have := h.o0.2; simp only; omega⟩
  simpa [acF] using this
def acZ (s : List Int) (t : Int) : List Int := acL s t s.length
def acY (s : List Int) (o t : Int) : Int := acO s o t s.length
theorem acZ_len (s : List Int) (t : Int) : (acZ s t).length = s.length := acL_len _ _ _
def acC (s : List Int) (o t : Int) : Int := if pfC s o = 0 then if 0 ≤ t ∧ t ≤ 1000000000 then pfC (acL s t s.length) (acO s o t s.length) else 3 else pfC s o
theorem acC_bad {s : List Int} {o t : Int} (h : pfC s o ≠ 0) : acC s o t = pfC s o := by rw [acC, if_neg h]
theorem acC_out {s : List Int} {o t : Int} (h : pfC s o = 0) (h2 : ¬ (0 ≤ t ∧ t ≤ 1000000000)) : acC s o t = 3 := by rw [acC, if_pos h, if_neg h2]
theorem acC_in {s : List Int} {o t : Int} (h : pfC s o = 0) (h2 : 0 ≤ t ∧ t ≤ 1000000000) : acC s o t = pfC (acL s t s.length) (acO s o t s.length) := by rw [acC, if_pos h, if_pos h2]

end Go.Proofs.Ytfjfogiohijkkab
