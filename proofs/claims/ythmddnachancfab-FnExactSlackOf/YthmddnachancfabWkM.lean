/- Proved here: when a window is right: ckW; what of it both sides ask. No condition on the program. -/
import Derived.Test.YthmddnachancfabWnM
namespace Go.Proofs.Ythmddnachancfab
open Go.RowKit
set_option linter.unusedVariables false
set_option linter.unusedSimpArgs false

/-- All of a box's rows are good: k of them from y on. -/
def agB (P : Nat → Nat → Bool) (x0 x1 : Nat) : Nat → Nat → Bool
  | _, 0 => true
  | y, k + 1 => (goU (P y) x0 (x1 - x0) == x1) && agB P x0 x1 (y + 1) k
theorem goU_full (p : Nat → Bool) : ∀ (d x : Nat), goU p x d = x + d ↔ ∀ i, i < d → p (x + i) = true
  | 0, x => by simp [goU]
  | d + 1, x => by
    rw [goU]
    have ih := goU_full p d (x + 1)
    by_cases h : p x = true
    · rw [if_pos h, show x + (d + 1) = x + 1 + d by omega, ih]
      constructor
      · intro h1 i hi
        by_cases e : i = 0
        · rw [e]; exact h
        · have := h1 (i - 1) (by omega); rw [show x + 1 + (i - 1) = x + i by omega] at this; exact this
      · intro h1 i hi
        have := h1 (i + 1) (by omega); rw [show x + (i + 1) = x + 1 + i by omega] at this; exact this
    · rw [if_neg h]
      constructor
      · intro e; omega
      · intro h1; exact absurd (h1 0 (by omega)) h
theorem agB_iff (P : Nat → Nat → Bool) {x0 x1 : Nat} (hx : x0 ≤ x1) : ∀ (k y : Nat), agB P x0 x1 y k = true ↔ ∀ j, j < k → ∀ i, i < x1 - x0 → P (y + j) (x0 + i) = true
  | 0, y => by simp [agB]
  | k + 1, y => by
    rw [agB, Bool.and_eq_true, beq_iff_eq, agB_iff P hx k (y + 1)]
    have e : x1 = x0 + (x1 - x0) := by omega
    have h := goU_full (P y) (x1 - x0) x0
    constructor
    · rintro ⟨h1, h2⟩ j hj i hi
      by_cases e0 : j = 0
      · rw [e0]; exact h.1 (by omega) i hi
      · have := h2 (j - 1) (by omega) i hi; rw [show y + 1 + (j - 1) = y + j by omega] at this; exact this
    · intro h1
      refine ⟨?_, fun j hj i hi => ?_⟩
      · have := h.2 (fun i hi => h1 0 (by omega) i hi); omega
      · have := h1 (j + 1) (by omega) i hi; rw [show y + (j + 1) = y + 1 + j by omega] at this; exact this
theorem rsum_full {q : Nat → Int} (h : ∀ m, 0 ≤ q m ∧ q m ≤ 1) : ∀ d : Nat, rsum q d = d ↔ ∀ i, i < d → q i = 1
  | 0 => by simp [rsum]
  | d + 1 => by
    have ih := rsum_full h d
    have hb := rsum_bd h d
    have hd := h d
    rw [rsum]
    constructor
    · intro e i hi
      by_cases e0 : i = d
      · rw [e0]; omega
      · exact ih.1 (by omega) i (by omega)
    · intro h1
      have h2 := ih.2 (fun i hi => h1 i (by omega))
      have h3 := h1 d (by omega)
      omega
theorem rsum_most {q : Nat → Int} {c : Int} (hc : 0 ≤ c) (h : ∀ m, 0 ≤ q m ∧ q m ≤ c) : ∀ d : Nat, rsum q d = d * c ↔ ∀ i, i < d → q i = c
  | 0 => by simp [rsum]
  | d + 1 => by
    have ih := rsum_most hc h d
    have hb : rsum q d ≤ d * c := by
      clear ih
      induction d with
      | zero => simp [rsum]
      | succ d ihd => have := h d; have e : ((d + 1 : Nat) : Int) * c = d * c + c := by rw [Int.natCast_add, Int.add_mul]; simp
                      rw [rsum, e]; omega
    have hd := h d
    have e : ((d + 1 : Nat) : Int) * c = d * c + c := by rw [Int.natCast_add, Int.add_mul]; simp
    rw [rsum, e]
    constructor
    · intro e i hi
      by_cases e0 : i = d
      · rw [e0]; omega
      · exact ih.1 (by omega) i (by omega)
    · intro h1
      have h2 := ih.2 (fun i hi => h1 i (by omega))
      have h3 := h1 d (by omega)
      omega
/-- How many ones a box has: k rows from y on. -/
def onN (ls : List (List Int)) (x0 d y k : Nat) : Int := rsum (fun j => rsum (fun i => at2 ls (y + j) (x0 + i)) d) k
theorem onN_bd {ls : List (List Int)} (h : GG 1 ls) (x0 d y : Nat) (k : Nat) : 0 ≤ onN ls x0 d y k ∧ onN ls x0 d y k ≤ k * d := by
  unfold onN
  induction k with
  | zero => simp [rsum]
  | succ k ih =>
    have h1 := rsum_bd (p := fun i => at2 ls (y + k) (x0 + i)) (fun i => by rcases h.bit (y + k) (x0 + i) with e | e <;> (rw [e]; omega)) d
    have e : ((k + 1 : Nat) : Int) * (d : Int) = k * d + d := by rw [Int.natCast_add, Int.add_mul]; simp
    rw [rsum, e]
    omega
theorem onN_full {ls : List (List Int)} (h : GG 1 ls) {x0 x1 : Nat} (hx : x0 ≤ x1) (y k : Nat) : onN ls x0 (x1 - x0) y k = k * ((x1 - x0 : Nat) : Int) ↔ agB (oneP ls) x0 x1 y k = true := by
  rw [agB_iff _ hx]
  unfold onN
  have hbit : ∀ j i, 0 ≤ at2 ls j i ∧ at2 ls j i ≤ 1 := fun j i => by rcases h.bit j i with e | e <;> (rw [e]; omega)
  rw [rsum_most (by omega) (fun j => by have := rsum_bd (p := fun i => at2 ls (y + j) (x0 + i)) (fun i => hbit _ _) (x1 - x0); exact this)]
  constructor
  · intro h1 j hj i hi
    have := (rsum_full (q := fun i => at2 ls (y + j) (x0 + i)) (fun i => hbit _ _) (x1 - x0)).1 (h1 j hj) i hi
    unfold oneP; rw [this]; rfl
  · intro h1 j hj
    refine (rsum_full (q := fun i => at2 ls (y + j) (x0 + i)) (fun i => hbit _ _) (x1 - x0)).2 fun i hi => ?_
    have := h1 j hj i hi
    unfold oneP at this
    exact eq_of_beq this
/-- Is a window right? -/
def ckW (ls : List (List Int)) (C A x0 y0 x1 y1 : Int) : Bool :=
  decide (pmC ls = 0) && decide (C = 0) && decide (0 ≤ x0 ∧ x0 < x1 ∧ x1 ≤ ((ls.getD 0 []).length : Int) ∧ 0 ≤ y0 ∧ y0 < y1 ∧ y1 ≤ (ls.length : Int)) && decide (A = (x1 - x0) * (y1 - y0)) && decide ((lwB ls).a = A) && agB (oneP ls) x0.toNat x1.toNat y0.toNat (y1 - y0).toNat

theorem ck_no1 {ls : List (List Int)} {C A x0 y0 x1 y1 : Int} (h : ¬ lwC ls = 0) : ckW ls C A x0 y0 x1 y1 = false := by
  rw [← Bool.not_eq_true]
  intro e
  unfold ckW at e
  simp only [Bool.and_eq_true, decide_eq_true_eq] at e
  obtain ⟨⟨⟨⟨⟨h1, h2⟩, h3⟩, h4⟩, h5⟩, h6⟩ := e
  apply h
  unfold lwC
  rw [if_pos h1, if_neg]
  rw [h5, h4]
  have := Int.mul_pos (show 0 < x1 - x0 by omega) (show 0 < y1 - y0 by omega)
  omega
theorem ck_no2 {ls : List (List Int)} {C A x0 y0 x1 y1 : Int} (h : ¬ C = 0) : ckW ls C A x0 y0 x1 y1 = false := by
  rw [← Bool.not_eq_true]
  intro e
  unfold ckW at e
  simp only [Bool.and_eq_true, decide_eq_true_eq] at e
  exact h e.1.1.1.1.2
theorem ck_no3 {ls : List (List Int)} {C A x0 y0 x1 y1 : Int} (h : ¬ A = (lwB ls).a) : ckW ls C A x0 y0 x1 y1 = false := by
  rw [← Bool.not_eq_true]
  intro e
  unfold ckW at e
  simp only [Bool.and_eq_true, decide_eq_true_eq] at e
  exact h e.1.2.symm
theorem ck_no4 {ls : List (List Int)} {C A x0 y0 x1 y1 : Int} (h : ¬ (0 ≤ x0 ∧ x0 < x1 ∧ x1 ≤ ((ls.getD 0 []).length : Int) ∧ 0 ≤ y0 ∧ y0 < y1 ∧ y1 ≤ (ls.length : Int))) : ckW ls C A x0 y0 x1 y1 = false := by
  rw [← Bool.not_eq_true]
  intro e
  unfold ckW at e
  simp only [Bool.and_eq_true, decide_eq_true_eq] at e
  exact h e.1.1.1.2
theorem ck_no5 {ls : List (List Int)} {C A x0 y0 x1 y1 : Int} (h : ¬ A = (x1 - x0) * (y1 - y0)) : ckW ls C A x0 y0 x1 y1 = false := by
  rw [← Bool.not_eq_true]
  intro e
  unfold ckW at e
  simp only [Bool.and_eq_true, decide_eq_true_eq] at e
  exact h e.1.1.2
theorem lwC_ok {ls : List (List Int)} (h : lwC ls = 0) : pmC ls = 0 := by
  unfold lwC at h
  split at h
  · assumption
  · exact h
theorem ck_yes {ls : List (List Int)} {A x0 y0 x1 y1 : Int} (h1 : pmC ls = 0) (h3 : 0 ≤ x0 ∧ x0 < x1 ∧ x1 ≤ ((ls.getD 0 []).length : Int) ∧ 0 ≤ y0 ∧ y0 < y1 ∧ y1 ≤ (ls.length : Int)) (h4 : A = (x1 - x0) * (y1 - y0)) (h5 : A = (lwB ls).a) : ckW ls 0 A x0 y0 x1 y1 = agB (oneP ls) x0.toNat x1.toNat y0.toNat (y1 - y0).toNat := by
  unfold ckW
  rw [decide_eq_true h1, decide_eq_true h3, decide_eq_true h4, decide_eq_true h5.symm]
  simp

theorem ck_no6 {ls : List (List Int)} {C A x0 y0 x1 y1 : Int} (h : ¬ pmC ls = 0) : ckW ls C A x0 y0 x1 y1 = false := by
  rw [← Bool.not_eq_true]
  intro e
  unfold ckW at e
  simp only [Bool.and_eq_true, decide_eq_true_eq] at e
  exact h e.1.1.1.1.1

end Go.Proofs.Ythmddnachancfab
