/- Proved here: the arithmetic of annealing. No condition. -/
import Derived.Test.YtfjfogiohijkkaaDoM
import Derived.Test.YtfjfogiohijkkaaPfW
namespace Go.Proofs.Ytfjfogiohijkkaa
open Go.RowKit
set_option linter.unusedVariables false

/-- One cell d gives g to both sides; above the first it comes back. -/
def gsL (L : List Int) (d : Nat) (g : Int) : List Int := ptL (ptL (L.set d (L.getD d 0 - 2 * g)) (d - 1) g) (d + 1) g
def gsO (n : Nat) (O : Int) (d : Nat) (g : Int) : Int := if d + 1 < n then O else O + g
theorem gsL_len (L : List Int) (d : Nat) (g : Int) : (gsL L d g).length = L.length := by rw [gsL, ptL_len, ptL_len, List.length_set]
theorem set_at (L : List Int) (d : Nat) (y : Int) (j : Nat) : (L.set d y).getD j 0 = if j = d ∧ d < L.length then y else L.getD j 0 := by
  by_cases h : j = d
  · subst h
    by_cases h2 : j < L.length
    · rw [if_pos ⟨rfl, h2⟩]; simp [List.getD, h2]
    · rw [if_neg (by omega), List.set_eq_of_length_le (by omega)]
  · rw [if_neg (by omega)]; simp [List.getD, List.getElem?_set_ne (fun e => h e.symm)]
theorem ptL_get (L : List Int) (d : Nat) (a : Int) (j : Nat) : (ptL L d a).getD j 0 = if j = d ∧ d < L.length then L.getD d 0 + a else L.getD j 0 := set_at L d _ j
theorem gsL_lo {L : List Int} {d : Nat} {g : Int} (hg : 0 ≤ g) (j : Nat) : (if j = d then L.getD j 0 - 2 * g else L.getD j 0) ≤ (gsL L d g).getD j 0 := by
  have h1 : (if j = d then L.getD j 0 - 2 * g else L.getD j 0) ≤ (L.set d (L.getD d 0 - 2 * g)).getD j 0 := by
    rw [set_at]; split <;> split <;> first | omega | (rename_i h1 h2; subst h1; omega) | (rename_i h1 h2; exact absurd h2.1 h1)
  have h2 : ∀ (A : List Int) (q : Nat), A.getD j 0 ≤ (ptL A q g).getD j 0 := by
    intro A q; rw [ptL_get]; split
    · rename_i h; rw [h.1]; omega
    · exact Int.le_refl _
  exact Int.le_trans h1 (Int.le_trans (h2 _ _) (h2 _ _))
theorem gsL_hi {L : List Int} {d : Nat} {g : Int} (hg : 0 ≤ g) (j : Nat) : (gsL L d g).getD j 0 ≤ L.getD j 0 + 2 * g := by
  have h1 : (L.set d (L.getD d 0 - 2 * g)).getD j 0 ≤ L.getD j 0 := by
    rw [set_at]; split
    · rename_i h; rw [h.1]; omega
    · exact Int.le_refl _
  have h2 : ∀ (A : List Int) (q : Nat), (ptL A q g).getD j 0 ≤ A.getD j 0 + g := by
    intro A q; rw [ptL_get]; split
    · rename_i h; rw [h.1]; omega
    · omega
  have h3 := h2 (L.set d (L.getD d 0 - 2 * g)) (d - 1)
  have h4 := h2 (ptL (L.set d (L.getD d 0 - 2 * g)) (d - 1) g) (d + 1)
  unfold gsL
  omega
theorem suL_set {L : List Int} {d : Nat} (h : d < L.length) (y : Int) : suL (L.set d y) = suL L - L.getD d 0 + y := by
  induction L generalizing d with
  | nil => simp at h
  | cons x r ih =>
    cases d with
    | zero => simp [suL]; omega
    | succ d => simp only [List.set_cons_succ, suL]; rw [ih (by simpa using h)]; simp; omega
theorem suL_pt (L : List Int) (d : Nat) (g : Int) : suL (ptL L d g) = if d < L.length then suL L + g else suL L := by
  split
  · rename_i h; rw [ptL, suL_set h]; omega
  · rename_i h; rw [ptL, List.set_eq_of_length_le (by omega)]
theorem suL_gs {L : List Int} {d : Nat} (h : d < L.length) (O g : Int) : suL (gsL L d g) + gsO L.length O d g = suL L + O := by
  rw [gsL, suL_pt, suL_pt, suL_set h, ptL_len, List.length_set, gsO, if_pos (show d - 1 < L.length by omega)]
  split <;> omega
theorem le_su {L : List Int} (h : ∀ i, 0 ≤ L.getD i 0) (j : Nat) : L.getD j 0 ≤ suL L ∧ 0 ≤ suL L := by
  induction L generalizing j with
  | nil => simp [suL]
  | cons x r ih =>
    have h0 := h 0
    have h1 : ∀ i, 0 ≤ r.getD i 0 := fun i => by have := h (i + 1); simpa using this
    simp at h0
    cases j with
    | zero => have := ih h1 0; simp [suL] at this ⊢; omega
    | succ j => have := ih h1 j; simp [suL] at this ⊢; omega
/-- What a cell gives to one side. -/
def gvA (x a : Int) : Int := x * a / 64
theorem gvA_bd {x a : Int} (hx : 0 ≤ x) (ha : 0 ≤ a ∧ a ≤ 32) : 0 ≤ gvA x a ∧ 2 * gvA x a ≤ x ∧ 0 ≤ x * a ∧ x * a ≤ 32 * x := by
  have h1 : 0 ≤ x * a := Int.mul_nonneg hx ha.1
  have h2 : x * a ≤ x * 32 := Int.mul_le_mul_of_nonneg_left ha.2 hx
  unfold gvA
  omega
/-- The profile when the first k cells have given. -/
def anL (s : List Int) (a : Int) : Nat → List Int
  | 0 => s
  | k + 1 => gsL (anL s a k) k (gvA (s.getD k 0) a)
def anO (s : List Int) (o a : Int) : Nat → Int
  | 0 => o
  | k + 1 => gsO s.length (anO s o a k) k (gvA (s.getD k 0) a)
theorem anL_len (s : List Int) (a : Int) (k : Nat) : (anL s a k).length = s.length := by
  induction k with
  | zero => rfl
  | succ k ih => rw [anL, gsL_len, ih]
/-- A profile under way: nothing below 0, nothing lost. -/
structure AG (T : Int) (s : List Int) (o : Int) : Prop where
  c : ∀ j, 0 ≤ s.getD j 0
  o0 : 0 ≤ o
  su : suL s + o = T
theorem AG.le {T : Int} {s : List Int} {o : Int} (h : AG T s o) (j : Nat) : s.getD j 0 ≤ T ∧ o ≤ T := by
  have h1 := le_su h.c j
  have h2 := h.su
  have h3 := h.o0
  omega
theorem an_inv {T : Int} {s : List Int} {o a : Int} (h : AG T s o) (ha : 0 ≤ a ∧ a ≤ 32) : ∀ k, k ≤ s.length → AG T (anL s a k) (anO s o a k) ∧ ∀ j, k ≤ j → s.getD j 0 ≤ (anL s a k).getD j 0 := by
  intro k
  induction k with
  | zero => intro _; exact ⟨h, fun j _ => Int.le_refl _⟩
  | succ k ih =>
    intro hk
    obtain ⟨h1, h2⟩ := ih (by omega)
    have hg := gvA_bd (h.c k) ha
    have hlo := fun j => gsL_lo (L := anL s a k) (d := k) hg.1 j
    refine ⟨⟨fun j => ?_, ?_, ?_⟩, fun j hj => ?_⟩
    · have h3 := hlo j
      have h4 := h1.c j
      rw [anL]
      split at h3
      · rename_i e; subst e; have := h2 j (Nat.le_refl _); omega
      · omega
    · rw [anO, gsO]; have := h1.o0; split <;> omega
    · rw [anL, anO, ← anL_len s a k, suL_gs (by rw [anL_len]; omega)]; exact h1.su
    · have h3 := hlo j
      rw [if_neg (by omega)] at h3
      rw [anL]
      have := h2 j (by omega)
      omega
/-- The model's way of one cell. -/
theorem gs_model0 {L : List Int} (h : 0 < L.length) (g : Int) : ptL (L.set 0 (L.getD 0 0 - g)) 1 g = gsL L 0 g := by
  rw [gsL]
  congr 1
  rw [ptL, set_at, if_pos ⟨rfl, by simpa using h⟩]
  simp
  congr 1
  omega
theorem gs_model {L : List Int} {k : Nat} (hk : 0 < k) (h : k < L.length) (g : Int) : ptL ((ptL (L.set k (L.getD k 0 - g)) (k - 1) g).set k ((ptL (L.set k (L.getD k 0 - g)) (k - 1) g).getD k 0 - g)) (k + 1) g = gsL L k g := by
  rw [gsL]
  congr 1
  have e1 : (ptL (L.set k (L.getD k 0 - g)) (k - 1) g).getD k 0 = L.getD k 0 - g := by
    rw [ptL_get, if_neg (by omega), set_at, if_pos ⟨rfl, h⟩]
  rw [e1]
  have e2 : ∀ y, (L.set k y).getD (k - 1) 0 = L.getD (k - 1) 0 := fun y => by rw [set_at, if_neg (by omega)]
  rw [ptL, ptL, e2, e2, show L.getD k 0 - g - g = L.getD k 0 - 2 * g by omega, List.set_comm (L.getD k 0 - g) (L.getD (k - 1) 0 + g) (show k ≠ k - 1 by omega), List.set_set, List.set_comm _ _ (show k - 1 ≠ k by omega)]
/-- The program's rounds, in whatever order. -/
def anF (s : List Int) (o a : Int) (pre : List (Dp s)) : List Int × Int := pre.foldl (fun q x => (gsL q.1 x.1.1 (gvA x.1.2 a), gsO s.length q.2 x.1.1 (gvA x.1.2 a))) (s, o)
theorem anF_snoc (s : List Int) (o a : Int) (pre : List (Dp s)) (x : Dp s) : anF s o a (pre ++ [x]) = (gsL (anF s o a pre).1 x.1.1 (gvA x.1.2 a), gsO s.length (anF s o a pre).2 x.1.1 (gvA x.1.2 a)) := by
  unfold anF; rw [List.foldl_append]; rfl
theorem anF_all (s : List Int) (o a : Int) : ∀ k, k ≤ s.length → anF s o a (dpL s k) = (anL s a k, anO s o a k) := by
  intro k
  induction k with
  | zero => intro _; rfl
  | succ k ih =>
    intro hk
    refine (congrArg (anF s o a) (dpL_succ (show k < s.length by omega))).trans ((anF_snoc _ _ _ _ _).trans ?_)
    rw [ih (by omega)]; rfl
theorem anF_bd {T : Int} {s : List Int} {o a : Int} (h : AG T s o) (ha : 0 ≤ a ∧ a ≤ 32) (pre : List (Dp s)) : (anF s o a pre).1.length = s.length ∧ (∀ j, - (2 * T * pre.length) ≤ (anF s o a pre).1.getD j 0 ∧ (anF s o a pre).1.getD j 0 ≤ T * (2 * pre.length + 1)) ∧ 0 ≤ (anF s o a pre).2 ∧ (anF s o a pre).2 ≤ T * (pre.length + 1) := by
  have key : ∀ (r : List (Dp s)) (m : Nat) (q : List Int × Int), (q.1.length = s.length ∧ (∀ j, - (2 * T * m) ≤ q.1.getD j 0 ∧ q.1.getD j 0 ≤ T * (2 * m + 1)) ∧ 0 ≤ q.2 ∧ q.2 ≤ T * (m + 1)) →
      ((r.foldl (fun q x => (gsL q.1 x.1.1 (gvA x.1.2 a), gsO s.length q.2 x.1.1 (gvA x.1.2 a))) q).1.length = s.length ∧ (∀ j, - (2 * T * ((m + r.length : Nat) : Int)) ≤ (r.foldl (fun q x => (gsL q.1 x.1.1 (gvA x.1.2 a), gsO s.length q.2 x.1.1 (gvA x.1.2 a))) q).1.getD j 0 ∧ (r.foldl (fun q x => (gsL q.1 x.1.1 (gvA x.1.2 a), gsO s.length q.2 x.1.1 (gvA x.1.2 a))) q).1.getD j 0 ≤ T * (2 * ((m + r.length : Nat) : Int) + 1)) ∧ 0 ≤ (r.foldl (fun q x => (gsL q.1 x.1.1 (gvA x.1.2 a), gsO s.length q.2 x.1.1 (gvA x.1.2 a))) q).2 ∧ (r.foldl (fun q x => (gsL q.1 x.1.1 (gvA x.1.2 a), gsO s.length q.2 x.1.1 (gvA x.1.2 a))) q).2 ≤ T * (((m + r.length : Nat) : Int) + 1)) := by
    intro r
    induction r with
    | nil => intro m q hq; simpa using hq
    | cons x r ih =>
      intro m q hq
      rw [List.foldl_cons, List.length_cons, show m + (r.length + 1) = (m + 1) + r.length by omega]
      have hx := h.c x.1.1
      have hx2 := (h.le x.1.1).1
      rw [← x.2.2] at hx hx2
      have hg := gvA_bd hx ha
      apply ih (m + 1)
      have e1 : 2 * T * ((m + 1 : Nat) : Int) = 2 * T * (m : Int) + 2 * T := by push_cast; rw [Int.mul_add, Int.mul_one]
      have e2 : T * (2 * ((m + 1 : Nat) : Int) + 1) = T * (2 * (m : Int) + 1) + 2 * T := by push_cast; rw [Int.mul_add, Int.mul_add, Int.mul_add, Int.mul_add]; omega
      have e3 : T * (((m + 1 : Nat) : Int) + 1) = T * ((m : Int) + 1) + T := by push_cast; rw [Int.mul_add, Int.mul_add]; omega
      refine ⟨by simp only; rw [gsL_len]; exact hq.1, fun j => ?_, ?_, ?_⟩
      · have h1 := gsL_lo (L := q.1) (d := x.1.1) hg.1 j
        have h2 := gsL_hi (L := q.1) (d := x.1.1) hg.1 j
        have h3 := hq.2.1 j
        simp only
        rw [e1, e2]
        split at h1 <;> omega
      · simp only [gsO]; have := hq.2.2.1; split <;> omega
      · simp only [gsO]; rw [e3]; have := hq.2.2.2; split <;> omega
  have := key pre 0 (s, o) ⟨rfl, fun j => by
    have h8 := h.c j
    have h9 := (h.le j).1
    have e : 2 * T * ((0 : Nat) : Int) = 0 := by simp
    have e' : T * (2 * ((0 : Nat) : Int) + 1) = T := by simp
    rw [e, e']
    exact ⟨show (-0 : Int) ≤ s.getD j 0 by omega, h9⟩, h.o0, by have := (h.le 0).2; simp; omega⟩
  simpa [anF] using this
/-- m steps. -/
def anN (s : List Int) (o a : Int) : Nat → List Int × Int
  | 0 => (s, o)
  | m + 1 => (anL (anN s o a m).1 a (anN s o a m).1.length, anO (anN s o a m).1 (anN s o a m).2 a (anN s o a m).1.length)
theorem anN_ok {T : Int} {s : List Int} {o a : Int} (h : AG T s o) (ha : 0 ≤ a ∧ a ≤ 32) : ∀ m, AG T (anN s o a m).1 (anN s o a m).2 ∧ (anN s o a m).1.length = s.length := by
  intro m
  induction m with
  | zero => exact ⟨h, rfl⟩
  | succ m ih => exact ⟨(an_inv ih.1 ha _ (Nat.le_refl _)).1, by rw [anN]; simp only; rw [anL_len]; exact ih.2⟩
theorem AG.of {s : List Int} {o : Int} (h : PG s o) : AG (suL s + o) s o ∧ suL s + o ≤ 41000000000 := by
  refine ⟨⟨fun j => (h.c j).1, h.o0.1, rfl⟩, ?_⟩
  have h1 := suL_bd h.c s.length (Nat.le_refl _)
  rw [List.take_length] at h1
  have h2 := h.len
  have h3 := h.o0
  omega
/-- What Anneal answers. -/
def anC (s : List Int) (o a m : Int) : Int := if pfC s o = 0 then if (0 ≤ a ∧ a ≤ 32) ∧ 0 ≤ m ∧ m ≤ 50 then pfC (anN s o a m.toNat).1 (anN s o a m.toNat).2 else 3 else pfC s o
theorem anC_bad {s : List Int} {o a m : Int} (h : pfC s o ≠ 0) : anC s o a m = pfC s o := by rw [anC, if_neg h]
theorem anC_out {s : List Int} {o a m : Int} (h : pfC s o = 0) (h2 : ¬ ((0 ≤ a ∧ a ≤ 32) ∧ 0 ≤ m ∧ m ≤ 50)) : anC s o a m = 3 := by rw [anC, if_pos h, if_neg h2]
theorem anC_in {s : List Int} {o a m : Int} (h : pfC s o = 0) (h2 : (0 ≤ a ∧ a ≤ 32) ∧ 0 ≤ m ∧ m ≤ 50) : anC s o a m = pfC (anN s o a m.toNat).1 (anN s o a m.toNat).2 := by rw [anC, if_pos h, if_pos h2]

end Go.Proofs.Ytfjfogiohijkkaa
