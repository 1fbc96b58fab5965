/- Proved here: the arithmetic of implanting by a table. No condition. -/
import Derived.Test.YtfjfogiohijkkaaDoM
import Derived.Test.YtfjfogiohijkkaaPfW
namespace Go.Proofs.Ytfjfogiohijkkaa
open Go.RowKit
set_option linter.unusedVariables false

def inS (x : Int) : Bool := decide (0 ≤ x ∧ x ≤ 1000)
def itD (d f : Int) : Bool := decide ((0 ≤ d ∧ d ≤ 1000000) ∧ 0 ≤ f ∧ f ≤ 40)
/-- The table's fault. -/
def itF (d : Int) (sh : List Int) (f : Int) : Int := if sh.length = 0 then 1 else if 40 < sh.length then 2 else if itD d f = true ∧ sh.all inS = true ∧ suL sh ≤ 1000 then 0 else 3
theorem itF_0 {d f : Int} {sh : List Int} (h : sh.length = 0) : itF d sh f = 1 := by rw [itF, if_pos h]
theorem itF_many {d f : Int} {sh : List Int} (h : 40 < sh.length) : itF d sh f = 2 := by rw [itF, if_neg (by omega), if_pos h]
theorem itF_d {d f : Int} {sh : List Int} (h0 : sh.length ≠ 0) (h1 : ¬ 40 < sh.length) (h : itD d f = false) : itF d sh f = 3 := by
  rw [itF, if_neg h0, if_neg h1, if_neg]
  rintro ⟨h2, _⟩; rw [h] at h2; cases h2
theorem itF_at {d f : Int} {sh : List Int} (h0 : sh.length ≠ 0) (h1 : ¬ 40 < sh.length) {i : Nat} (hi : i < sh.length) (h : inS (sh.getD i 0) = false) : itF d sh f = 3 := by
  rw [itF, if_neg h0, if_neg h1, if_neg]
  rintro ⟨_, h2, _⟩
  have := List.all_eq_true.1 h2 _ (List.getElem_mem hi)
  rw [show sh.getD i 0 = sh[i] from by simp [List.getD, hi]] at h
  rw [h] at this; cases this
theorem itF_sum {d f : Int} {sh : List Int} (h0 : sh.length ≠ 0) (h1 : ¬ 40 < sh.length) (h : 1000 < suL sh) : itF d sh f = 3 := by
  rw [itF, if_neg h0, if_neg h1, if_neg]
  rintro ⟨_, _, h2⟩; omega
theorem itF_good {d f : Int} {sh : List Int} (h0 : sh.length ≠ 0) (h1 : ¬ 40 < sh.length) (h2 : itD d f = true) (h : ∀ i, i < sh.length → inS (sh.getD i 0) = true) (h3 : suL sh ≤ 1000) : itF d sh f = 0 := by
  rw [itF, if_neg h0, if_neg h1, if_pos]
  refine ⟨h2, List.all_eq_true.2 fun x hx => ?_, h3⟩
  obtain ⟨i, hi, rfl⟩ := List.getElem_of_mem hx
  have := h i hi
  rwa [show sh.getD i 0 = sh[i] from by simp [List.getD, hi]] at this
structure IG (d : Int) (sh : List Int) (f : Int) : Prop where
  pos : 0 < sh.length
  len : sh.length ≤ 40
  c : ∀ i, 0 ≤ sh.getD i 0 ∧ sh.getD i 0 ≤ 1000
  d : 0 ≤ d ∧ d ≤ 1000000
  f : 0 ≤ f ∧ f ≤ 40
theorem itF_ok {d f : Int} {sh : List Int} (h : itF d sh f = 0) : IG d sh f := by
  unfold itF at h
  split at h
  · omega
  split at h
  · omega
  split at h
  · rename_i h1 h2 h3
    have hd := h3.1
    unfold itD at hd
    have hd2 : (0 ≤ d ∧ d ≤ 1000000) ∧ 0 ≤ f ∧ f ≤ 40 := by simpa using hd
    refine ⟨by omega, by omega, fun i => ?_, hd2.1, hd2.2⟩
    by_cases hi : i < sh.length
    · have := List.all_eq_true.1 h3.2.1 _ (List.getElem_mem hi)
      rw [show sh.getD i 0 = sh[i] from by simp [List.getD, hi]]
      unfold inS at this; simpa using this
    · rw [show sh.getD i 0 = 0 from by simp [List.getD, List.getElem?_eq_none (show sh.length ≤ i by omega)]]; omega
  · omega
/-- Sums of shares that are right so far. -/
theorem suS_bd {s : List Int} : ∀ k : Nat, k ≤ s.length → (∀ j, j < k → inS (s.getD j 0) = true) → 0 ≤ suL (s.take k) ∧ suL (s.take k) ≤ 1000 * k := by
  intro k
  induction k with
  | zero => intro _ _; simp [suL]
  | succ k ih =>
    intro hk h
    rw [suL_take (by omega)]
    have h1 := ih (by omega) (fun j hj => h j (by omega))
    have h2 := h k (by omega)
    unfold inS at h2
    have h3 : 0 ≤ s.getD k 0 ∧ s.getD k 0 ≤ 1000 := by simpa using h2
    omega
def itP (d : Int) (sh : List Int) (k : Nat) : Int := d * sh.getD k 0 / 1000
theorem itP_bd {d f : Int} {sh : List Int} (h : IG d sh f) (k : Nat) : 0 ≤ itP d sh k ∧ itP d sh k ≤ 1000000 ∧ 0 ≤ d * sh.getD k 0 ∧ d * sh.getD k 0 ≤ 1000000000 := by
  have h1 : 0 ≤ d * sh.getD k 0 := Int.mul_nonneg h.d.1 (h.c k).1
  have h2 : d * sh.getD k 0 ≤ 1000000 * 1000 := Int.mul_le_mul h.d.2 (h.c k).2 (h.c k).1 (by omega)
  unfold itP
  omega
def itL (s : List Int) (d : Int) (sh : List Int) (f : Nat) : Nat → List Int
  | 0 => s
  | k + 1 => ptL (itL s d sh f k) (f + k) (itP d sh k)
def itT (s : List Int) (o d : Int) (sh : List Int) (f : Nat) : Nat → Int
  | 0 => o + d
  | k + 1 => if f + k < s.length then itT s o d sh f k - itP d sh k else itT s o d sh f k
theorem itL_len (s : List Int) (d : Int) (sh : List Int) (f k : Nat) : (itL s d sh f k).length = s.length := by
  induction k with
  | zero => rfl
  | succ k ih => rw [itL, ptL_len, ih]
theorem ptL_at (L : List Int) (d : Nat) (a : Int) (j : Nat) : (ptL L d a).getD j 0 = if j = d ∧ d < L.length then L.getD d 0 + a else L.getD j 0 := by
  unfold ptL
  by_cases h : j = d
  · subst h
    by_cases h2 : j < L.length
    · rw [if_pos ⟨rfl, h2⟩]; simp [List.getD, h2]
    · rw [if_neg (by omega), List.set_eq_of_length_le (by omega)]
  · rw [if_neg (by omega)]; simp [List.getD, List.getElem?_set_ne (fun e => h e.symm)]
theorem itL_bd {s : List Int} {o d f : Int} {sh : List Int} (hs : PG s o) (h : IG d sh f) (q : Nat) : ∀ k j : Nat, 0 ≤ (itL s d sh q k).getD j 0 ∧ (itL s d sh q k).getD j 0 ≤ 1000000000 + 1000000 * k := by
  intro k
  induction k with
  | zero => intro j; have := hs.c j; simp only [itL]; omega
  | succ k ih =>
    intro j
    have h1 := itP_bd h k
    have h2 := ih j
    have h3 := ih (q + k)
    rw [itL, ptL_at]
    split <;> omega
theorem itT_bd {s : List Int} {o d f : Int} {sh : List Int} (h : IG d sh f) (q : Nat) : ∀ k : Nat, o + d - 1000000 * k ≤ itT s o d sh q k ∧ itT s o d sh q k ≤ o + d := by
  intro k
  induction k with
  | zero => simp only [itT]; omega
  | succ k ih =>
    have h1 := itP_bd h k
    rw [itT]
    split <;> omega
theorem it_stop {s : List Int} {o d : Int} {sh : List Int} {q k : Nat} (h : s.length ≤ q + k) : ∀ m, k ≤ m → itL s d sh q m = itL s d sh q k ∧ itT s o d sh q m = itT s o d sh q k := by
  intro m
  induction m with
  | zero => intro hm; obtain rfl : k = 0 := by omega
            exact ⟨rfl, rfl⟩
  | succ m ih =>
    intro hm
    by_cases e : k = m + 1
    · subst e; exact ⟨rfl, rfl⟩
    · have h1 := ih (by omega)
      rw [itL, itT, if_neg (by omega), h1.1, h1.2, ptL, List.set_eq_of_length_le (by rw [itL_len]; omega)]
      exact ⟨rfl, rfl⟩
/-- What ImplantTable answers. -/
def itC (s : List Int) (o d : Int) (sh : List Int) (f : Int) : Int := if pfC s o = 0 then if itF d sh f = 0 then pfC (itL s d sh f.toNat sh.length) (itT s o d sh f.toNat sh.length) else itF d sh f else pfC s o
theorem itC_bad {s sh : List Int} {o d f : Int} (h : pfC s o ≠ 0) : itC s o d sh f = pfC s o := by rw [itC, if_neg h]
theorem itC_f {s sh : List Int} {o d f : Int} (h : pfC s o = 0) (h2 : itF d sh f ≠ 0) : itC s o d sh f = itF d sh f := by rw [itC, if_pos h, if_neg h2]
theorem itC_in {s sh : List Int} {o d f : Int} (h : pfC s o = 0) (h2 : itF d sh f = 0) : itC s o d sh f = pfC (itL s d sh f.toNat sh.length) (itT s o d sh f.toNat sh.length) := by rw [itC, if_pos h, if_pos h2]

end Go.Proofs.Ytfjfogiohijkkaa
