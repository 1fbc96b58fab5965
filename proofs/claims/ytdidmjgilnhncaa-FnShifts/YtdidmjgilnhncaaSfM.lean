/- Proved here: shifts of lists: sums at a shift, the best shift, faults; bounds. No condition on the program. -/
import Derived.Test.YtdidmjgilnhncaaNlJ
namespace Go.Proofs.Ytdidmjgilnhncaa
open Go.RowKit
set_option linter.unusedVariables false
set_option linter.unusedSimpArgs false

/-- The sum at a shift, over the first k places. -/
def tmK (a b : List Int) (t : Int) (k : Nat) : Int := if 0 ≤ (k : Int) + t ∧ (k : Int) + t < (b.length : Int) then a.getD k 0 * b.getD ((k : Int) + t).toNat 0 else 0
def scK (a b : List Int) (t : Int) : Nat → Int
  | 0 => 0
  | k + 1 => scK a b t k + tmK a b t k
def scA (a b : List Int) (t : Int) : Int := scK a b t a.length
/-- The shifts by rising size. -/
def tK (k : Nat) : Int := if k % 2 = 1 then -(((k + 1) / 2 : Nat) : Int) else (((k + 1) / 2 : Nat) : Int)
def bsK (a b : List Int) : Nat → Int × Int
  | 0 => (0, scA a b 0)
  | k + 1 => if (bsK a b k).2 < scA a b (tK (k + 1)) then (tK (k + 1), scA a b (tK (k + 1))) else bsK a b k
def outS (n : Int) : Bool := !(decide (-1000 ≤ n ∧ n ≤ 1000))
def sgF (a b : List Int) (most : Int) : Int :=
  if a.length = 0 ∨ b.length = 0 then 1 else if 200 < a.length ∨ 200 < b.length then 2 else if a.any outS = true ∨ b.any outS = true ∨ ¬ (0 ≤ most ∧ most ≤ 100) then 3 else 0
def shC (a b : List Int) (most : Int) : Int := sgF a b most
def shV (a b : List Int) (most : Int) : Int := if sgF a b most = 0 then (bsK a b (2 * most.toNat)).1 else 0
theorem any_dropI {P : Int → Bool} {s : List Int} {k : Nat} (h : k < s.length) : (s.drop k).any P = (P (s.getD k 0) || (s.drop (k + 1)).any P) := by
  rw [List.drop_eq_getElem_cons h, List.any_cons, List.getD_eq_getElem?_getD, List.getElem?_eq_getElem h]; rfl
theorem inL {s : List Int} (h : s.any outS = false) (j : Nat) : -1000 ≤ s.getD j 0 ∧ s.getD j 0 ≤ 1000 := by
  rcases Nat.lt_or_ge j s.length with hj | hj
  · have := List.any_eq_false.1 h (s.getD j 0) (by rw [List.getD_eq_getElem?_getD, List.getElem?_eq_getElem hj]; exact List.getElem_mem hj)
    unfold outS at this
    simpa using this
  · rw [List.getD_eq_getElem?_getD, List.getElem?_eq_none hj]; exact ⟨by decide, by decide⟩
theorem mul_in {x y A B : Int} (h1 : -A ≤ x) (h2 : x ≤ A) (h3 : -B ≤ y) (h4 : y ≤ B) : -(A * B) ≤ x * y ∧ x * y ≤ A * B := by
  have key : ∀ u v : Int, 0 ≤ u → u ≤ A → 0 ≤ v → v ≤ B → 0 ≤ u * v ∧ u * v ≤ A * B := fun u v a b c d =>
    ⟨Int.mul_nonneg a c, Int.mul_le_mul b d c (by omega)⟩
  rcases Int.le_total 0 x with hx | hx <;> rcases Int.le_total 0 y with hy | hy
  · have := key x y hx h2 hy h4; omega
  · have := key x (-y) hx h2 (by omega) (by omega); rw [Int.mul_neg] at this; omega
  · have := key (-x) y (by omega) (by omega) hy h4; rw [Int.neg_mul] at this; omega
  · have := key (-x) (-y) (by omega) (by omega) (by omega) (by omega); rw [Int.neg_mul_neg] at this; omega
theorem tmK_bd {a b : List Int} (ha : a.any outS = false) (hb : b.any outS = false) (t : Int) (k : Nat) : -1000000 ≤ tmK a b t k ∧ tmK a b t k ≤ 1000000 := by
  unfold tmK
  split
  · have h1 := inL ha k
    have h2 := inL hb ((k : Int) + t).toNat
    have := mul_in (A := 1000) (B := 1000) h1.1 h1.2 h2.1 h2.2
    omega
  · omega
theorem scK_bd {a b : List Int} (ha : a.any outS = false) (hb : b.any outS = false) (t : Int) (k : Nat) : -(1000000 * (k : Int)) ≤ scK a b t k ∧ scK a b t k ≤ 1000000 * (k : Int) := by
  induction k with
  | zero => rw [scK]; omega
  | succ k ih => have := tmK_bd ha hb t k; rw [scK]; omega
theorem tK_odd (m : Nat) : tK (2 * m + 1) = -((m + 1 : Nat) : Int) := by
  unfold tK; rw [if_pos (by omega), show (2 * m + 1 + 1) / 2 = m + 1 by omega]
theorem tK_even (m : Nat) : tK (2 * m + 1 + 1) = ((m + 1 : Nat) : Int) := by
  unfold tK; rw [if_neg (by omega), show (2 * m + 1 + 1 + 1) / 2 = m + 1 by omega]
theorem bsK_bd {a b : List Int} (k : Nat) : -(k : Int) ≤ (bsK a b k).1 ∧ (bsK a b k).1 ≤ (k : Int) := by
  induction k with
  | zero => rw [bsK]; omega
  | succ k ih =>
    rw [bsK]; split
    · show -((k + 1 : Nat) : Int) ≤ tK (k + 1) ∧ tK (k + 1) ≤ ((k + 1 : Nat) : Int)
      unfold tK; split <;> omega
    · omega
theorem sgF_ok {a b : List Int} {m : Int} (h : sgF a b m = 0) : 0 < a.length ∧ 0 < b.length ∧ a.length ≤ 200 ∧ b.length ≤ 200 ∧ a.any outS = false ∧ b.any outS = false ∧ 0 ≤ m ∧ m ≤ 100 := by
  unfold sgF at h
  split at h
  · exact absurd h (by decide)
  · split at h
    · exact absurd h (by decide)
    · split at h
      · exact absurd h (by decide)
      · rename_i h1 h2 h3
        have h4 : a.any outS = false := by cases e : a.any outS with | false => rfl | true => exact absurd (Or.inl e) h3
        have h5 : b.any outS = false := by cases e : b.any outS with | false => rfl | true => exact absurd (Or.inr (Or.inl e)) h3
        have h6 : 0 ≤ m ∧ m ≤ 100 := Classical.byContradiction fun e => h3 (Or.inr (Or.inr e))
        exact ⟨by omega, by omega, by omega, by omega, h4, h5, h6.1, h6.2⟩

end Go.Proofs.Ytdidmjgilnhncaa
