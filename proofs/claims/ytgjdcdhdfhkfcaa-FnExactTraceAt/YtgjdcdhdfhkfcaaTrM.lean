/- Proved here: what TraceAt answers: trC, trN, trW. No program. -/
import Derived.Test.YtgjdcdhdfhkfcaaFoK
import Derived.Test.YtgjdcdhdfhkfcaaFlC
namespace Go.Proofs.Ytgjdcdhdfhkfcaa
open Go.RowKit
set_option linter.unusedVariables false
set_option linter.unusedSimpArgs false

def riseF (xs : List Nat) : Prop := ∀ i, i < xs.length - 1 → ltF (xs.getD i 0) (xs.getD (i + 1) 0)
instance (xs : List Nat) : Decidable (riseF xs) := by unfold riseF; infer_instance
def inF (xs : List Nat) (x : Nat) : Prop := leF (xs.getD 0 0) x ∧ leF x (xs.getD (xs.length - 1) 0)
instance (xs : List Nat) (x : Nat) : Decidable (inF xs x) := by unfold inF; infer_instance
def trC (xs ys : List Nat) (x : Nat) : Int := if 200 < xs.length ∨ 200 < ys.length then 2 else if xs.length ≠ ys.length ∨ xs.length < 2 then 1 else if riseF xs ∧ inF xs x then 0 else 3
/-- The last place from k down whose number is not above x. -/
def trG (xs : List Nat) (x : Nat) : Nat → Nat
  | 0 => 0
  | k + 1 => if ltF x (xs.getD (k + 1) 0) then trG xs x k else k + 1
def trV (xs ys : List Nat) (x i : Nat) : Option Nat := fop .add (fv (ys.getD i 0)) (fop .mul (fop .sub (fv (ys.getD (i + 1) 0)) (fv (ys.getD i 0))) (fop .quo (fop .sub (fv x) (fv (xs.getD i 0))) (fop .sub (fv (xs.getD (i + 1) 0)) (fv (xs.getD i 0)))))
def trN (xs ys : List Nat) (x : Nat) : Int := if trC xs ys x = 0 then (trG xs x (xs.length - 2) : Int) else 0
def trW (xs ys : List Nat) (x : Nat) : Option Nat := if trC xs ys x = 0 then trV xs ys x (trG xs x (xs.length - 2)) else some 0
theorem trG_is {xs : List Nat} {x p : Nat} (h1 : p = 0 ∨ ¬ ltF x (xs.getD p 0)) : ∀ m, p ≤ m → (∀ i, p < i → i ≤ m → ltF x (xs.getD i 0)) → trG xs x m = p := by
  intro m
  induction m with
  | zero => intro h _; rw [trG]; omega
  | succ m ih =>
    intro h h2
    rw [trG]
    by_cases he : p = m + 1
    · subst he
      rw [if_neg (by rcases h1 with h3 | h3; · omega
                     · exact h3)]
    · rw [if_pos (h2 (m + 1) (by omega) (Nat.le_refl _))]
      exact ih (by omega) (fun i hi hi2 => h2 i hi (by omega))
theorem rise_le {xs : List Nat} (h : riseF xs) {i : Nat} : ∀ j, i ≤ j → j < xs.length → 2 ≤ xs.length → leF (xs.getD i 0) (xs.getD j 0) := by
  have N : ∀ k, k < xs.length → 2 ≤ xs.length → fv (xs.getD k 0) = some (xs.getD k 0) := fun k hk h2 => by
    rcases Nat.lt_or_ge k (xs.length - 1) with h3 | h3
    · exact (h k h3).1
    · have := (h (k - 1) (by omega)).2.1
      rw [show k - 1 + 1 = k by omega] at this
      exact this
  intro j
  induction j with
  | zero => intro h1 h2 h3; rw [show i = 0 by omega]; exact ⟨N 0 h2 h3, N 0 h2 h3, Int.le_refl _⟩
  | succ j ih =>
    intro h1 h2 h3
    by_cases he : i = j + 1
    · rw [he]; exact ⟨N _ h2 h3, N _ h2 h3, Int.le_refl _⟩
    · have a := ih (by omega) (by omega) h3
      have b := h j (by omega)
      exact ⟨a.1, b.2.1, by have := a.2.2; have := b.2.2; omega⟩
theorem lt_not {x y : Nat} (h : leF y x) : ¬ ltF x y := fun h2 => by have := h.2.2; have := h2.2.2; omega
theorem not_le {x y : Nat} (hx : fv x = some x) (hy : fv y = some y) (h : ¬ leF y x) : ltF x y := ⟨hx, hy, by
  rcases Int.lt_or_le (kyW x) (kyW y) with h3 | h3
  · exact h3
  · exact absurd ⟨hy, hx, h3⟩ h⟩
/-- Where the program's search ends is where the model's does. -/
theorem tr_end {xs : List Nat} {x p : Nat} (hr : riseF xs) (hi : inF xs x) (hn : 2 ≤ xs.length) (hp : p + 2 ≤ xs.length) (h1 : p = 0 ∨ leF (xs.getD p 0) x) (h2 : p + 2 = xs.length ∨ ¬ leF (xs.getD (p + 1) 0) x) : trG xs x (xs.length - 2) = p := by
  refine trG_is (h1.imp id lt_not) _ (by omega) fun i hi1 hi2 => ?_
  rcases h2 with h2 | h2
  · omega
  · have a := not_le hi.1.2.1 (rise_le hr (i := p + 1) (p + 1) (Nat.le_refl _) (by omega) hn).1 h2
    have b := rise_le hr (i := p + 1) i (by omega) (by omega) hn
    exact ⟨a.1, b.2.1, by have := a.2.2; have := b.2.2; omega⟩
theorem getD_at {s : List Nat} {j z : Nat} (h : s[j]? = some z) : s.getD j 0 = z := by simp [List.getD_eq_getElem?_getD, h]

end Go.Proofs.Ytgjdcdhdfhkfcaa
