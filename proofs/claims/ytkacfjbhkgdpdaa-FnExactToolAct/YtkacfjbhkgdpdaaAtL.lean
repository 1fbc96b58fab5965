/- The place of a name in a list of names; the first number that is not 0. Arithmetic alone. -/
import Derived.Test.YtkacfjbhkgdpdaaStrL
namespace Go.Proofs.Ytkacfjbhkgdpdaa
open Go.RowKit
set_option linter.unusedVariables false
set_option linter.unusedSimpArgs false

/-- The place of a name in a list of names; -1: it is not there. -/
def atL : List ByteArray → ByteArray → Int
  | [], _ => -1
  | x :: l, nm => if x = nm then 0 else (if atL l nm < 0 then -1 else atL l nm + 1)
theorem atL_none : ∀ {l : List ByteArray} {nm : ByteArray}, (∀ i (h : i < l.length), ¬ l[i] = nm) → atL l nm = -1
  | [], _, _ => rfl
  | x :: l, nm, h => by
    have h0 := h 0 (by simp)
    have ih := atL_none (l := l) (nm := nm) (fun i hi => by have := h (i + 1) (by simpa using hi); simpa using this)
    unfold atL
    rw [if_neg (by simpa using h0), ih]; rfl
theorem atL_some : ∀ {l : List ByteArray} {nm : ByteArray} {k : Nat} (hk : k < l.length), (∀ i (h : i < l.length), i < k → ¬ l[i] = nm) → l[k] = nm → atL l nm = k
  | x :: l, nm, 0, hk, h, e => by
    unfold atL
    rw [if_pos (by simpa using e)]; rfl
  | x :: l, nm, k + 1, hk, h, e => by
    have h0 := h 0 (by simp) (by omega)
    have ih := atL_some (l := l) (nm := nm) (k := k) (by simpa using hk) (fun i hi hik => by have := h (i + 1) (by simpa using hi) (by omega); simpa using this) (by simpa using e)
    unfold atL
    rw [if_neg (by simpa using h0), ih, if_neg (by omega)]
    omega
theorem atL_cases (l : List ByteArray) (nm : ByteArray) : (atL l nm = -1 ∧ ∀ i (h : i < l.length), ¬ l[i] = nm) ∨ ∃ k, ∃ h : k < l.length, atL l nm = k ∧ l[k] = nm ∧ ∀ i (h : i < l.length), i < k → ¬ l[i] = nm := by
  induction l with
  | nil => exact Or.inl ⟨rfl, fun i h => by simp at h⟩
  | cons x l ih =>
    by_cases hx : x = nm
    · refine Or.inr ⟨0, by simp, ?_, by simpa using hx, fun i h hi => by omega⟩
      unfold atL; rw [if_pos hx]; rfl
    · rcases ih with ⟨h1, h2⟩ | ⟨k, hk, h1, h2, h3⟩
      · refine Or.inl ⟨?_, fun i hi => ?_⟩
        · unfold atL; rw [if_neg hx, h1]; rfl
        · cases i with
          | zero => simpa using hx
          | succ i => simpa using h2 i (by simpa using hi)
      · refine Or.inr ⟨k + 1, by simpa using hk, ?_, by simpa using h2, fun i hi hik => ?_⟩
        · unfold atL; rw [if_neg hx, h1, if_neg (by omega)]; omega
        · cases i with
          | zero => simpa using hx
          | succ i => simpa using h3 i (by simpa using hi) (by omega)
theorem atL_bnd (l : List ByteArray) (nm : ByteArray) : -1 ≤ atL l nm ∧ atL l nm < l.length := by
  rcases atL_cases l nm with ⟨h, _⟩ | ⟨k, hk, h, _⟩
  · rw [h]; omega
  · rw [h]; omega
/-- The first number that is not 0 among so many. -/
def fnz (f : Nat → Int) : Nat → Int
  | 0 => 0
  | n + 1 => if fnz f n = 0 then f n else fnz f n
theorem fnz_zero {f : Nat → Int} : ∀ {n : Nat}, (∀ i, i < n → f i = 0) → fnz f n = 0
  | 0, _ => rfl
  | n + 1, h => by
    unfold fnz
    rw [if_pos (fnz_zero (fun i hi => h i (by omega))), h n (by omega)]
theorem fnz_stop {f : Nat → Int} {k : Nat} : ∀ {n : Nat}, k < n → (∀ i, i < k → f i = 0) → ¬ f k = 0 → fnz f n = f k
  | n + 1, hk, h, hf => by
    unfold fnz
    rcases (by omega : k = n ∨ k < n) with rfl | hk'
    · rw [if_pos (fnz_zero h)]
    · rw [fnz_stop hk' h hf, if_neg hf]
theorem fnz_congr {f g : Nat → Int} : ∀ {n : Nat}, (∀ i, i < n → f i = g i) → fnz f n = fnz g n
  | 0, _ => rfl
  | n + 1, h => by unfold fnz; rw [fnz_congr (fun i hi => h i (by omega)), h n (by omega)]

end Go.Proofs.Ytkacfjbhkgdpdaa
