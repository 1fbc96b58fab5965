/- Proved here: what ParseFrac tells of a text, as numbers. No condition on the program. -/
import Derived.Test.YtcojhkpdlmldcaaPMath
import Derived.Test.YtcojhkpdlmldcaaLow
namespace Go.Proofs.Ytcojhkpdlmldcaa
set_option linter.unusedVariables false

/-- The letter at a place; none: -1. -/
def ltr (s : ByteArray) (i : Nat) : Int := if h : i < s.size then (s[i].toNat : Int) else -1
def pfP (s : ByteArray) : Nat := if ltr s 0 = 45 then 1 else 0
def pfG (s : ByteArray) (x : Int) : Int := if ltr s 0 = 45 then -x else x
def pfN (s : ByteArray) : Nat := runD s (pfP s)
def pfB (s : ByteArray) : Nat := pfP s + pfN s
def pfK (s : ByteArray) : Nat := runD s (pfB s + 1)
/-- A code, a place, a fraction. -/
structure Q4 where
  c : Int
  p : Int
  n : Int
  d : Int
def toQ (n d : Int) : Q4 := ⟨rqC n d, 0, rqN n d, rqD n d⟩
def pfQ (s : ByteArray) : Q4 :=
  if 4000 < s.size then ⟨2, 0, 0, 0⟩ else
  if pfN s = 0 then ⟨5, (pfP s : Int), 0, 0⟩ else
  if ltr s (pfB s) = 47 then
    (if pfK s = 0 then ⟨5, ((pfB s + 1 : Nat) : Int), 0, 0⟩ else
     if pfB s + 1 + pfK s < s.size then ⟨5, ((pfB s + 1 + pfK s : Nat) : Int), 0, 0⟩ else
     if 18 < pfN s ∨ 18 < pfK s then ⟨3, 0, 0, 0⟩ else
     if numR s (pfB s + 1) (pfK s) = 0 then ⟨6, (pfB s : Int), 0, 0⟩ else
     toQ (pfG s (numR s (pfP s) (pfN s))) (numR s (pfB s + 1) (pfK s)))
  else
    (if pfB s < s.size then ⟨5, (pfB s : Int), 0, 0⟩ else
     if 18 < pfN s then ⟨3, 0, 0, 0⟩ else
     toQ (pfG s (numR s (pfP s) (pfN s))) 1)
theorem ltr_in {s : ByteArray} {i : Nat} (h : i < s.size) : ltr s i = (s[i].toNat : Int) := by unfold ltr; rw [dif_pos h]
theorem ltr_out {s : ByteArray} {i : Nat} (h : ¬ i < s.size) : ltr s i = -1 := by unfold ltr; rw [dif_neg h]
/-- A part of a text: its size, its letters, its number. -/
theorem part_size (s : ByteArray) {p n : Nat} (h : p + n ≤ s.size) : (s.extract p (p + n)).size = n := by
  rw [ByteArray.size_extract]; omega
theorem part_digits (s : ByteArray) (p : Nat) : ∀ i (h : i < (s.extract p (p + runD s p)).size), isD ((s.extract p (p + runD s p))[i].toNat : Int) = true := by
  intro i h
  rw [ByteArray.size_extract] at h
  obtain ⟨h1, h2⟩ := runD_in s p i (by omega)
  have e : (s.extract p (p + runD s p)).data.toList[i]? = s.data.toList[p + i]? := extract_letter s p _ i (by omega)
  have e1 := letter_some (s.extract p (p + runD s p)) i (by rw [ByteArray.size_extract]; omega)
  have e2 := letter_some s (p + i) h1
  rw [e1, e2] at e
  have e3 := Option.some.inj e
  rw [e3]; exact h2
theorem numR_bd (s : ByteArray) (p : Nat) (hp : p ≤ s.size) : 0 ≤ numR s p (runD s p) ∧ numR s p (runD s p) < 10 ^ runD s p := by
  have h1 := runD_le s p hp
  have hs := part_size s h1
  have h2 := numK_bd (s.extract p (p + runD s p)) (part_digits s p) (runD s p) (by rw [hs]; exact Nat.le_refl _)
  rw [numK_extract s p (runD s p) (runD s p) (Nat.le_refl _)] at h2
  exact h2
theorem numR_small (s : ByteArray) (p : Nat) (hp : p ≤ s.size) (h : runD s p ≤ 18) : 0 ≤ numR s p (runD s p) ∧ numR s p (runD s p) ≤ 1000000000000000000 := by
  have h1 := numR_bd s p hp
  refine ⟨h1.1, ?_⟩
  have h2 : (10 : Int) ^ runD s p ≤ 1000000000000000000 := by
    rcases (by omega : runD s p ≤ 17 ∨ runD s p = 18) with h3 | h3
    · have := pow_small _ h3; omega
    · rw [h3]; decide
  omega

end Go.Proofs.Ytcojhkpdlmldcaa
