/- Proved here: of letters alone: a run of digits is all digits, and ends where no digit stands; the number of a part of a text is that of its letters in the text. -/
import Derived.Test.YtcojhkpdlmldcaaPText
namespace Go.Proofs.Ytcojhkpdlmldcaa
open Go.RowKit
set_option linter.unusedVariables false

theorem digN_in : ∀ (l : List UInt8) (i : Nat), i < digN l → ∃ b, l[i]? = some b ∧ isD (b.toNat : Int) = true
  | [], i, h => by simp [digN] at h
  | b :: r, i, h => by
    unfold digN at h
    split at h
    · rename_i hb
      cases i with
      | zero => exact ⟨b, rfl, hb⟩
      | succ j => exact digN_in r j (by omega)
    · omega
theorem digN_out : ∀ (l : List UInt8) (b : UInt8), l[digN l]? = some b → isD (b.toNat : Int) = false
  | [], b, h => by simp at h
  | c :: r, b, h => by
    unfold digN at h
    split at h
    · exact digN_out r b (by simpa using h)
    · rename_i hc
      simp only [List.getElem?_cons_zero, Option.some.injEq] at h
      subst h
      simpa using hc

theorem letter_some (s : ByteArray) (i : Nat) (h : i < s.size) : s.data.toList[i]? = some s[i] := by
  have h' : i < s.data.toList.length := by rw [Array.length_toList]; exact h
  rw [List.getElem?_eq_getElem h']
  rfl
theorem letter_lt (s : ByteArray) (i : Nat) {b : UInt8} (h : s.data.toList[i]? = some b) : i < s.size := by
  obtain ⟨h', _⟩ := List.getElem?_eq_some_iff.1 h
  rw [Array.length_toList] at h'
  exact h'

/-- Each letter of a run is there and is a digit. -/
theorem runD_in (s : ByteArray) (p i : Nat) (h : i < runD s p) : ∃ h' : p + i < s.size, isD (s[p + i].toNat : Int) = true := by
  obtain ⟨b, hb, hd⟩ := digN_in _ i h
  rw [List.getElem?_drop] at hb
  have hl := letter_lt s (p + i) hb
  rw [letter_some s (p + i) hl] at hb
  injection hb with hb
  exact ⟨hl, by rw [hb]; exact hd⟩
/-- Behind a run stands no digit. -/
theorem runD_out (s : ByteArray) (p : Nat) (h : p + runD s p < s.size) : isD (s[p + runD s p].toNat : Int) = false := by
  refine digN_out (s.data.toList.drop p) _ ?_
  rw [List.getElem?_drop]
  exact letter_some s (p + runD s p) h
theorem runD_le (s : ByteArray) (p : Nat) (h : p ≤ s.size) : p + runD s p ≤ s.size := by
  have h1 := digN_le (s.data.toList.drop p)
  rw [List.length_drop, Array.length_toList] at h1
  unfold runD
  have : s.data.size = s.size := rfl
  omega

/-- The number of k letters from place p on. -/
def numR (s : ByteArray) (p : Nat) : Nat → Int
  | 0 => 0
  | k + 1 => numR s p k * 10 + ((s.data.toList[p + k]?.getD 48).toNat - 48 : Int)

theorem extract_letter (s : ByteArray) (p n k : Nat) (hk : k < n) : (s.extract p (p + n)).data.toList[k]? = s.data.toList[p + k]? := by
  rw [ByteArray.data_extract, Array.toList_extract, List.extract_eq_take_drop]
  rw [List.getElem?_take_of_lt (by omega), List.getElem?_drop]

theorem numK_extract (s : ByteArray) (p n : Nat) : ∀ k, k ≤ n → numK (s.extract p (p + n)) k = numR s p k
  | 0, _ => rfl
  | k + 1, h => by
    unfold numK numR
    rw [numK_extract s p n k (by omega), extract_letter s p n k (by omega)]

end Go.Proofs.Ytcojhkpdlmldcaa
