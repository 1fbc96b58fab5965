/- Proved here: the model's look at a letter, and how many digits it finds from a place of a text on. -/
import Derived.Test.YtcojhkpdlmldcaaBase
namespace Go.Proofs.Ytcojhkpdlmldcaa
open Go.RowKit
set_option linter.unusedVariables false
set_option linter.unusedSimpArgs false

/-- A letter's number is a digit's. -/
def isD (c : Int) : Bool := decide (48 ≤ c) && decide (c ≤ 57)

set_option maxHeartbeats 400000 in
theorem spec_digit (c : Int) (w : World) :
    Calls Try.prog 16 #[.int .u8 c] w fun e w' => e = .returned (.bool (isD c)) ∧ w' = w := by
  go_enter Try.func16, Try.ntmps16
  by_cases h : 48 ≤ c
  · go_wp2
    go_returns
    exact ⟨by simp [isD, h], rfl⟩
  · go_wp2
    go_returns
    exact ⟨by simp [isD]; omega, rfl⟩

/-- How many digits stand at the head of a list of letters. -/
def digN : List UInt8 → Nat
  | [] => 0
  | b :: r => if isD (b.toNat : Int) then digN r + 1 else 0
theorem digN_le : ∀ l : List UInt8, digN l ≤ l.length
  | [] => by simp [digN]
  | b :: r => by
    have := digN_le r
    unfold digN
    split <;> simp <;> omega
/-- .. and from a place of a text on. -/
def runD (s : ByteArray) (at' : Nat) : Nat := digN (s.data.toList.drop at')

theorem runD_at (s : ByteArray) (i : Nat) (h : i < s.size) : runD s i = if isD (s[i].toNat : Int) then runD s (i + 1) + 1 else 0 := by
  have h' : i < s.data.toList.length := by rw [Array.length_toList]; exact h
  have e : s.data.toList.drop i = s[i] :: s.data.toList.drop (i + 1) := by
    rw [List.drop_eq_getElem_cons h']
    rfl
  unfold runD
  rw [e]
  rfl
theorem runD_end (s : ByteArray) (i : Nat) (h : ¬ i < s.size) : runD s i = 0 := by
  unfold runD
  rw [List.drop_eq_nil_of_le (by rw [Array.length_toList]; exact Nat.le_of_not_lt h)]
  rfl

set_option maxHeartbeats 800000 in
theorem spec_digits (s : ByteArray) (p : Nat) (w : World) (hs : s.size ≤ 2000000) (hp : p ≤ 2000000) :
    Calls Try.prog 8 #[.string s, .int .i64 p] w fun e w' => e = .returned (.int .i64 (runD s p)) ∧ w' = w := by
  go_enter Try.func8, Try.ntmps8
  go_wp2
  go_loop [5] (fun t => ∃ k : Nat, t = .int .i64 k ∧ k ≤ 2000000 ∧ Hid (runD s p = k + runD s (p + k))) (fun t => (2000000 - (intOf t).toNat))
  case atStart => exact ⟨0, rfl, by omega, by simp [Hid]⟩
  case round =>
    obtain ⟨k, rfl, hk, hg⟩ := hrel
    by_cases h : p + k < s.size
    · have hr := runD_at s (p + k) h
      cases hd : isD (s[p + k].toNat : Int) with
      | true =>
        have HR : Hid (runD s (p + k) = runD s (p + (k + 1)) + 1) := by rw [hd] at hr; exact hr
        have hcall : ∀ w, Calls Try.prog 16 #[.int .u8 (s[p + k].toNat : Int)] w fun e w' => e = .returned (.bool true) ∧ w' = w := fun w => by
          have := spec_digit (s[p + k].toNat : Int) w
          rw [hd] at this
          exact this
        clear hr hd
        go_wp2_with (fail)
        refine (hcall _).mono ?_
        rintro e w1 ⟨rfl, rfl⟩
        go_wp2_with (fail)
        go_round
        case rel => exact ⟨k + 1, by simp, by omega, by have := hg.out; have := HR.out; unfold Hid; omega⟩
        case measure => simp [intOf]; omega
      | false =>
        have HR : Hid (runD s (p + k) = 0) := by rw [hd] at hr; exact hr
        have hcall : ∀ w, Calls Try.prog 16 #[.int .u8 (s[p + k].toNat : Int)] w fun e w' => e = .returned (.bool false) ∧ w' = w := fun w => by
          have := spec_digit (s[p + k].toNat : Int) w
          rw [hd] at this
          exact this
        clear hr hd
        go_wp2_with (fail)
        refine (hcall _).mono ?_
        rintro e w1 ⟨rfl, rfl⟩
        go_wp2_with (fail)
        go_ret
        exact ⟨ret_int (by have := hg.out; have := HR.out; omega), rfl⟩
    · have HR : Hid (runD s (p + k) = 0) := runD_end s (p + k) h
      go_wp2
      go_ret
      exact ⟨ret_int (by have := hg.out; have := HR.out; omega), rfl⟩

/-- The number of the first k letters of a text. -/
def numK (s : ByteArray) : Nat → Int
  | 0 => 0
  | k + 1 => numK s k * 10 + ((s.data.toList[k]?.getD 48).toNat - 48 : Int)
theorem isD_bd {c : Int} (h : isD c = true) : 48 ≤ c ∧ c ≤ 57 := by simpa [isD] using h
theorem letter_at (s : ByteArray) (k : Nat) (h : k < s.size) : s.data.toList[k]?.getD 48 = s[k] := by
  have h' : k < s.data.toList.length := by rw [Array.length_toList]; exact h
  rw [List.getElem?_eq_getElem h']
  rfl
theorem numK_bd (s : ByteArray) (hd : ∀ i (h : i < s.size), isD (s[i].toNat : Int) = true) : ∀ k, k ≤ s.size → 0 ≤ numK s k ∧ numK s k < 10 ^ k
  | 0, _ => by simp [numK]
  | k + 1, h => by
    have ih := numK_bd s hd k (by omega)
    have hb := isD_bd (hd k (by omega))
    unfold numK
    rw [letter_at s k (by omega), Int.pow_succ]
    omega
theorem pow_small (k : Nat) (h : k ≤ 17) : (10 : Int) ^ k ≤ 100000000000000000 := by
  have : (10 : Nat) ^ k ≤ 10 ^ 17 := Nat.pow_le_pow_right (by omega) h
  have h2 : ((10 ^ k : Nat) : Int) ≤ ((10 ^ 17 : Nat) : Int) := by exact_mod_cast this
  simpa using h2

set_option maxHeartbeats 800000 in
theorem spec_number (s : ByteArray) (w : World) (hs : s.size ≤ 18) (hd : Hid (∀ i (h : i < s.size), isD (s[i].toNat : Int) = true)) :
    Calls Try.prog 9 #[.string s] w fun e w' => e = .returned (.int .i64 (numK s s.size)) ∧ w' = w := by
  go_enter Try.func9, Try.ntmps9
  go_wp2
  go_loop [3, 4] (fun t u => ∃ k : Nat, t = .int .i64 (numK s k) ∧ u = .int .i64 k ∧ k ≤ s.size) (fun _ u => (20 - (intOf u).toNat))
  case atStart => exact ⟨0, rfl, rfl, Nat.zero_le _⟩
  case round =>
    obtain ⟨k, rfl, rfl, hk⟩ := hrel
    by_cases h : k < s.size
    · have hb := numK_bd s hd.out k hk
      have hp := pow_small k (by omega)
      have hc := isD_bd (hd.out k h)
      have HN : Hid (numK s (k + 1) = numK s k * 10 + ((s[k].toNat : Int) - 48)) := by unfold Hid; rw [numK, letter_at s k h]
      have hn0 := hb.1
      have hn1 : numK s k < 100000000000000000 := by omega
      clear hb hp
      generalize numK s k = N at *
      go_wp2
      exact ⟨⟨k + 1, by rw [HN.out], by simp, h⟩, by simp [intOf]; omega⟩
    · obtain rfl : k = s.size := by omega
      go_wp2
      go_ret
      exact ⟨rfl, rfl⟩

end Go.Proofs.Ytcojhkpdlmldcaa
