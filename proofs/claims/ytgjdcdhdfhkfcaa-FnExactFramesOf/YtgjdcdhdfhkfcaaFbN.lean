/- Proved here: floats against powers of two, twice a float, its opposite, against nought; the parts of a word joined. No program. -/
import Derived.Test.YtgjdcdhdfhkfcaaFbM
import Derived.Laws.Bits64b
import Derived.Laws.BitsLemmas
namespace Go.Proofs.Ytgjdcdhdfhkfcaa
open Go.RowKit
set_option linter.unusedVariables false
set_option linter.unusedSimpArgs false

theorem cut52 {K q d c : Nat} (h : K < 2 ^ c) (hq : q ≤ d) : K * 2 ^ q < 2 ^ (c + d) := by
  have : K * 2 ^ q < 2 ^ c * 2 ^ q := Nat.mul_lt_mul_of_pos_right h (Nat.pow_pos (by decide))
  rw [← Nat.pow_add] at this
  exact Nat.lt_of_lt_of_le this (Nat.pow_le_pow_right (by decide) (by omega))
theorem top52 {K q d c : Nat} (h : 2 ^ c ≤ K) (hq : d ≤ q) : 2 ^ (c + d) ≤ K * 2 ^ q := by
  have : 2 ^ c * 2 ^ q ≤ K * 2 ^ q := Nat.mul_le_mul_right _ h
  rw [← Nat.pow_add] at this
  exact Nat.le_trans (Nat.pow_le_pow_right (by decide) (by omega)) this
/-- A float of these digits against a power of two: less, or not. -/
theorem lt_pow {L K : Nat} (hd : Dg L K) {p : Int} (h3 : -1074 ≤ p) (h4 : p + 53 ≤ 1024) (i : Nat) (hi : i ≤ 1000) :
    Ieee.double.order (Ieee.double.nearest false K p) (Ieee.double.nearest false 1 i) = some (compare ((K * 2 ^ (p + 1074).toNat : Nat) : Int) ((2 ^ (i + 1074) : Nat) : Int)) := by
  have := ord_of (m := K) (j := 53) (p := p) (n := 1) (k := 1) (q := i) (by rw [p53]; exact hd.few) (by decide) h3 h4 (by decide) (by decide) (by omega) (by omega)
  rw [this, show ((i : Int) + 1074).toNat = i + 1074 by omega, Nat.one_mul]
theorem lt_yes {L K : Nat} (hd : Dg L K) {p : Int} (h3 : -1074 ≤ p) (h4 : p + 53 ≤ 1024) (i : Nat) (hi : i ≤ 1000) (c : Nat) (hc : c ≤ 53) (hK : K < 2 ^ c) (h : p + c ≤ i) :
    Ieee.double.order (Ieee.double.nearest false K p) (Ieee.double.nearest false 1 i) = some .lt := by
  rw [lt_pow hd h3 h4 i hi]
  obtain ⟨d, hd⟩ : ∃ d, i + 1074 = c + d := ⟨i + 1074 - c, by omega⟩
  rw [hd, Int.compare_eq_lt.2 (Int.ofNat_lt.2 (cut52 hK (by omega)))]
theorem lt_no {L K : Nat} (hd : Dg L K) {p : Int} (h3 : -1074 ≤ p) (h4 : p + 53 ≤ 1024) (i : Nat) (hi : i ≤ 1000) (c : Nat) (hc : c ≤ 53) (hK : 2 ^ c ≤ K) (h : (i : Int) ≤ p + c) :
    Ieee.double.order (Ieee.double.nearest false K p) (Ieee.double.nearest false 1 i) = some .gt ∨ Ieee.double.order (Ieee.double.nearest false K p) (Ieee.double.nearest false 1 i) = some .eq := by
  rw [lt_pow hd h3 h4 i hi]
  obtain ⟨d, hd⟩ : ∃ d, i + 1074 = c + d := ⟨i + 1074 - c, by omega⟩
  rw [hd]
  rcases Nat.lt_or_eq_of_le (top52 (q := (p + 1074).toNat) (d := d) hK (by omega)) with h1 | h1
  · exact .inl (by rw [Int.compare_eq_gt.2 (Int.ofNat_lt.2 h1)])
  · exact .inr (by rw [Int.compare_eq_eq.2 (by rw [h1])])
theorem two53 : (4845873199050653696 : Nat) = Ieee.double.nearest false 1 (53 : Nat) := by decide
theorem two52 : (4841369599423283200 : Nat) = Ieee.double.nearest false 1 (52 : Nat) := by decide
theorem inf_of {K : Nat} (h1 : 4503599627370496 ≤ K) (h2 : K < 9007199254740992) : Ieee.double.nearest false K 972 = 9218868437227405312 := by
  have h0 : K ≠ 0 := by omega
  have hl : K.log2 < 53 := (Nat.log2_lt h0).2 (by rw [p53]; exact h2)
  have hl2 : 52 ≤ K.log2 := (Nat.le_log2 h0).2 (by rw [p52]; exact h1)
  rw [nr_eq false h0, show K.log2 = 52 by omega]
  have hk : kpN false K (max ((972 : Int) + (52 : Nat) - 52) (-1074) - 972) = K := by
    rw [show max ((972 : Int) + (52 : Nat) - 52) (-1074) - 972 = 0 by omega]; unfold kpN; simp [cut_none]
  rw [hk, show (max ((972 : Int) + (52 : Nat) - 52) (-1074) + 1074).toNat = 2046 by omega, Nat.min_eq_right (by omega)]
  rfl
/-- Twice a number that is not nought is another. -/
theorem twice_of {L K : Nat} (hd : Dg L K) (h0 : 0 < K) : ∃ r, floatBits .add .f64 (Ieee.double.nearest false K ((L : Int) - 1074)) (Ieee.double.nearest false K ((L : Int) - 1074)) = some r ∧ (Ieee.double.order r (Ieee.double.nearest false K ((L : Int) - 1074)) == some .eq) = false := by
  have hr := rd_dg false hd
  rw [← nr_dg false hd] at hr
  have hf := hd.few
  have he := hd.end_
  refine ⟨Ieee.double.nearest false K ((L : Int) - 1073), ?_, ?_⟩
  · show Ieee.double.add _ _ = _
    unfold Ieee.Format.add
    rw [hr]
    simp only [Ieee.Datum.sum, Int.min_self, Int.sub_self, Ieee.signed, Bool.false_eq_true, if_false, Option.map_some, Ieee.Format.write, Int.toNat_zero, Nat.shiftLeft_zero]
    congr 1
    rw [if_neg (by omega), show ((K : Int) + K).natAbs = K * 2 ^ 1 by omega, show decide ((K : Int) + K < 0) = false by simp; omega]
    have := nr_shift false K ((L : Int) - 1073) 1
    rw [← this]; congr 1; omega
  · rcases Nat.lt_or_ge L 2045 with hL | hL
    · have := ord_of (m := K) (j := 53) (p := (L : Int) - 1073) (n := K) (k := 53) (q := (L : Int) - 1074) (by rw [p53]; exact hf) (by decide) (by omega) (by omega) (by rw [p53]; exact hf) (by decide) (by omega) (by omega)
      rw [this, show ((L : Int) - 1073 + 1074).toNat = L + 1 by omega, show ((L : Int) - 1074 + 1074).toNat = L by omega, Int.compare_eq_gt.2 ?_]
      · rfl
      · refine Int.ofNat_lt.2 (Nat.mul_lt_mul_of_pos_left ?_ h0)
        exact Nat.pow_lt_pow_right (by decide) (by omega)
    · have hL2 : L = 2045 := by omega
      subst hL2
      have hK : 4503599627370496 ≤ K := by rcases hd.top with h | h <;> omega
      have hi : Ieee.double.read 9218868437227405312 = .infinity false := by decide
      rw [show ((2045 : Nat) : Int) - 1073 = 972 by omega, inf_of hK hf]
      unfold Ieee.Format.order
      rw [hr, hi]
      rfl
theorem neg_of (s : Bool) {R : Nat} (h : R ≤ 9218868437227405312) : Op.negFloat .f64 (Ieee.double.word s R) = Ieee.double.word (!s) R := by
  have e : Op.negFloat .f64 (Ieee.double.word s R) = Ieee.double.word s R ^^^ 2 ^ 63 := rfl
  rw [e]
  unfold Ieee.Format.word; rw [sw64]
  have h63 : (9223372036854775808 : Nat) = 2 ^ 63 := by decide
  have hR : R < 2 ^ 63 := by omega
  have hd : ∀ y : Nat, y < 2 ^ 63 → 2 ^ 63 + y = 2 ^ 63 ||| y := fun y hy => by
    have := Nat.two_pow_add_eq_or_of_lt hy 1
    simpa using this
  have hx : 2 ^ 63 + R = 2 ^ 63 ^^^ R := by
    rw [hd R hR]
    apply Nat.eq_of_testBit_eq
    intro i
    rw [Nat.testBit_or, Nat.testBit_xor, Nat.testBit_two_pow]
    by_cases hi : 63 = i
    · subst hi; rw [Nat.testBit_lt_two_pow hR]; simp
    · simp [hi]
  cases s
  · simp only [Bool.false_eq_true, if_false, Bool.not_false, if_true]
    rw [h63, hx, Nat.xor_comm]
  · simp only [Bool.not_true, Bool.false_eq_true, if_false, if_true]
    rw [h63, hx, Nat.xor_comm (2 ^ 63) R, Nat.xor_assoc, Nat.xor_self, Nat.xor_zero]
/-- How a float that is a number stands: a nought, infinite, or by its digits. -/
theorem fl_cases {x : Nat} (hx : x < 18446744073709551616) (h : fv x = some x) : ∃ s R, x = Ieee.double.word s R ∧ (R = 0 ∨ R = 9218868437227405312 ∨ ∃ L K, Dg L K ∧ 0 < K ∧ R = L * 4503599627370496 + K) := by
  obtain ⟨_, hn⟩ := fv_some h
  refine ⟨decide (9223372036854775808 ≤ x), x % 9223372036854775808, ?_, ?_⟩
  · unfold Ieee.Format.word; rw [sw64]
    by_cases hc : 9223372036854775808 ≤ x
    · rw [if_pos (decide_eq_true hc)]; omega
    · rw [if_neg (by rw [decide_eq_false hc]; exact Bool.false_ne_true)]; omega
  · generalize x % 9223372036854775808 = R at hn
    by_cases h0 : R = 0
    · exact .inl h0
    by_cases h1 : R = 9218868437227405312
    · exact .inr (.inl h1)
    refine .inr (.inr ?_)
    by_cases h2 : R < 4503599627370496
    · exact ⟨0, R, ⟨.inl rfl, by omega, by omega⟩, by omega, by omega⟩
    · exact ⟨R / 4503599627370496 - 1, R % 4503599627370496 + 4503599627370496, ⟨.inr (by omega), by omega, by omega⟩, by omega, by omega⟩
theorem ord_zero (s : Bool) {L K : Nat} (hd : Dg L K) (h0 : 0 < K) : Ieee.double.order (Ieee.double.word s (L * 4503599627370496 + K)) 0 = some (if s then .lt else .gt) := by
  have hz : Ieee.double.read 0 = .number false 0 (-1074) := by decide
  unfold Ieee.Format.order
  rw [rd_dg s hd, hz]
  have hp : 0 < K <<< ((L : Int) - 1074 - min ((L : Int) - 1074) (-1074)).toNat := by
    rw [Nat.shiftLeft_eq]; exact Nat.mul_pos h0 (Nat.pow_pos (by omega))
  simp only [Ieee.Datum.order, Ieee.signed, Nat.zero_shiftLeft, Bool.false_eq_true, if_false]
  generalize K <<< ((L : Int) - 1074 - min ((L : Int) - 1074) (-1074)).toNat = z at hp
  cases s
  · simp only [Bool.false_eq_true, if_false]; rw [Int.compare_eq_gt.2 (by omega)]
  · simp only [if_true]; rw [Int.compare_eq_lt.2 (by omega)]
theorem or_u64 {x y : Int} (i : Nat) (hi : i ≤ 64) (hx : 0 ≤ x) (hm : x % 2 ^ i = 0) (hx1 : x < 18446744073709551616) (hy : 0 ≤ y) (hy1 : y < 2 ^ i) : bits .or .u64 x y = x + y := by
  have h : ((2 : Int) ^ i) ≤ 2 ^ 64 := by
    have : (2 : Nat) ^ i ≤ 2 ^ 64 := Nat.pow_le_pow_right (by decide) hi
    exact_mod_cast this
  exact bits_join .u64 64 (by decide) (fun n h0 h1 => by rw [IntKind.wrap_u64]; omega) i x y hx hm (by omega) hy hy1 (by omega)

end Go.Proofs.Ytgjdcdhdfhkfcaa
