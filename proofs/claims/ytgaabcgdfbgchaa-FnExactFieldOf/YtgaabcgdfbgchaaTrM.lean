/- Proved here: a turn by value (trV), and that a bit is told alike in two ways. No program. -/
import Derived.Test.YtgaabcgdfbgchaaUrS
namespace Go.Proofs.Ytgaabcgdfbgchaa
set_option linter.unusedVariables false
set_option linter.unusedSimpArgs false

/-- The turn behind k bits. -/
def trK (t : Nat) : Nat → Zv
  | 0 => ⟨fv 4607182418800017408, fv 0⟩
  | k + 1 => if t.testBit (19 - k) then mulV (trK t k) ⟨fv (rtR k), fv (rtI k)⟩ else trK t k
/-- The turn by so many parts. -/
def trV (p : Int) : Zv := trK (p % 1048576).toNat 20
theorem trV_mod {p q : Int} (h : p % 1048576 = q % 1048576) : trV p = trV q := by unfold trV; rw [h]

theorem bits_and_nat (a b : Nat) (ha : a < 9223372036854775808) (hb : b < 9223372036854775808) : bits BinOp.and .i64 (a : Int) (b : Int) = ((a &&& b : Nat) : Int) := by
  have hx : a &&& b < 2 ^ 63 := Nat.and_lt_two_pow _ (by omega)
  have h1 : (BitVec.ofInt 64 (a : Int)).toNat = a := by
    rw [BitVec.ofInt_natCast, BitVec.toNat_ofNat]; exact Nat.mod_eq_of_lt (by omega)
  have h2 : (BitVec.ofInt 64 (b : Int)).toNat = b := by
    rw [BitVec.ofInt_natCast, BitVec.toNat_ofNat]; exact Nat.mod_eq_of_lt (by omega)
  show IntKind.i64.wrap ((BitVec.ofInt 64 (a : Int) &&& BitVec.ofInt 64 (b : Int)).toNat : Int) = _
  rw [BitVec.toNat_and, h1, h2, IntKind.wrap_i64]
  omega
/-- The model's way. -/
theorem bit_spec {t : Nat} (ht : t < 1048576) (k : Nat) : bits BinOp.and .i64 ((t : Int) / 2 ^ (19 - k)) 1 = if t.testBit (19 - k) then 1 else 0 := by
  have e1 : ((t : Int) / 2 ^ (19 - k)) = ((t / 2 ^ (19 - k) : Nat) : Int) := by
    have : ((2 : Int) ^ (19 - k)) = ((2 ^ (19 - k) : Nat) : Int) := by simp
    rw [this]; rfl
  have e2 : t / 2 ^ (19 - k) ≤ t := Nat.div_le_self _ _
  have e3 := bits_and_nat (t / 2 ^ (19 - k)) 1 (by omega) (by omega)
  rw [e1]
  have e4 : bits BinOp.and .i64 ((t / 2 ^ (19 - k) : Nat) : Int) 1 = bits BinOp.and .i64 ((t / 2 ^ (19 - k) : Nat) : Int) ((1 : Nat) : Int) := rfl
  rw [e4, e3, Nat.and_one_is_mod]
  rw [Nat.testBit_eq_decide_div_mod_eq]
  rcases Nat.mod_two_eq_zero_or_one (t / 2 ^ (19 - k)) with h | h <;> simp [h]
/-- The program's way. -/
theorem bit_impl {t : Nat} (ht : t < 1048576) {k : Nat} (hk : k < 20) : (bits BinOp.and .i64 (t : Int) ((524288 : Int) / 2 ^ k) = 0) ↔ t.testBit (19 - k) = false := by
  have e1 : ((524288 : Int) / 2 ^ k) = ((2 ^ (19 - k) : Nat) : Int) := by
    have h1 : ((524288 : Int)) = ((2 ^ 19 : Nat) : Int) := rfl
    have h2 : ((2 : Int) ^ k) = ((2 ^ k : Nat) : Int) := by simp
    rw [h1, h2]
    show ((2 ^ 19 / 2 ^ k : Nat) : Int) = _
    rw [Nat.pow_div (by omega) (by omega)]
  have e2 : 2 ^ (19 - k) ≤ 2 ^ 19 := Nat.pow_le_pow_right (by omega) (by omega)
  rw [e1, bits_and_nat t _ (by omega) (by omega)]
  have key : (t &&& 2 ^ (19 - k) = 0) ↔ t.testBit (19 - k) = false := by
    constructor
    · intro h
      have := congrArg (fun x => x.testBit (19 - k)) h
      simpa [Nat.testBit_and, Nat.testBit_two_pow] using this
    · intro h
      apply Nat.eq_of_testBit_eq
      intro i
      rw [Nat.testBit_and, Nat.testBit_two_pow, Nat.zero_testBit]
      by_cases hi : 19 - k = i
      · subst hi; simp [h]
      · simp [hi]
  rw [← key]
  omega

end Go.Proofs.Ytgaabcgdfbgchaa
