/- Proved here: floats that are numbers stand in order as whole numbers do (kyW). No program. -/
import Derived.Test.YtgjdcdhdfhkfcaaFbM
namespace Go.Proofs.Ytgjdcdhdfhkfcaa
open Go.RowKit
set_option linter.unusedVariables false
set_option linter.unusedSimpArgs false

/-- A word, told as a whole number that stands where the float stands. -/
def kyW (x : Nat) : Int := if x / 9223372036854775808 % 2 = 1 then -((x % 9223372036854775808 : Nat) : Int) else ((x % 9223372036854775808 : Nat) : Int)
def sgI (s : Bool) (n : Nat) : Int := if s then -(n : Int) else (n : Int)
theorem cmp_int {a b c d : Int} (h1 : a < b ↔ c < d) (h2 : a = b ↔ c = d) : compare a b = compare c d := by
  rcases Int.lt_trichotomy a b with h | h | h
  · rw [Int.compare_eq_lt.2 h, Int.compare_eq_lt.2 (h1.1 h)]
  · rw [Int.compare_eq_eq.2 h, Int.compare_eq_eq.2 (h2.1 h)]
  · rw [Int.compare_eq_gt.2 h, Int.compare_eq_gt.2 ?_]
    rcases Int.lt_trichotomy c d with h3 | h3 | h3
    · exact absurd (h1.2 h3) (by omega)
    · exact absurd (h2.2 h3) (by omega)
    · exact h3
theorem dg_lt {L K L' K' : Nat} (h : Dg L K) (h' : Dg L' K') (hl : L < L') : K * 2 ^ L < K' * 2 ^ L' ∧ L * 4503599627370496 + K < L' * 4503599627370496 + K' := by
  have h1 := h.few
  have h2 : 4503599627370496 ≤ K' := by rcases h'.top with h3 | h3 <;> omega
  refine ⟨?_, by omega⟩
  have hp : 0 < 2 ^ L := Nat.pow_pos (by decide)
  have a1 : K * 2 ^ L < 9007199254740992 * 2 ^ L := Nat.mul_lt_mul_of_pos_right h1 hp
  have a2 : 9007199254740992 * 2 ^ L = 4503599627370496 * 2 ^ (L + 1) := by rw [Nat.pow_succ]; omega
  have a3 : 4503599627370496 * 2 ^ (L + 1) ≤ K' * 2 ^ L' := Nat.mul_le_mul h2 (Nat.pow_le_pow_right (by decide) (by omega))
  omega
/-- Digits stand in order as their numbers do. -/
theorem dg_ord {L K L' K' : Nat} (h : Dg L K) (h' : Dg L' K') : (K * 2 ^ L < K' * 2 ^ L' ↔ L * 4503599627370496 + K < L' * 4503599627370496 + K') ∧ (K * 2 ^ L = K' * 2 ^ L' ↔ L * 4503599627370496 + K = L' * 4503599627370496 + K') := by
  rcases Nat.lt_trichotomy L L' with hl | hl | hl
  · obtain ⟨a, b⟩ := dg_lt h h' hl
    exact ⟨⟨fun _ => b, fun _ => a⟩, ⟨fun e => absurd e (Nat.ne_of_lt a), fun e => absurd e (Nat.ne_of_lt b)⟩⟩
  · subst hl
    have hp : 0 < 2 ^ L := Nat.pow_pos (by decide)
    have a1 : K * 2 ^ L < K' * 2 ^ L ↔ K < K' := ⟨fun e => Nat.lt_of_mul_lt_mul_right e, fun e => Nat.mul_lt_mul_of_pos_right e hp⟩
    have a2 : K * 2 ^ L = K' * 2 ^ L ↔ K = K' := ⟨fun e => Nat.eq_of_mul_eq_mul_right hp e, fun e => by rw [e]⟩
    exact ⟨a1.trans (by omega), a2.trans (by omega)⟩
  · obtain ⟨a, b⟩ := dg_lt h' h hl
    exact ⟨⟨fun e => absurd (Nat.lt_trans a e) (Nat.lt_irrefl _), fun e => absurd (Nat.lt_trans b e) (Nat.lt_irrefl _)⟩, ⟨fun e => absurd e (Nat.ne_of_gt a), fun e => absurd e (Nat.ne_of_gt b)⟩⟩
theorem sg_scale (s : Bool) (K L b : Nat) (hb : b ≤ L) : Ieee.signed s K (L - b) * ((2 ^ b : Nat) : Int) = sgI s (K * 2 ^ L) := by
  unfold Ieee.signed sgI
  have e : K <<< (L - b) * 2 ^ b = K * 2 ^ L := by rw [Nat.shiftLeft_eq, Nat.mul_assoc, ← Nat.pow_add]; congr 2; omega
  cases s
  · simp only [Bool.false_eq_true, if_false]; rw [← e]; exact (Int.natCast_mul _ _).symm
  · simp only [if_true]; rw [← e, Int.neg_mul]; congr 1
theorem sg_same {s t : Bool} {X Y R R' : Nat} (d1 : X < Y ↔ R < R') (d2 : X = Y ↔ R = R') (d3 : Y < X ↔ R' < R) (z1 : X = 0 ↔ R = 0) (z2 : Y = 0 ↔ R' = 0) : (sgI s X < sgI t Y ↔ sgI s R < sgI t R') ∧ (sgI s X = sgI t Y ↔ sgI s R = sgI t R') := by
  unfold sgI; cases s <;> cases t <;> simp only [Bool.false_eq_true, if_false, if_true] <;> omega
theorem num_ord {s t : Bool} {L K L' K' : Nat} (h : Dg L K) (h' : Dg L' K') : (Ieee.Datum.number s K ((L : Int) - 1074)).order (.number t K' ((L' : Int) - 1074)) = some (compare (sgI s (L * 4503599627370496 + K)) (sgI t (L' * 4503599627370496 + K'))) := by
  simp only [Ieee.Datum.order]
  congr 1
  obtain ⟨b, hb⟩ : ∃ b, b = min L L' := ⟨_, rfl⟩
  rw [show ((L : Int) - 1074 - min ((L : Int) - 1074) ((L' : Int) - 1074)).toNat = L - b by omega, show ((L' : Int) - 1074 - min ((L : Int) - 1074) ((L' : Int) - 1074)).toNat = L' - b by omega]
  have hp : (0 : Int) < ((2 ^ b : Nat) : Int) := by have : 0 < 2 ^ b := Nat.pow_pos (by decide); omega
  have e1 := sg_scale s K L b (by omega)
  have e2 := sg_scale t K' L' b (by omega)
  generalize Ieee.signed s K (L - b) = A at e1
  generalize Ieee.signed t K' (L' - b) = B at e2
  have c1 : A < B ↔ sgI s (K * 2 ^ L) < sgI t (K' * 2 ^ L') := by
    rw [← e1, ← e2]; exact ⟨fun h => Int.mul_lt_mul_of_pos_right h hp, fun h => Int.lt_of_mul_lt_mul_right h (Int.le_of_lt hp)⟩
  have c2 : A = B ↔ sgI s (K * 2 ^ L) = sgI t (K' * 2 ^ L') := by
    rw [← e1, ← e2]; exact ⟨fun h => by rw [h], fun h => Int.eq_of_mul_eq_mul_right (by omega) h⟩
  obtain ⟨d1, d2⟩ := dg_ord h h'
  obtain ⟨d3, d4⟩ := dg_ord h' h
  have z1 : K * 2 ^ L = 0 ↔ L * 4503599627370496 + K = 0 := by
    have hp : 0 < 2 ^ L := Nat.pow_pos (by decide)
    constructor
    · intro e
      rcases Nat.mul_eq_zero.1 e with e | e
      · rcases h.top with h3 | h3 <;> omega
      · omega
    · intro e; rw [show K = 0 by omega, Nat.zero_mul]
  have z2 : K' * 2 ^ L' = 0 ↔ L' * 4503599627370496 + K' = 0 := by
    have hp : 0 < 2 ^ L' := Nat.pow_pos (by decide)
    constructor
    · intro e
      rcases Nat.mul_eq_zero.1 e with e | e
      · rcases h'.top with h3 | h3 <;> omega
      · omega
    · intro e; rw [show K' = 0 by omega, Nat.zero_mul]
  obtain ⟨f1, f2⟩ := sg_same (s := s) (t := t) d1 d2 d3 z1 z2
  exact cmp_int (c1.trans f1) (c2.trans f2)
/-- How a word that is a number is read. -/
theorem rd_cases {x : Nat} (h : fv x = some x) : ∃ s : Bool, (∃ L K, Dg L K ∧ Ieee.double.read x = .number s K ((L : Int) - 1074) ∧ kyW x = sgI s (L * 4503599627370496 + K)) ∨ (Ieee.double.read x = .infinity s ∧ kyW x = sgI s 9218868437227405312) := by
  obtain ⟨_, hn⟩ := fv_some h
  refine ⟨x / 9223372036854775808 % 2 == 1, ?_⟩
  have hk : ∀ n, x % 9223372036854775808 = n → kyW x = sgI (x / 9223372036854775808 % 2 == 1) n := by
    intro n hn
    unfold kyW sgI
    rw [hn]
    by_cases hc : x / 9223372036854775808 % 2 = 1
    · rw [if_pos hc, if_pos (beq_iff_eq.2 hc)]
    · rw [if_neg hc, if_neg (fun e => hc (beq_iff_eq.1 e))]
  unfold Ieee.Format.read
  rw [sw64, ir64, bn64, lp64]
  simp only
  generalize hR : x % 9223372036854775808 = R at hn ⊢
  by_cases h1 : R < 4503599627370496
  · left
    refine ⟨0, R, ⟨.inl rfl, by omega, by omega⟩, by rw [if_pos h1]; rfl, hk _ (by omega)⟩
  · rw [if_neg h1]
    by_cases h2 : R < 9218868437227405312
    · left
      refine ⟨R / 4503599627370496 - 1, R % 4503599627370496 + 4503599627370496, ⟨.inr (by omega), by omega, by omega⟩, ?_, hk _ (by omega)⟩
      rw [if_pos h2]
      congr 1 <;> omega
    · right
      rw [if_neg h2, if_pos (by omega)]
      exact ⟨rfl, hk _ (by omega)⟩
theorem ord_key {x y : Nat} (hx : fv x = some x) (hy : fv y = some y) : Ieee.double.order x y = some (compare (kyW x) (kyW y)) := by
  obtain ⟨s, hs⟩ := rd_cases hx
  obtain ⟨t, ht⟩ := rd_cases hy
  unfold Ieee.Format.order
  rcases hs with ⟨L, K, hd, hr, hk⟩ | ⟨hr, hk⟩ <;> rcases ht with ⟨L', K', hd', hr', hk'⟩ | ⟨hr', hk'⟩
  · rw [hr, hr', hk, hk', num_ord hd hd']
  · rw [hr, hr', hk, hk']
    have h1 := hd.few
    have h2 := hd.end_
    simp only [Ieee.Datum.order]
    congr 1
    unfold sgI
    cases s <;> cases t <;> simp only [Bool.false_eq_true, if_false, if_true]
    all_goals first | (symm; exact Int.compare_eq_lt.2 (by omega)) | (symm; exact Int.compare_eq_gt.2 (by omega))
  · rw [hr, hr', hk, hk']
    have h1 := hd'.few
    have h2 := hd'.end_
    simp only [Ieee.Datum.order]
    congr 1
    unfold sgI
    cases s <;> cases t <;> simp only [Bool.false_eq_true, if_false, if_true]
    all_goals first | (symm; exact Int.compare_eq_lt.2 (by omega)) | (symm; exact Int.compare_eq_gt.2 (by omega))
  · rw [hr, hr', hk, hk']
    unfold sgI
    cases s <;> cases t <;> decide
theorem ord_nan {x y : Nat} (h : fv x = none ∨ fv y = none) : Ieee.double.order x y = none := by
  have N : ∀ z, fv z = none → (Ieee.double.read z).isNaN = true := fun z hz => by unfold fv at hz; rw [dec64] at hz; split at hz <;> simp_all
  unfold Ieee.Format.order
  rcases h with h | h
  · have := N x h
    generalize Ieee.double.read x = d at this
    cases d <;> simp_all [Ieee.Datum.isNaN, Ieee.Datum.order]
  · have := N y h
    generalize Ieee.double.read y = d at this
    generalize Ieee.double.read x = c
    cases d <;> cases c <;> simp_all [Ieee.Datum.isNaN, Ieee.Datum.order]
/-- Both are numbers and stand so. -/
def ltF (x y : Nat) : Prop := fv x = some x ∧ fv y = some y ∧ kyW x < kyW y
def leF (x y : Nat) : Prop := fv x = some x ∧ fv y = some y ∧ kyW x ≤ kyW y
instance (x y : Nat) : Decidable (ltF x y) := by unfold ltF; infer_instance
instance (x y : Nat) : Decidable (leF x y) := by unfold leF; infer_instance
theorem num_or (x : Nat) : fv x = none ∨ fv x = some x := by
  cases h : fv x with
  | none => exact .inl rfl
  | some y => obtain ⟨rfl, _⟩ := fv_some h; exact .inr rfl
theorem ord_lt (x y : Nat) : (FloatKind.f64.format.order x y == some .lt) = decide (ltF x y) := by
  rw [show FloatKind.f64.format = Ieee.double from rfl]
  rcases num_or x with hx | hx
  · rw [ord_nan (.inl hx)]; symm; rw [decide_eq_false (fun h => by rw [h.1] at hx; cases hx)]; rfl
  rcases num_or y with hy | hy
  · rw [ord_nan (.inr hy)]; symm; rw [decide_eq_false (fun h => by rw [h.2.1] at hy; cases hy)]; rfl
  rw [ord_key hx hy]
  rcases Int.lt_trichotomy (kyW x) (kyW y) with h | h | h
  · rw [Int.compare_eq_lt.2 h, decide_eq_true ⟨hx, hy, h⟩]; rfl
  · rw [Int.compare_eq_eq.2 h, decide_eq_false (fun h2 => by have := h2.2.2; omega)]; rfl
  · rw [Int.compare_eq_gt.2 h, decide_eq_false (fun h2 => by have := h2.2.2; omega)]; rfl
theorem ord_le (x y : Nat) : (FloatKind.f64.format.order x y == some .lt || FloatKind.f64.format.order x y == some .eq) = decide (leF x y) := by
  rw [show FloatKind.f64.format = Ieee.double from rfl]
  rcases num_or x with hx | hx
  · rw [ord_nan (.inl hx)]; symm; rw [decide_eq_false (fun h => by rw [h.1] at hx; cases hx)]; rfl
  rcases num_or y with hy | hy
  · rw [ord_nan (.inr hy)]; symm; rw [decide_eq_false (fun h => by rw [h.2.1] at hy; cases hy)]; rfl
  rw [ord_key hx hy]
  rcases Int.lt_trichotomy (kyW x) (kyW y) with h | h | h
  · rw [Int.compare_eq_lt.2 h, decide_eq_true ⟨hx, hy, by omega⟩]; rfl
  · rw [Int.compare_eq_eq.2 h, decide_eq_true ⟨hx, hy, by omega⟩]; rfl
  · rw [Int.compare_eq_gt.2 h, decide_eq_false (fun h2 => by have := h2.2.2; omega)]; rfl
theorem ord_ge (x y : Nat) : (FloatKind.f64.format.order x y == some .gt || FloatKind.f64.format.order x y == some .eq) = decide (leF y x) := by
  rw [show FloatKind.f64.format = Ieee.double from rfl]
  rcases num_or x with hx | hx
  · rw [ord_nan (.inl hx)]; symm; rw [decide_eq_false (fun h => by rw [h.2.1] at hx; cases hx)]; rfl
  rcases num_or y with hy | hy
  · rw [ord_nan (.inr hy)]; symm; rw [decide_eq_false (fun h => by rw [h.1] at hy; cases hy)]; rfl
  rw [ord_key hx hy]
  rcases Int.lt_trichotomy (kyW x) (kyW y) with h | h | h
  · rw [Int.compare_eq_lt.2 h, decide_eq_false (fun h2 => by have := h2.2.2; omega)]; rfl
  · rw [Int.compare_eq_eq.2 h, decide_eq_true ⟨hy, hx, by omega⟩]; rfl
  · rw [Int.compare_eq_gt.2 h, decide_eq_true ⟨hy, hx, by omega⟩]; rfl
theorem ord_gt (x y : Nat) : (FloatKind.f64.format.order x y == some .gt) = decide (ltF y x) := by
  rw [show FloatKind.f64.format = Ieee.double from rfl]
  rcases num_or x with hx | hx
  · rw [ord_nan (.inl hx)]; symm; rw [decide_eq_false (fun h => by rw [h.2.1] at hx; cases hx)]; rfl
  rcases num_or y with hy | hy
  · rw [ord_nan (.inr hy)]; symm; rw [decide_eq_false (fun h => by rw [h.1] at hy; cases hy)]; rfl
  rw [ord_key hx hy]
  rcases Int.lt_trichotomy (kyW x) (kyW y) with h | h | h
  · rw [Int.compare_eq_lt.2 h, decide_eq_false (fun h2 => by have := h2.2.2; omega)]; rfl
  · rw [Int.compare_eq_eq.2 h, decide_eq_false (fun h2 => by have := h2.2.2; omega)]; rfl
  · rw [Int.compare_eq_gt.2 h, decide_eq_true ⟨hy, hx, h⟩]; rfl

end Go.Proofs.Ytgjdcdhdfhkfcaa
