/- Proved here: floats told as a whole number times a power of two: doubled and halved they are the next ones, how they compare, and what their bits are. No program. -/
import Derived.Test.YtgjdcdhdfhkfcaaFlB
namespace Go.Proofs.Ytgjdcdhdfhkfcaa
set_option linter.unusedVariables false
set_option linter.unusedSimpArgs false

theorem lp64 : Ieee.double.leastPlace = -1074 := by decide
theorem fb64 : Ieee.double.fractionBits = 52 := rfl
theorem p52 : (2 : Nat) ^ 52 = 4503599627370496 := by decide
theorem p53 : (2 : Nat) ^ 53 = 9007199254740992 := by decide
theorem log2_shift {m : Nat} (h : m ≠ 0) (k : Nat) : (m * 2 ^ k).log2 = m.log2 + k := by
  induction k with
  | zero => simp
  | succ k ih =>
    have h2 : m * 2 ^ k ≠ 0 := Nat.mul_ne_zero h (by simp)
    rw [Nat.pow_succ, ← Nat.mul_assoc, Nat.mul_comm _ 2, Nat.log2_two_mul h2, ih]; omega
theorem cut_none (way : Ieee.Toward) (s : Bool) (n : Nat) : way.cut s n 0 = n := by
  unfold Ieee.Toward.cut
  cases way <;> simp [Nat.mod_one]
theorem cut_shift (s : Bool) {n : Nat} (h : n ≠ 0) (d k : Nat) : Ieee.Toward.even.cut s (n * 2 ^ k) (d + k) = Ieee.Toward.even.cut s n d := by
  unfold Ieee.Toward.cut
  have e : min (d + k) ((n * 2 ^ k).log2 + 2) = min d (n.log2 + 2) + k := by rw [log2_shift h]; omega
  rw [e]
  have hk : 0 < 2 ^ k := Nat.pow_pos (by decide)
  generalize min d (n.log2 + 2) = g
  have e2 : 1 <<< (g + k) = (1 <<< g) * 2 ^ k := by simp [Nat.shiftLeft_eq, Nat.pow_add]
  rw [e2]
  generalize 1 <<< g = G
  simp only [Nat.mul_div_mul_right _ _ hk, Nat.mul_mod_mul_right]
  generalize n / G = a
  generalize n % G = b
  have e3 : (G * 2 ^ k < 2 * (b * 2 ^ k)) ↔ G < 2 * b := by rw [← Nat.mul_assoc]; exact ⟨fun h => Nat.lt_of_mul_lt_mul_right h, fun h => Nat.mul_lt_mul_of_pos_right h hk⟩
  have e4 : (G * 2 ^ k = 2 * (b * 2 ^ k)) ↔ G = 2 * b := by rw [← Nat.mul_assoc]; exact ⟨fun h => Nat.eq_of_mul_eq_mul_right hk h, fun h => by rw [h]⟩
  have e5 : (G * 2 ^ k == 2 * (b * 2 ^ k)) = (G == 2 * b) := by
    by_cases hq : G = 2 * b
    · rw [beq_iff_eq.2 hq, beq_iff_eq.2 (e4.2 hq)]
    · rw [beq_eq_false_iff_ne.2 hq, beq_eq_false_iff_ne.2 (fun h => hq (e4.1 h))]
  rw [e5, show decide (G * 2 ^ k < 2 * (b * 2 ^ k)) = decide (G < 2 * b) from decide_eq_decide.2 e3]
/-- What is kept. -/
def kpN (s : Bool) (m : Nat) (d : Int) : Nat := Ieee.Toward.even.cut s (m <<< (-d).toNat) d.toNat
theorem kp_shift (s : Bool) {m : Nat} (h : m ≠ 0) (d : Int) (k : Nat) : kpN s (m * 2 ^ k) (d + k) = kpN s m d := by
  unfold kpN
  by_cases hd : d < 0
  · obtain ⟨a, rfl⟩ : ∃ a : Nat, d = -(a : Int) := ⟨(-d).toNat, by omega⟩
    simp only [Int.neg_neg, Int.toNat_natCast, show (-(a : Int)).toNat = 0 by omega, cut_none]
    rcases Nat.lt_or_ge a k with hk | hk
    · rw [show (-(-(a : Int) + k)).toNat = 0 by omega, show (-(a : Int) + k).toNat = 0 + (k - a) by omega, Nat.shiftLeft_zero]
      have e : m * 2 ^ k = (m * 2 ^ a) * 2 ^ (k - a) := by rw [Nat.mul_assoc, ← Nat.pow_add]; congr 2; omega
      rw [e, cut_shift s (Nat.mul_ne_zero h (by simp)), cut_none, Nat.shiftLeft_eq]
    · rw [show (-(-(a : Int) + k)).toNat = a - k by omega, show (-(a : Int) + k).toNat = 0 by omega, cut_none, Nat.shiftLeft_eq, Nat.shiftLeft_eq, Nat.mul_assoc, ← Nat.pow_add]
      congr 2; omega
  · obtain ⟨a, rfl⟩ : ∃ a : Nat, d = (a : Int) := ⟨d.toNat, by omega⟩
    rw [show (-((a : Int) + k)).toNat = 0 by omega, show ((a : Int) + k).toNat = a + k by omega, show (-(a : Int)).toNat = 0 by omega, show ((a : Int)).toNat = a by omega, Nat.shiftLeft_zero, Nat.shiftLeft_zero, cut_shift s h]
theorem nr_eq (s : Bool) {m : Nat} (h : m ≠ 0) (p : Int) : Ieee.double.nearest s m p = Ieee.double.word s (min ((max (p + m.log2 - 52) (-1074) + 1074).toNat * 4503599627370496 + kpN s m (max (p + m.log2 - 52) (-1074) - p)) 9218868437227405312) := by
  unfold Ieee.Format.nearest kpN
  rw [if_neg h, lp64, fb64, bn64, ir64]
  simp only [Int.neg_sub, Int.sub_neg]
  rfl
theorem nr_zero (s : Bool) (p : Int) : Ieee.double.nearest s 0 p = Ieee.double.word s 0 := by unfold Ieee.Format.nearest; rw [if_pos rfl]
/-- The nearest float hangs on the number alone. -/
theorem nr_shift (s : Bool) (m : Nat) (p : Int) (k : Nat) : Ieee.double.nearest s (m * 2 ^ k) (p - k) = Ieee.double.nearest s m p := by
  by_cases h : m = 0
  · subst h; rw [Nat.zero_mul, nr_zero, nr_zero]
  · rw [nr_eq s h, nr_eq s (Nat.mul_ne_zero h (by simp)), log2_shift h]
    rw [show p - (k : Int) + ((m.log2 + k : Nat) : Int) - 52 = p + m.log2 - 52 by omega]
    rw [show ∀ x : Int, x - (p - (k : Int)) = (x - p) + k from fun x => by omega, kp_shift s h]
theorem nr_val (s : Bool) {m n a b : Nat} (h : m * 2 ^ a = n * 2 ^ b) (c : Int) : Ieee.double.nearest s m (a + c) = Ieee.double.nearest s n (b + c) := by
  rw [← nr_shift s m (a + c) a, ← nr_shift s n (b + c) b, h, show (a : Int) + c - a = b + c - b by omega]
/-- A finite float's digits: L the place (from the least on), K the digits. -/
structure Dg (L K : Nat) : Prop where
  top : L = 0 ∨ 4503599627370496 ≤ K
  few : K < 9007199254740992
  end_ : L ≤ 2045
theorem nr_dg (s : Bool) {L K : Nat} (h : Dg L K) : Ieee.double.nearest s K ((L : Int) - 1074) = Ieee.double.word s (L * 4503599627370496 + K) := by
  by_cases h0 : K = 0
  · subst h0; rcases h.top with h1 | h1
    · subst h1; rw [nr_zero]
    · omega
  · have hlt := h.few
    have he := h.end_
    rw [nr_eq s h0]
    have hl : K.log2 < 53 := (Nat.log2_lt h0).2 (by rw [p53]; exact hlt)
    have hm : max ((L : Int) - 1074 + K.log2 - 52) (-1074) = (L : Int) - 1074 := by
      rcases h.top with h1 | h1
      · omega
      · have : 52 ≤ K.log2 := (Nat.le_log2 h0).2 (by rw [p52]; exact h1)
        omega
    rw [hm, show ((L : Int) - 1074 - (L - 1074)) = 0 by omega]
    have hk : kpN s K 0 = K := by unfold kpN; simp [cut_none]
    rw [hk, show ((L : Int) - 1074 + 1074).toNat = L by omega, Nat.min_eq_left (by omega)]
theorem rd_dg (s : Bool) {L K : Nat} (h : Dg L K) : Ieee.double.read (Ieee.double.word s (L * 4503599627370496 + K)) = .number s K ((L : Int) - 1074) := by
  have hlt := h.few
  have he := h.end_
  obtain ⟨R, hR⟩ : ∃ R, R = L * 4503599627370496 + K := ⟨_, rfl⟩
  have hR2 : R < 9218868437227405312 := by omega
  unfold Ieee.Format.read
  rw [← hR, sw64, word_rung s R (by omega), ir64, bn64, lp64]
  have hs : (Ieee.double.word s R / 9223372036854775808 % 2 == 1) = s := by
    unfold Ieee.Format.word; rw [sw64]
    cases s
    · simp only [Bool.false_eq_true, if_false, beq_eq_false_iff_ne]; omega
    · simp only [if_true, beq_iff_eq]; omega
  simp only [hs]
  by_cases h1 : R < 4503599627370496
  · rw [if_pos h1]
    have hL : L = 0 := by omega
    subst hL
    congr 1
    omega
  · rw [if_neg h1, if_pos hR2]
    have hK : 4503599627370496 ≤ K := by rcases h.top with h2 | h2 <;> omega
    congr 1 <;> omega
theorem dg_of {s : Bool} {m j : Nat} {p : Int} (h1 : m < 2 ^ j) (h2 : j ≤ 53) (h3 : -1074 ≤ p) (h4 : p + j ≤ 1024) : ∃ L K, Dg L K ∧ K * 2 ^ L = m * 2 ^ (p + 1074).toNat ∧ Ieee.double.nearest s m p = Ieee.double.word s (L * 4503599627370496 + K) := by
  by_cases h0 : m = 0
  · subst h0; exact ⟨0, 0, ⟨.inl rfl, by omega, by omega⟩, by simp, by rw [nr_zero]⟩
  obtain ⟨q, hq⟩ : ∃ q, q = (p + 1074).toNat := ⟨_, rfl⟩
  obtain ⟨l, hl⟩ : ∃ l, l = m.log2 := ⟨_, rfl⟩
  have hlj : l < j := by rw [hl]; exact (Nat.log2_lt h0).2 h1
  have hlo : 2 ^ l ≤ m := by rw [hl]; exact Nat.log2_self_le h0
  have hhi : m < 2 ^ (l + 1) := by rw [hl]; exact Nat.lt_log2_self
  have F : ∀ L K, Dg L K → K * 2 ^ L = m * 2 ^ q → Ieee.double.nearest s m p = Ieee.double.word s (L * 4503599627370496 + K) := by
    intro L K hd he
    rw [← nr_dg s hd, show (p : Int) = (q : Int) + (-1074) by omega, show (L : Int) - 1074 = (L : Int) + (-1074) by omega]
    exact (nr_val s he (-1074)).symm
  rw [← hq]
  by_cases hc : q + l ≤ 52
  · refine ⟨0, m * 2 ^ q, ?_, by simp, F 0 _ ?_ (by simp)⟩
    all_goals
      refine ⟨.inl rfl, ?_, by omega⟩
      rw [← p53]
      have : m * 2 ^ q < 2 ^ (l + 1) * 2 ^ q := Nat.mul_lt_mul_of_pos_right hhi (Nat.pow_pos (by decide))
      rw [← Nat.pow_add] at this
      exact Nat.lt_of_lt_of_le this (Nat.pow_le_pow_right (by decide) (by omega))
  · have hd : Dg (q + l - 52) (m * 2 ^ (52 - l)) := by
      refine ⟨.inr ?_, ?_, by omega⟩
      · rw [← p52]
        have : 2 ^ l * 2 ^ (52 - l) ≤ m * 2 ^ (52 - l) := Nat.mul_le_mul_right _ hlo
        rw [← Nat.pow_add, show l + (52 - l) = 52 by omega] at this
        exact this
      · rw [← p53]
        have : m * 2 ^ (52 - l) < 2 ^ (l + 1) * 2 ^ (52 - l) := Nat.mul_lt_mul_of_pos_right hhi (Nat.pow_pos (by decide))
        rw [← Nat.pow_add, show l + 1 + (52 - l) = 53 by omega] at this
        exact this
    have he : m * 2 ^ (52 - l) * 2 ^ (q + l - 52) = m * 2 ^ q := by
      rw [Nat.mul_assoc, ← Nat.pow_add]; congr 2; omega
    exact ⟨_, _, hd, he, F _ _ hd he⟩
/-- How a float is read that is told so. -/
theorem rd_of {s : Bool} {m j : Nat} {p : Int} (h1 : m < 2 ^ j) (h2 : j ≤ 53) (h3 : -1074 ≤ p) (h4 : p + j ≤ 1024) : ∃ L K, Dg L K ∧ K * 2 ^ L = m * 2 ^ (p + 1074).toNat ∧ Ieee.double.read (Ieee.double.nearest s m p) = .number s K ((L : Int) - 1074) := by
  obtain ⟨L, K, hd, he, hn⟩ := dg_of (s := s) h1 h2 h3 h4
  exact ⟨L, K, hd, he, by rw [hn]; exact rd_dg s hd⟩
theorem rd_two : Ieee.double.read 4611686018427387904 = .number false 4503599627370496 (-51) := by decide
theorem dbl_of {s : Bool} {m j : Nat} {p : Int} (h1 : m < 2 ^ j) (h2 : j ≤ 53) (h3 : -1074 ≤ p) (h4 : p + j ≤ 1024) : floatBits .mul .f64 (Ieee.double.nearest s m p) 4611686018427387904 = some (Ieee.double.nearest s m (p + 1)) := by
  obtain ⟨L, K, hd, he, hr⟩ := rd_of (s := s) h1 h2 h3 h4
  show Ieee.double.mul _ _ = _
  unfold Ieee.Format.mul
  rw [hr, rd_two]
  simp only [Ieee.Datum.product, Option.map_some, Ieee.Format.write, Bool.xor_false]
  congr 1
  have e1 : Ieee.double.nearest s (K * 4503599627370496) ((L : Int) - 1074 + -51) = Ieee.double.nearest s K ((L : Int) + (-1073)) := by
    have := nr_shift s K ((L : Int) - 1073) 52
    rw [p52] at this
    rw [show (L : Int) - 1074 + -51 = (L : Int) - 1073 - ((52 : Nat) : Int) by omega, this]; congr 1
  rw [e1, nr_val s he (-1073)]
  congr 1; omega
theorem half_of {s : Bool} {m j : Nat} {p : Int} (h1 : m < 2 ^ j) (h2 : j ≤ 53) (h3 : -1074 ≤ p) (h4 : p + j ≤ 1024) : floatBits .quo .f64 (Ieee.double.nearest s m p) 4611686018427387904 = some (Ieee.double.nearest s m (p - 1)) := by
  obtain ⟨L, K, hd, he, hr⟩ := rd_of (s := s) h1 h2 h3 h4
  show Ieee.double.div _ _ = _
  unfold Ieee.Format.div
  rw [hr, rd_two]
  simp only [Ieee.Datum.quotient, fb64]
  rw [if_neg (by decide)]
  simp only [Option.map_some, Ieee.Format.write, Bool.xor_false]
  congr 1
  have hl2 : (4503599627370496 : Nat).log2 = 52 := by decide
  rw [hl2]
  obtain ⟨M, hM⟩ : ∃ M, 52 + 2 + 52 - K.log2 = M + 52 := by
    refine ⟨54 - K.log2, ?_⟩
    by_cases h0 : K = 0
    · subst h0; decide
    · have : K.log2 < 53 := (Nat.log2_lt h0).2 (by rw [p53]; exact hd.few)
      omega
  rw [hM]
  have e1 : K <<< (M + 52) = (K * 2 ^ M) * 4503599627370496 := by rw [Nat.shiftLeft_eq, Nat.pow_add, p52, Nat.mul_assoc]
  rw [e1, Nat.mul_div_cancel _ (by decide), Nat.mul_mod_left]
  have e2 : 2 * (K * 2 ^ M) + ((0 : Nat) != 0).toNat = K * 2 ^ (M + 1) := by
    show 2 * (K * 2 ^ M) + 0 = _
    rw [Nat.pow_succ, Nat.add_zero, Nat.mul_comm 2, Nat.mul_assoc]
  rw [e2, show (L : Int) - 1074 - -51 - ((M + 52 : Nat) : Int) - 1 = ((L : Int) + (-1075)) - ((M + 1 : Nat) : Int) by omega, nr_shift, nr_val s he (-1075)]
  congr 1; omega

theorem cmp_mul (a b : Nat) {c : Nat} (h : 0 < c) : compare ((a * c : Nat) : Int) ((b * c : Nat) : Int) = compare ((a : Nat) : Int) ((b : Nat) : Int) := by
  rcases Nat.lt_trichotomy a b with h1 | h1 | h1
  · rw [Int.compare_eq_lt.2 (Int.ofNat_lt.2 (Nat.mul_lt_mul_of_pos_right h1 h)), Int.compare_eq_lt.2 (by omega)]
  · subst h1; rw [Int.compare_eq_eq.2 rfl, Int.compare_eq_eq.2 rfl]
  · rw [Int.compare_eq_gt.2 (Int.ofNat_lt.2 (Nat.mul_lt_mul_of_pos_right h1 h)), Int.compare_eq_gt.2 (by omega)]
/-- Two positive floats compare as their numbers do. -/
theorem ord_dg {L K L' K' : Nat} : (Ieee.Datum.number false K ((L : Int) - 1074)).order (.number false K' ((L' : Int) - 1074)) = some (compare ((K * 2 ^ L : Nat) : Int) ((K' * 2 ^ L' : Nat) : Int)) := by
  simp only [Ieee.Datum.order, Ieee.signed, Bool.false_eq_true, if_false]
  congr 1
  obtain ⟨b, hb⟩ : ∃ b, b = min L L' := ⟨_, rfl⟩
  rw [show ((L : Int) - 1074 - min ((L : Int) - 1074) ((L' : Int) - 1074)).toNat = L - b by omega, show ((L' : Int) - 1074 - min ((L : Int) - 1074) ((L' : Int) - 1074)).toNat = L' - b by omega]
  rw [← cmp_mul _ _ (Nat.pow_pos (n := b) (show 0 < 2 by decide)), Nat.shiftLeft_eq, Nat.shiftLeft_eq, Nat.mul_assoc, Nat.mul_assoc, ← Nat.pow_add, ← Nat.pow_add, show L - b + b = L by omega, show L' - b + b = L' by omega]
theorem ord_of {m j n k : Nat} {p q : Int} (h1 : m < 2 ^ j) (h2 : j ≤ 53) (h3 : -1074 ≤ p) (h4 : p + j ≤ 1024) (i1 : n < 2 ^ k) (i2 : k ≤ 53) (i3 : -1074 ≤ q) (i4 : q + k ≤ 1024) :
    Ieee.double.order (Ieee.double.nearest false m p) (Ieee.double.nearest false n q) = some (compare ((m * 2 ^ (p + 1074).toNat : Nat) : Int) ((n * 2 ^ (q + 1074).toNat : Nat) : Int)) := by
  obtain ⟨L, K, hd, he, hr⟩ := rd_of (s := false) h1 h2 h3 h4
  obtain ⟨L', K', hd', he', hr'⟩ := rd_of (s := false) i1 i2 i3 i4
  unfold Ieee.Format.order
  rw [hr, hr', ord_dg, he, he']

theorem cut_whole {K L m c : Nat} (he : K * 2 ^ L = m * 2 ^ c) (s : Bool) : Ieee.Toward.zero.cut s (K <<< (L - c)) (c - L) = m := by
  rcases Nat.lt_or_ge L c with hL | hL
  · rw [show L - c = 0 by omega, Nat.shiftLeft_zero]
    have hK : K = m * 2 ^ (c - L) := by
      have : K * 2 ^ L = (m * 2 ^ (c - L)) * 2 ^ L := by rw [he, Nat.mul_assoc, ← Nat.pow_add]; congr 2; omega
      exact Nat.eq_of_mul_eq_mul_right (Nat.pow_pos (by decide)) this
    rw [hK]
    by_cases h0 : m = 0
    · subst h0; simp [Ieee.Toward.cut]
    · unfold Ieee.Toward.cut
      rw [log2_shift h0, Nat.min_eq_left (by omega)]
      simp only [Nat.shiftLeft_eq, Nat.one_mul, Bool.toNat_false, Nat.add_zero]
      exact Nat.mul_div_cancel _ (Nat.pow_pos (by decide))
  · rw [show c - L = 0 by omega, cut_none, Nat.shiftLeft_eq]
    have : (K * 2 ^ (L - c)) * 2 ^ c = m * 2 ^ c := by rw [← he, Nat.mul_assoc, ← Nat.pow_add]; congr 2; omega
    exact Nat.eq_of_mul_eq_mul_right (Nat.pow_pos (by decide)) this
/-- Cut towards zero, a whole number is itself. -/
theorem int_of {m : Nat} (h1 : m < 2 ^ 53) : (FloatKind.f64.decode (Ieee.double.nearest false m 0)).toInt .zero = some (m : Int) := by
  obtain ⟨L, K, hd, he, hr⟩ := rd_of (s := false) (p := 0) h1 (Nat.le_refl _) (by decide) (by decide)
  rw [dec64, hr]
  simp only [Ieee.Datum.toInt, Ieee.Datum.integral, Ieee.signed, Bool.false_eq_true, if_false, Nat.shiftLeft_zero]
  obtain ⟨c, hc⟩ : ∃ c : Nat, (c : Int) = 0 + 1074 := ⟨1074, rfl⟩
  rw [← hc, Int.toNat_natCast] at he
  rw [show ((L : Int) - 1074).toNat = L - c by omega, show (-((L : Int) - 1074)).toNat = c - L by omega, cut_whole he]

end Go.Proofs.Ytgjdcdhdfhkfcaa
