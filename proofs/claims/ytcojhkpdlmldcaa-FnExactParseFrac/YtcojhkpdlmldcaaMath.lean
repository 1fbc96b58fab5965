/- Proved here: plain facts on greatest divisors, lowest terms and the order of fractions, over Lean's own integers; no condition but those that each theorem bears. -/
namespace Go.Proofs.Ytcojhkpdlmldcaa.FracMath

theorem gcd_step (a b : Int) (ha : 0 ≤ a) (hb : 0 ≤ b) : Int.gcd b (a % b) = Int.gcd a b := by
  obtain ⟨x, rfl⟩ := Int.eq_ofNat_of_zero_le ha
  obtain ⟨y, rfl⟩ := Int.eq_ofNat_of_zero_le hb
  rw [← Int.natCast_emod]
  simp only [Int.gcd_natCast_natCast]
  rw [Nat.gcd_comm y, ← Nat.gcd_rec, Nat.gcd_comm]

theorem gcd_zero (a : Int) (h : 0 ≤ a) : (Int.gcd a 0 : Int) = a := by
  simp [Int.gcd]; omega

theorem gcd_pos (a b : Int) (h : 1 ≤ b) : 1 ≤ (Int.gcd a b : Int) := by
  have : 0 < Int.gcd a b := Int.gcd_pos_of_ne_zero_right a (by omega)
  omega

theorem gcd_le (a b : Int) (h : 1 ≤ b) : (Int.gcd a b : Int) ≤ b := 
  Int.le_of_dvd (by omega) (Int.gcd_dvd_right ..)

theorem gcd_abs (a b : Int) : Int.gcd (if a < 0 then -a else a) b = Int.gcd a b := by
  split <;> simp

theorem low_iff (n d : Int) (h : 1 ≤ d) : (n = n.tdiv (Int.gcd n d) ∧ d = d / (Int.gcd n d)) ↔ Int.gcd n d = 1 := by
  constructor
  · rintro ⟨_, h2⟩
    have h1 := gcd_pos n d h
    rcases Int.lt_or_le 1 (Int.gcd n d : Int) with hg | hg
    · exfalso
      have := Int.ediv_lt_self_of_pos_of_ne_one (x := d) (y := (Int.gcd n d : Int)) (by omega) (by omega)
      omega
    · omega
  · intro hg; rw [hg]; simp

theorem low_coprime (n d : Int) (h : 1 ≤ d) : Int.gcd (n.tdiv (Int.gcd n d)) (d / (Int.gcd n d)) = 1 := by
  have h1 := gcd_pos n d h
  have e : n.tdiv (Int.gcd n d) = n / (Int.gcd n d) := Int.tdiv_eq_ediv_of_dvd (Int.gcd_dvd_left ..)
  rw [e]
  exact Int.gcd_ediv_gcd_ediv_gcd (by omega)

theorem dvd_cross (b a d : Int) (h : b ∣ a * d) (hg : Int.gcd a b = 1) : b ∣ d := by
  rw [← Int.natAbs_dvd_natAbs] at *
  rw [Int.natAbs_mul] at h
  exact Nat.Coprime.dvd_of_dvd_mul_left (by rw [Nat.coprime_comm]; exact hg) h

theorem cross (a b c d : Int) (hb : 1 ≤ b) (hd : 1 ≤ d) (h1 : Int.gcd a b = 1) (h2 : Int.gcd c d = 1) (h : a * d = c * b) : a = c ∧ b = d := by
  have k1 : b ∣ d := dvd_cross b a d ⟨c, by rw [h, Int.mul_comm]⟩ h1
  have k2 : d ∣ b := dvd_cross d c b ⟨a, by rw [← h, Int.mul_comm]⟩ h2
  have e : b = d := Int.dvd_antisymm (by omega) (by omega) k1 k2
  subst e
  exact ⟨Int.eq_of_mul_eq_mul_right (by omega) h, rfl⟩

end Go.Proofs.Ytcojhkpdlmldcaa.FracMath
