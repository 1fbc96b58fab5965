/- Proved here: arithmetic of images over residues: powers by squaring, rests of numbers below 0, the sums (rs, im). No program. -/
import Derived.Test.YtgbbigokbbllgaaIntsBase
namespace Go.Proofs.Ytgbbigokbbllgaa
set_option linter.unusedVariables false
set_option linter.unusedSimpArgs false

theorem emod_mul_l (a b p : Int) : a % p * b % p = a * b % p := by
  rw [Int.mul_emod, Int.emod_emod_of_dvd _ (Int.dvd_refl p), ← Int.mul_emod]
theorem emod_mul_r (a b p : Int) : a * (b % p) % p = a * b % p := by
  rw [Int.mul_comm a, emod_mul_l, Int.mul_comm]
theorem pow_emod (x p : Int) : ∀ k : Nat, (x % p) ^ k % p = x ^ k % p
  | 0 => by rw [Int.pow_zero, Int.pow_zero]
  | k + 1 => by
    rw [Int.pow_succ, Int.pow_succ, emod_mul_r, ← emod_mul_l, pow_emod x p k, emod_mul_l]
theorem sq_pow (a : Int) : ∀ m : Nat, (a * a) ^ m = a ^ (2 * m)
  | 0 => by rw [Int.pow_zero, Nat.mul_zero, Int.pow_zero]
  | m + 1 => by
    rw [Int.pow_succ, sq_pow a m, show 2 * (m + 1) = 2 * m + 1 + 1 by omega, Int.pow_succ, Int.pow_succ, Int.mul_assoc]
theorem pw_even (o a p : Int) (m : Nat) : o * (a * a % p) ^ m % p = o * a ^ (2 * m) % p := by
  rw [← emod_mul_r, pow_emod, emod_mul_r, sq_pow]
theorem pw_odd (o a p : Int) (m : Nat) : o * a % p * (a * a % p) ^ m % p = o * a ^ (2 * m + 1) % p := by
  rw [emod_mul_l, pw_even, Int.pow_succ, Int.mul_assoc, Int.mul_comm a]

/-- The power modulo the prime. -/
def pwP (a : Int) (e : Nat) : Int := a ^ e % 998244353
theorem pwP_bd (a : Int) (e : Nat) : 0 ≤ pwP a e ∧ pwP a e < 998244353 := ⟨Int.emod_nonneg _ (by decide), Int.emod_lt_of_pos _ (by decide)⟩

theorem tm_mod {a n : Int} (h : 0 < n) : (if a.tmod n < 0 then a.tmod n + n else a.tmod n) = a % n := by
  have h1 := Int.emod_nonneg a (show n ≠ 0 by omega)
  have h2 := Int.emod_lt_of_pos a h
  have e := Int.mul_tdiv_add_tmod a n
  have e2 := Int.mul_ediv_add_emod a n
  rcases Int.lt_or_le a 0 with ha | ha
  · have h3 : a.tmod n ≤ 0 := by
      have := Int.neg_tmod (-a) n
      rw [Int.neg_neg] at this
      have h5 := Int.tmod_nonneg n (show 0 ≤ -a by omega)
      omega
    have h4 : -n < a.tmod n := by have := Int.lt_tmod_of_pos a h; omega
    have hd : n * (a.tdiv n - a / n) = a % n - a.tmod n := by rw [Int.mul_sub]; omega
    have hk : a.tdiv n - a / n = 0 ∨ a.tdiv n - a / n = 1 := by
      generalize a.tdiv n - a / n = k at hd
      have hp : n * k = a % n - a.tmod n := hd
      rcases Int.lt_or_le k 0 with hk | hk
      · exfalso
        have : n * k ≤ n * (-1) := Int.mul_le_mul_of_nonneg_left (by omega) (by omega)
        omega
      · rcases Int.lt_or_le 1 k with hk2 | hk2
        · exfalso
          have : n * 2 ≤ n * k := Int.mul_le_mul_of_nonneg_left (by omega) (by omega)
          omega
        · omega
    rcases hk with hk | hk
    · rw [hk] at hd
      split <;> omega
    · rw [hk] at hd
      split <;> omega
  · rw [Int.tmod_eq_emod_of_nonneg ha, if_neg (by omega)]
theorem tm_bd {a n : Int} (h : 0 < n) : -n < a.tmod n ∧ a.tmod n < n := by
  have h1 := Int.lt_tmod_of_pos a h
  have h2 := Int.tmod_lt_of_pos a h
  omega
theorem tm_two {a n : Int} (h : 0 < n) : (a.tmod n + n).tmod n = a % n := by
  have hb := tm_bd (a := a) h
  rw [Int.tmod_eq_emod_of_nonneg (show 0 ≤ a.tmod n + n by omega), ← tm_mod (a := a) h]
  split
  · exact Int.emod_eq_of_lt (by omega) (by omega)
  · rw [Int.add_emod_right]
    exact Int.emod_eq_of_lt (by omega) (by omega)
theorem neg_mod (a n : Int) : (-(a % n)) % n = (-a) % n := by
  apply Int.emod_eq_emod_iff_emod_sub_eq_zero.2
  have : -(a % n) - -a = n * (a / n) := by have := Int.mul_ediv_add_emod a n; omega
  rw [this]
  exact Int.mul_emod_right n _

/-- The exponent at k. -/
def exK (n sh t : Int) (k : Nat) : Nat := (((k : Int) + sh % n) * t % n).toNat
theorem exK_lt {n sh t : Int} {k : Nat} (h : 0 < n) : exK n sh t k < n.toNat := by
  unfold exK
  have h1 := Int.emod_nonneg (((k : Int) + sh % n) * t) (show n ≠ 0 by omega)
  have h2 := Int.emod_lt_of_pos (((k : Int) + sh % n) * t) h
  omega
theorem exK_int {n sh t : Int} {k : Nat} (h : 0 < n) : ((exK n sh t k : Nat) : Int) = ((k : Int) + sh % n) * t % n := by
  unfold exK
  have h1 := Int.emod_nonneg (((k : Int) + sh % n) * t) (show n ≠ 0 by omega)
  omega
/-- The sum over the first k. -/
def rsK (l : List Int) (r n sh t : Int) : Nat → Int
  | 0 => 0
  | k + 1 => (rsK l r n sh t k + l.getD k 0 % 998244353 * pwP r (exK n sh t k)) % 998244353
theorem rsK_bd (l : List Int) (r n sh t : Int) : ∀ k, 0 ≤ rsK l r n sh t k ∧ rsK l r n sh t k < 998244353
  | 0 => by unfold rsK; omega
  | k + 1 => ⟨Int.emod_nonneg _ (by decide), Int.emod_lt_of_pos _ (by decide)⟩
/-- The sum over the first i shifts, at x. -/
def imK (m b ss : List Int) (r n x : Int) : Nat → Int
  | 0 => 0
  | i + 1 => (imK m b ss r n x i + rsK m r n (ss.getD i 0) x n.toNat * rsK b r n (ss.getD i 0) (-x) n.toNat) % 998244353
theorem imK_bd (m b ss : List Int) (r n x : Int) : ∀ i, 0 ≤ imK m b ss r n x i ∧ imK m b ss r n x i < 998244353
  | 0 => by unfold imK; omega
  | k + 1 => ⟨Int.emod_nonneg _ (by decide), Int.emod_lt_of_pos _ (by decide)⟩
def rtK (n : Nat) : Int := pwP 3 (998244352 / n)
/-- The image. -/
def miK (m b ss : List Int) : List Int := (List.range m.length).map fun (x : Nat) => imK m b ss (rtK m.length) m.length (x : Int) ss.length
theorem mul_bdP {a b : Int} (h1 : 0 ≤ a) (h2 : a < 998244353) (h3 : 0 ≤ b) (h4 : b < 998244353) : 0 ≤ a * b ∧ a * b ≤ 996491786299899904 := by
  have p := Int.mul_nonneg h1 h3
  have q := Int.mul_le_mul (show a ≤ 998244352 by omega) (show b ≤ 998244352 by omega) h3 (by omega)
  omega

end Go.Proofs.Ytgbbigokbbllgaa
