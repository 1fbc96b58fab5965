/- Proved here: quotients rounded down, by those towards 0. -/
import Derived.Test.YtcdpaokmjoklcaaChM
namespace Go.Proofs.Ytcdpaokmjoklcaa
open Go.RowKit
set_option linter.unusedVariables false
set_option linter.unusedSimpArgs false

theorem down_ed {n d : Int} (hd : 1 ≤ d) : (if n.tmod d < 0 then n.tdiv d - 1 else n.tdiv d) = n / d := by
  rcases Int.le_total 0 n with hn | hn
  · have h1 := Int.tmod_nonneg d hn
    rw [if_neg (by omega), Int.tdiv_eq_ediv_of_nonneg hn]
  · obtain ⟨m, hm⟩ : ∃ m, m = -n := ⟨_, rfl⟩
    have hn' : n = -m := by omega
    have hm0 : 0 ≤ m := by omega
    rw [hn', Int.neg_tmod, Int.neg_tdiv, Int.tdiv_eq_ediv_of_nonneg hm0, Int.tmod_eq_emod_of_nonneg hm0]
    have h1 := Int.mul_ediv_add_emod m d
    have h2 := Int.emod_nonneg m (show d ≠ 0 by omega)
    have h3 := Int.emod_lt_of_pos m (show (0 : Int) < d by omega)
    obtain ⟨q, hq⟩ : ∃ q, q = m / d := ⟨_, rfl⟩
    obtain ⟨r, hr⟩ : ∃ r, r = m % d := ⟨_, rfl⟩
    rw [← hq, ← hr] at h1
    rw [← hr] at h2 h3
    rw [← hq, ← hr]
    by_cases h0 : r = 0
    · rw [if_neg (by omega)]
      have : -m = 0 + d * (-q) := by subst h0; grind
      rw [this, Int.add_mul_ediv_left _ _ (by omega)]
      simp
    · rw [if_pos (by omega)]
      have : -m = (d - r) + d * (-q - 1) := by grind
      rw [this, Int.add_mul_ediv_left _ _ (by omega), Int.ediv_eq_zero_of_lt (by omega) (by omega)]
      omega
theorem down_bd {n d B : Int} (hd : 1 ≤ d) (h : -B ≤ n ∧ n ≤ B) : -B ≤ n.tdiv d ∧ n.tdiv d ≤ B := by
  rcases Int.le_total 0 n with hn | hn
  · have a1 := Int.tdiv_nonneg hn (show 0 ≤ d by omega)
    have a2 := Int.tdiv_le_self d hn
    omega
  · have e : n.tdiv d = - ((-n).tdiv d) := by rw [Int.neg_tdiv]; omega
    have a1 := Int.tdiv_nonneg (show 0 ≤ -n by omega) (show 0 ≤ d by omega)
    have a2 := Int.tdiv_le_self d (show 0 ≤ -n by omega)
    omega

end Go.Proofs.Ytcdpaokmjoklcaa
