/- Proved here: bounds on products of numbers of at most 10 to the 9. -/
namespace Go.Proofs.Ytjacmneopijiaaa

theorem mul_bd {x y : Int} (h1 : -1000000000 ≤ x) (h2 : x ≤ 1000000000) (h3 : -1000000000 ≤ y) (h4 : y ≤ 1000000000) : -1000000000000000000 ≤ x * y ∧ x * y ≤ 1000000000000000000 := by
  have key : ∀ u v : Int, 0 ≤ u → u ≤ 1000000000 → 0 ≤ v → v ≤ 1000000000 → 0 ≤ u * v ∧ u * v ≤ 1000000000000000000 := fun u v a b c d => by
    have p := Int.mul_nonneg a c
    have q := Int.mul_le_mul b d c (by omega : (0:Int) ≤ 1000000000)
    omega
  rcases Int.le_total 0 x with hx | hx <;> rcases Int.le_total 0 y with hy | hy
  · have := key x y hx h2 hy h4; omega
  · have := key x (-y) hx h2 (by omega) (by omega); rw [Int.mul_neg] at this; omega
  · have := key (-x) y (by omega) (by omega) hy h4; rw [Int.neg_mul] at this; omega
  · have := key (-x) (-y) (by omega) (by omega) (by omega) (by omega); rw [Int.neg_mul_neg] at this; omega
theorem mul_pos {x y : Int} (h1 : 1 ≤ x) (h2 : 1 ≤ y) : 1 ≤ x * y := by
  have := Int.mul_le_mul h1 h2 (by omega) (by omega)
  omega

end Go.Proofs.Ytjacmneopijiaaa
