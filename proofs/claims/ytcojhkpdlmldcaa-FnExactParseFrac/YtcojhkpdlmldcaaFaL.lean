/- Proved here: lowest terms and bounds of fractions, of the program. -/
import Derived.Test.YtcojhkpdlmldcaaFrac
namespace Go.Proofs.Ytcojhkpdlmldcaa
open Go.ChangeShapes Go.WideShapes Go.ChangeAt Go.RowKit
set_option linter.unusedVariables false

theorem bcell {W w1 : World} (hb : Below W.heap.size W w1) : (∀ b o, b < W.heap.size → w1.cell? ⟨b, o, none⟩ = W.cell? ⟨b, o, none⟩) ∧ (∀ b o, b < W.heap.size → w1.frozen? ⟨b, o, none⟩ = W.frozen? ⟨b, o, none⟩) :=
  ⟨fun b o h => hb.cell (p := ⟨b, o, none⟩) h, fun b o h => hb.frozen (p := ⟨b, o, none⟩) h⟩

theorem tdiv_bd (n g : Int) (hg : 1 ≤ g) (h1 : -4000000000000000000 ≤ n) (h2 : n ≤ 4000000000000000000) : -4000000000000000000 ≤ n.tdiv g ∧ n.tdiv g ≤ 4000000000000000000 := by
  rcases Int.le_total 0 n with hn | hn
  · have a1 := Int.tdiv_nonneg hn (show 0 ≤ g by omega)
    have a2 := Int.tdiv_le_self g hn
    omega
  · have e : n.tdiv g = - ((-n).tdiv g) := by rw [Int.neg_tdiv]; omega
    have a1 := Int.tdiv_nonneg (show 0 ≤ -n by omega) (show 0 ≤ g by omega)
    have a2 := Int.tdiv_le_self g (show 0 ≤ -n by omega)
    omega
theorem wrap_neg_tdiv (n g : Int) (hg : 1 ≤ g) (h1 : -4000000000000000000 ≤ n) (h2 : n ≤ 4000000000000000000) : wrap64 (-n.tdiv g) = (-n).tdiv g := by
  have := tdiv_bd n g hg h1 h2
  rw [Int.neg_tdiv]; unfold wrap64; omega
theorem lowN_neg (n d : Int) (hg : 1 ≤ gz (-n) (-d)) (h1 : -4000000000000000000 ≤ n) (h2 : n ≤ 4000000000000000000) : wrap64 (-n.tdiv (gz (-n) (-d))) = lowN (-n) (-d) :=
  wrap_neg_tdiv _ _ hg h1 h2
theorem lowD_neg (n d : Int) (hd : d ≤ -1) (hg : 1 ≤ gz (-n) (-d)) (h1 : -4000000000000000000 ≤ d) : wrap64 (-d.tdiv (gz (-n) (-d))) = lowD (-n) (-d) := by
  rw [wrap_neg_tdiv _ _ hg h1 (by omega)]
  exact Int.tdiv_eq_ediv_of_nonneg (by omega)
theorem ret_agg2 {a b c d : Int} (h : a = c) (k : b = d) : Ending.returned (.agg #[.int .i64 a, .int .i64 b]) = .returned (.agg #[.int .i64 c, .int .i64 d]) := by rw [h, k]

set_option maxHeartbeats 400000 in
theorem impl_low_neg (n d : Int) (w : World) (hd : d ≤ -1) (hd' : -4000000000000000000 ≤ d) (h1 : -4000000000000000000 ≤ n) (h2 : n ≤ 4000000000000000000) :
    Calls Try.prog 20 #[.int .i64 n, .int .i64 d] w fun e w' => e = .returned (.agg #[.int .i64 (lowN (-n) (-d)), .int .i64 (lowD (-n) (-d))]) ∧ Below w.heap.size w w' := by
  have hp := gz_pos (-n) (-d) (by omega)
  have hl := gz_le (-n) (-d) (by omega)
  have ha := absz_bd (-n)
  go_enter Try.func20, Try.ntmps20
  go_wp2_with (first | (go_at_call 27; refine (impl_abs _ _ ?_ ?_).mono ?_; omega; omega; rintro e w' ⟨rfl, rfl⟩) | (go_at_call 26; refine (impl_gcd _ _ _ ?_ ?_ ?_ ?_).mono ?_; omega; omega; omega; omega; rintro e w' ⟨rfl, k, rfl⟩; rw [gz_abs]))
  have hq : (gz (-n) (-d) == 0) = false := by simp; omega
  go_region
  all_goals go_wp2
  all_goals go_returns
  all_goals exact ⟨ret_agg2 (lowN_neg n d hp h1 h2) (lowD_neg n d hd hp hd'), by (repeat' (first | (with_reducible exact Below.refl _ _) | (with_reducible assumption) | (with_reducible refine Below.setCell ?_ ?_ _) | (with_reducible refine Below.alloc ?_ ?_ _) | (with_reducible refine below_drewN ?_ _) | (with_reducible refine Below.drew ?_) | (with_reducible exact Nat.le_refl _) | omega | (simp; done) | (simp; omega)))⟩

theorem impl_inB_f (n d : Int) (w : World) (h : inB n d = false) :
    Calls Try.prog 21 #[.agg #[.int .i64 n, .int .i64 d]] w fun e w' => e = .returned (.bool false) ∧ Below w.heap.size w w' := by
  have := impl_inB n d w; rw [h] at this; exact this
theorem impl_inB_t (n d : Int) (w : World) (h : inB n d = true) :
    Calls Try.prog 21 #[.agg #[.int .i64 n, .int .i64 d]] w fun e w' => e = .returned (.bool true) ∧ Below w.heap.size w w' := by
  have := impl_inB n d w; rw [h] at this; exact this
/-- The code of a fraction. -/
def codeF (n d : Int) : Int := if okF n d then 0 else 1

end Go.Proofs.Ytcojhkpdlmldcaa
