/- Proved here: how the laws' package marks sections. -/
import Derived.Test.YtceljakmjddgbaaFiL
namespace Go.Proofs.Ytceljakmjddgbaa
open Go.ChangeShapes Go.WideShapes Go.ChangeAt Go.RowKit Go.Joins Go.Deep
set_option linter.unusedVariables false
set_option linter.unusedSimpArgs false

set_option maxHeartbeats 1600000 in
theorem markSection_to {w : World} {B Z : Nat} {v : Value} {ls : List (List Flm)} {vs : List Value} (z : Int) (hn : SmF ls) (hz0 : 0 ≤ z) (hz1 : z ≤ 1000000000) (h : RoF w B v ls vs) (hZ : LtF v vs ls.length Z) :
    Calls Try.prog 33 #[.agg #[v], .int .i64 z] w fun e w' => e = .returned (.int .i64 (z + 2 * (totF ls ls.length : Int))) ∧ RoF w' B v (mkGF z ls ls.length) vs ∧ Chg B Z w w' := by
  obtain ⟨a, c, e1⟩ := h.form
  obtain ⟨m, hm⟩ : ∃ m, m = ls.length := ⟨_, rfl⟩
  rw [← hm] at e1
  subst e1
  have H : Hid (RoF w B (.slice a m c) ls vs ∧ SmF ls ∧ LtF (.slice a m c) vs ls.length Z) := ⟨h, hn, hZ⟩
  clear h hm hn hZ
  go_enter Try.func33, Try.ntmps33
  go_wp2_with (fail)
  refine (markFilmSS_to z H.out.2.1 hz0 hz1 (H.out.1.below (by (repeat' (first | (with_reducible exact Below.refl _ _) | (with_reducible assumption) | (with_reducible refine Below.setCell ?_ ?_ _) | (with_reducible refine Below.alloc ?_ ?_ _) | (with_reducible refine below_drewN ?_ _) | (with_reducible refine Below.drew ?_) | (with_reducible exact Nat.le_refl _) | omega | (simp; done) | (simp; omega))))) H.out.2.2).mono ?_
  rintro e w1 ⟨rfl, hm1, hon⟩
  have HM : Hid (RoF w1 B (.slice a m c) (mkGF z ls ls.length) vs ∧ Chg B Z w w1) := ⟨hm1, Chg.trans (Chg.of_below (by (repeat' (first | (with_reducible exact Below.refl _ _) | (with_reducible assumption) | (with_reducible refine Below.setCell ?_ ?_ _) | (with_reducible refine Below.alloc ?_ ?_ _) | (with_reducible refine below_drewN ?_ _) | (with_reducible refine Below.drew ?_) | (with_reducible exact Nat.le_refl _) | omega | (simp; done) | (simp; omega))))) hon⟩
  clear hm1 hon
  go_wp2
  go_returns
  exact ⟨rfl, HM.out.1, HM.out.2⟩

end Go.Proofs.Ytceljakmjddgbaa
