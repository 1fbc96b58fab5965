/- Proved here: what the laws' package's small functions on answers with a code and frames do. -/
import Derived.Test.YtgjdcdhdfhkfcaaFwH
import Derived.Test.YtgjdcdhdfhkfcaaFwE
namespace Go.Proofs.Ytgjdcdhdfhkfcaa
open Go.ChangeShapes Go.WideShapes Go.ChangeAt Go.RowKit Go.Joins Go.Deep
set_option linter.unusedVariables false
set_option linter.unusedSimpArgs false


set_option maxHeartbeats 1600000 in
theorem eqFramesResult_v (C : Int) {ls ks : List (List Nat)} {v1 v2 : Value} {w : World} (hn : SmL ls) (hv : ls.map (List.map fv) = ks.map (List.map fv)) (h1 : RsL w v1 ls) (h2 : RsL w v2 ks) :
    Calls Try.prog 16 #[.agg #[.int .i64 C, v1], .agg #[.int .i64 C, v2]] w fun e w' => e = .returned (.bool true) ∧ Below w.heap.size w w' := by
  obtain ⟨a1, c1, e1⟩ := h1.form
  obtain ⟨a2, c2, e2⟩ := h2.form
  have hlk : ls.length = ks.length := by have := congrArg List.length hv; simpa using this
  obtain ⟨m, hm⟩ : ∃ m, m = ls.length := ⟨_, rfl⟩
  rw [← hlk, ← hm] at e2
  rw [← hm] at e1
  subst e1 e2
  have H : Hid (RsL w (.slice a1 m c1) ls ∧ RsL w (.slice a2 m c2) ks ∧ SmL ls ∧ ls.map (List.map fv) = ks.map (List.map fv)) := ⟨h1, h2, hn, hv⟩
  clear h1 h2 hm hn hv hlk
  go_enter Try.func16, Try.ntmps16
  go_wp2_with (fail)
  refine (eqFloat64SS_v H.out.2.2.1 H.out.2.2.2 (H.out.1.below (by (repeat' (first | (with_reducible exact Below.refl _ _) | (with_reducible assumption) | (with_reducible refine Below.setCell ?_ ?_ _) | (with_reducible refine Below.alloc ?_ ?_ _) | (with_reducible refine below_drewN ?_ _) | (with_reducible refine Below.drew ?_) | (with_reducible exact Nat.le_refl _) | omega | (simp; done) | (simp; omega))))) (H.out.2.1.below (by (repeat' (first | (with_reducible exact Below.refl _ _) | (with_reducible assumption) | (with_reducible refine Below.setCell ?_ ?_ _) | (with_reducible refine Below.alloc ?_ ?_ _) | (with_reducible refine below_drewN ?_ _) | (with_reducible refine Below.drew ?_) | (with_reducible exact Nat.le_refl _) | omega | (simp; done) | (simp; omega)))))).mono ?_
  rintro e w' ⟨rfl, hb'⟩
  have HB : Hid (Below w.heap.size w w') := Below.trans (by (repeat' (first | (with_reducible exact Below.refl _ _) | (with_reducible assumption) | (with_reducible refine Below.setCell ?_ ?_ _) | (with_reducible refine Below.alloc ?_ ?_ _) | (with_reducible refine below_drewN ?_ _) | (with_reducible refine Below.drew ?_) | (with_reducible exact Nat.le_refl _) | omega | (simp; done) | (simp; omega)))) (hb'.mono (by simp; omega))
  clear hb'
  go_wp2
  go_returns
  exact ⟨rfl, HB.out⟩

set_option maxHeartbeats 1600000 in
theorem markFramesResult_to (C : Int) {w : World} {B Z : Nat} {v : Value} {ls : List (List Nat)} {vs : List Value} (z : Int) (hn : SmL ls) (hz0 : 0 ≤ z) (hz1 : z ≤ 1000000000) (h : RoL w B v ls vs) (hZ : LtL v vs ls.length Z) :
    Calls Try.prog 19 #[.agg #[.int .i64 C, v], .int .i64 z] w fun e w' => e = .returned (.int .i64 (z + (totL ls ls.length : Int))) ∧ RoL w' B v (mkGL z ls ls.length) vs ∧ Chg B Z w w' := by
  obtain ⟨a, c, e1⟩ := h.form
  obtain ⟨m, hm⟩ : ∃ m, m = ls.length := ⟨_, rfl⟩
  rw [← hm] at e1
  subst e1
  have H : Hid (RoL w B (.slice a m c) ls vs ∧ SmL ls ∧ LtL (.slice a m c) vs ls.length Z) := ⟨h, hn, hZ⟩
  clear h hm hn hZ
  go_enter Try.func19, Try.ntmps19
  go_wp2_with (fail)
  refine (markFloat64SS_to z H.out.2.1 hz0 hz1 (H.out.1.below (by (repeat' (first | (with_reducible exact Below.refl _ _) | (with_reducible assumption) | (with_reducible refine Below.setCell ?_ ?_ _) | (with_reducible refine Below.alloc ?_ ?_ _) | (with_reducible refine below_drewN ?_ _) | (with_reducible refine Below.drew ?_) | (with_reducible exact Nat.le_refl _) | omega | (simp; done) | (simp; omega))))) H.out.2.2).mono ?_
  rintro e w1 ⟨rfl, hm1, hon⟩
  have HM : Hid (RoL w1 B (.slice a m c) (mkGL z ls ls.length) vs ∧ Chg B Z w w1) := ⟨hm1, Chg.trans (Chg.of_below (by (repeat' (first | (with_reducible exact Below.refl _ _) | (with_reducible assumption) | (with_reducible refine Below.setCell ?_ ?_ _) | (with_reducible refine Below.alloc ?_ ?_ _) | (with_reducible refine below_drewN ?_ _) | (with_reducible refine Below.drew ?_) | (with_reducible exact Nat.le_refl _) | omega | (simp; done) | (simp; omega))))) hon⟩
  clear hm1 hon
  go_wp2
  go_returns
  exact ⟨rfl, HM.out.1, HM.out.2⟩

set_option maxHeartbeats 1600000 in
theorem heldFramesResult_to (C : Int) {w : World} {B : Nat} {v : Value} {ls : List (List Nat)} {vs : List Value} (z : Int) (hn : SmL ls) (hz0 : 0 ≤ z) (hz1 : z ≤ 1000000000) (h : RoL w B v (mkGL z ls ls.length) vs) :
    Calls Try.prog 20 #[.agg #[.int .i64 C, v], .int .i64 z] w fun e w' => e = .returned (.int .i64 (z + (totL ls ls.length : Int))) ∧ Below w.heap.size w w' := by
  obtain ⟨a, c, e1⟩ := h.form
  rw [mkGL_len] at e1
  obtain ⟨m, hm⟩ : ∃ m, m = ls.length := ⟨_, rfl⟩
  rw [← hm] at e1
  subst e1
  obtain ⟨T, hT⟩ : ∃ T : Int, T = z + (totL ls ls.length : Int) := ⟨_, rfl⟩
  have hneg : ¬ T < 0 := by omega
  have HC : Hid (∀ W : World, Below w.heap.size w W → Calls Try.prog 48 #[.slice a m c, .int .i64 z] W fun e w' => e = .returned (.int .i64 T) ∧ w' = W) := fun W hW => by rw [hT]; exact heldRows_isL z hn hz0 hz1 (h.below hW)
  rw [← hT]
  clear h hm hn hT
  go_enter Try.func20, Try.ntmps20
  go_wp2_with (fail)
  refine (HC.out _ (by (repeat' (first | (with_reducible exact Below.refl _ _) | (with_reducible assumption) | (with_reducible refine Below.setCell ?_ ?_ _) | (with_reducible refine Below.alloc ?_ ?_ _) | (with_reducible refine below_drewN ?_ _) | (with_reducible refine Below.drew ?_) | (with_reducible exact Nat.le_refl _) | omega | (simp; done) | (simp; omega))))).mono ?_
  rintro e w1 ⟨rfl, rfl⟩
  go_wp2
  go_returns
  exact ⟨rfl, by (repeat' (first | (with_reducible exact Below.refl _ _) | (with_reducible assumption) | (with_reducible refine Below.setCell ?_ ?_ _) | (with_reducible refine Below.alloc ?_ ?_ _) | (with_reducible refine below_drewN ?_ _) | (with_reducible refine Below.drew ?_) | (with_reducible exact Nat.le_refl _) | omega | (simp; done) | (simp; omega)))⟩


end Go.Proofs.Ytgjdcdhdfhkfcaa
