/- Proved here: what the laws' package's small functions on answers with a code and rows do. -/
import Derived.Test.YtkdpifplhhcpaaaGrL
import Derived.Test.YtkdpifplhhcpaaaGrQ
namespace Go.Proofs.Ytkdpifplhhcpaaa
open Go.RowKit
set_option linter.unusedVariables false
set_option linter.unusedSimpArgs false

set_option maxHeartbeats 1600000 in
theorem eqMapResult_to (C : Int) {ls : List (List Int)} {v1 v2 : Value} {w : World} (hn : SmR ls) (h1 : RdR w v1 ls) (h2 : RdR w v2 ls) :
    Calls Try.prog 36 #[.agg #[.int .i64 C, v1], .agg #[.int .i64 C, v2]] w fun e w' => e = .returned (.bool true) ∧ Below w.heap.size w w' := by
  obtain ⟨a1, c1, e1⟩ := h1.form
  obtain ⟨a2, c2, e2⟩ := h2.form
  obtain ⟨m, hm⟩ : ∃ m, m = ls.length := ⟨_, rfl⟩
  rw [← hm] at e1 e2
  subst e1 e2
  have H : Hid (RdR w (.slice a1 m c1) ls ∧ RdR w (.slice a2 m c2) ls ∧ SmR ls) := ⟨h1, h2, hn⟩
  clear h1 h2 hm hn
  go_enter Try.func36, Try.ntmps36
  go_wp2_with (fail)
  refine (eqInt64SS_same H.out.2.2 (H.out.1.below (by (repeat' (first | (with_reducible exact Below.refl _ _) | (with_reducible assumption) | (with_reducible refine Below.setCell ?_ ?_ _) | (with_reducible refine Below.alloc ?_ ?_ _) | (with_reducible refine below_drewN ?_ _) | (with_reducible refine Below.drew ?_) | (with_reducible exact Nat.le_refl _) | omega | (simp; done) | (simp; omega))))) (H.out.2.1.below (by (repeat' (first | (with_reducible exact Below.refl _ _) | (with_reducible assumption) | (with_reducible refine Below.setCell ?_ ?_ _) | (with_reducible refine Below.alloc ?_ ?_ _) | (with_reducible refine below_drewN ?_ _) | (with_reducible refine Below.drew ?_) | (with_reducible exact Nat.le_refl _) | omega | (simp; done) | (simp; omega)))))).mono ?_
  rintro e w' ⟨rfl, hb'⟩
  have HB : Hid (Below w.heap.size w w') := Below.trans (by (repeat' (first | (with_reducible exact Below.refl _ _) | (with_reducible assumption) | (with_reducible refine Below.setCell ?_ ?_ _) | (with_reducible refine Below.alloc ?_ ?_ _) | (with_reducible refine below_drewN ?_ _) | (with_reducible refine Below.drew ?_) | (with_reducible exact Nat.le_refl _) | omega | (simp; done) | (simp; omega)))) (hb'.mono (by simp; omega))
  clear hb'
  go_wp2
  go_returns
  exact ⟨rfl, HB.out⟩

set_option maxHeartbeats 1600000 in
theorem markMapResult_to (C : Int) {w : World} {B Z : Nat} {v : Value} {ls : List (List Int)} {vs : List Value} (z : Int) (hn : SmR ls) (hz0 : 0 ≤ z) (hz1 : z ≤ 1000000000) (h : RI w B v ls vs) (hZ : LtR v vs ls.length Z) :
    Calls Try.prog 39 #[.agg #[.int .i64 C, v], .int .i64 z] w fun e w' => e = .returned (.int .i64 (z + (totR ls ls.length : Int))) ∧ RI w' B v (mkG z ls ls.length) vs ∧ Chg B Z w w' := by
  obtain ⟨a, c, e1⟩ := h.form
  obtain ⟨m, hm⟩ : ∃ m, m = ls.length := ⟨_, rfl⟩
  rw [← hm] at e1
  subst e1
  have H : Hid (RI w B (.slice a m c) ls vs ∧ SmR ls ∧ LtR (.slice a m c) vs ls.length Z) := ⟨h, hn, hZ⟩
  clear h hm hn hZ
  go_enter Try.func39, Try.ntmps39
  go_wp2_with (fail)
  refine (markInt64SS_to z H.out.2.1 hz0 hz1 (H.out.1.below (by (repeat' (first | (with_reducible exact Below.refl _ _) | (with_reducible assumption) | (with_reducible refine Below.setCell ?_ ?_ _) | (with_reducible refine Below.alloc ?_ ?_ _) | (with_reducible refine below_drewN ?_ _) | (with_reducible refine Below.drew ?_) | (with_reducible exact Nat.le_refl _) | omega | (simp; done) | (simp; omega))))) H.out.2.2).mono ?_
  rintro e w1 ⟨rfl, hm1, hon⟩
  have HM : Hid (RI w1 B (.slice a m c) (mkG z ls ls.length) vs ∧ Chg B Z w w1) := ⟨hm1, Chg.trans (Chg.of_below (by (repeat' (first | (with_reducible exact Below.refl _ _) | (with_reducible assumption) | (with_reducible refine Below.setCell ?_ ?_ _) | (with_reducible refine Below.alloc ?_ ?_ _) | (with_reducible refine below_drewN ?_ _) | (with_reducible refine Below.drew ?_) | (with_reducible exact Nat.le_refl _) | omega | (simp; done) | (simp; omega))))) hon⟩
  clear hm1 hon
  go_wp2
  go_returns
  exact ⟨rfl, HM.out.1, HM.out.2⟩

set_option maxHeartbeats 1600000 in
theorem heldMapResult_to (C : Int) {w : World} {B : Nat} {v : Value} {ls : List (List Int)} {vs : List Value} (z : Int) (hn : SmR ls) (hz0 : 0 ≤ z) (hz1 : z ≤ 1000000000) (h : RI w B v (mkG z ls ls.length) vs) :
    Calls Try.prog 40 #[.agg #[.int .i64 C, v], .int .i64 z] w fun e w' => e = .returned (.int .i64 (z + (totR ls ls.length : Int))) ∧ Below w.heap.size w w' := by
  obtain ⟨a, c, e1⟩ := h.form
  rw [mkG_len] at e1
  obtain ⟨m, hm⟩ : ∃ m, m = ls.length := ⟨_, rfl⟩
  rw [← hm] at e1
  subst e1
  obtain ⟨T, hT⟩ : ∃ T : Int, T = z + (totR ls ls.length : Int) := ⟨_, rfl⟩
  have hneg : ¬ T < 0 := by omega
  have HC : Hid (∀ W : World, Below w.heap.size w W → Calls Try.prog 62 #[.slice a m c, .int .i64 z] W fun e w' => e = .returned (.int .i64 T) ∧ w' = W) := fun W hW => by rw [hT]; exact heldRows_is z hn hz0 hz1 (h.below hW)
  rw [← hT]
  clear h hm hn hT
  go_enter Try.func40, Try.ntmps40
  go_wp2_with (fail)
  refine (HC.out _ (by (repeat' (first | (with_reducible exact Below.refl _ _) | (with_reducible assumption) | (with_reducible refine Below.setCell ?_ ?_ _) | (with_reducible refine Below.alloc ?_ ?_ _) | (with_reducible refine below_drewN ?_ _) | (with_reducible refine Below.drew ?_) | (with_reducible exact Nat.le_refl _) | omega | (simp; done) | (simp; omega))))).mono ?_
  rintro e w1 ⟨rfl, rfl⟩
  go_wp2
  go_returns
  exact ⟨rfl, by (repeat' (first | (with_reducible exact Below.refl _ _) | (with_reducible assumption) | (with_reducible refine Below.setCell ?_ ?_ _) | (with_reducible refine Below.alloc ?_ ?_ _) | (with_reducible refine below_drewN ?_ _) | (with_reducible refine Below.drew ?_) | (with_reducible exact Nat.le_refl _) | omega | (simp; done) | (simp; omega)))⟩

end Go.Proofs.Ytkdpifplhhcpaaa
