/- Proved here: how the laws' package compares and marks an answer with a code and rows of bytes. -/
import Derived.Test.YtejpjbihdclngaaYwH
import Derived.Test.YtejpjbihdclngaaYwQ
namespace Go.Proofs.Ytejpjbihdclngaa
open Go.ChangeShapes Go.WideShapes Go.ChangeAt Go.RowKit Go.Joins Go.Deep
set_option linter.unusedVariables false
set_option linter.unusedSimpArgs false

set_option maxHeartbeats 1600000 in
theorem eqBlocksResult_to (C : Int) {ls : List (List UInt8)} {v1 v2 : Value} {w : World} (hn : SmY ls) (h1 : RsY w v1 ls) (h2 : RsY w v2 ls) :
    Calls Try.prog 21 #[.agg #[.int .i64 C, v1], .agg #[.int .i64 C, v2]] w fun e w' => e = .returned (.bool true) ∧ Below w.heap.size w w' := by
  obtain ⟨a1, c1, rfl⟩ := h1.form
  obtain ⟨a2, c2, rfl⟩ := h2.form
  obtain ⟨m, hm⟩ : ∃ m, m = ls.length := ⟨_, rfl⟩
  rw [← hm] at h1 h2 ⊢
  have H : Hid (RsY w (.slice a1 m c1) ls ∧ RsY w (.slice a2 m c2) ls ∧ SmY ls) := ⟨h1, h2, hn⟩
  clear h1 h2 hm hn
  go_enter Try.func21, Try.ntmps21
  go_wp2_with (fail)
  refine (eqByteSS_same H.out.2.2 (H.out.1.below (by (repeat' (first | (with_reducible exact Below.refl _ _) | (with_reducible assumption) | (with_reducible refine Below.setCell ?_ ?_ _) | (with_reducible refine Below.alloc ?_ ?_ _) | (with_reducible refine below_drewN ?_ _) | (with_reducible refine Below.drew ?_) | (with_reducible exact Nat.le_refl _) | omega | (simp; done) | (simp; omega))))) (H.out.2.1.below (by (repeat' (first | (with_reducible exact Below.refl _ _) | (with_reducible assumption) | (with_reducible refine Below.setCell ?_ ?_ _) | (with_reducible refine Below.alloc ?_ ?_ _) | (with_reducible refine below_drewN ?_ _) | (with_reducible refine Below.drew ?_) | (with_reducible exact Nat.le_refl _) | omega | (simp; done) | (simp; omega)))))).mono ?_
  rintro e w1 ⟨rfl, hb1⟩
  have HB1 : Hid (Below w.heap.size w w1) := (show Below w.heap.size w _ from by (repeat' (first | (with_reducible exact Below.refl _ _) | (with_reducible assumption) | (with_reducible refine Below.setCell ?_ ?_ _) | (with_reducible refine Below.alloc ?_ ?_ _) | (with_reducible refine below_drewN ?_ _) | (with_reducible refine Below.drew ?_) | (with_reducible exact Nat.le_refl _) | omega | (simp; done) | (simp; omega)))).trans (hb1.mono (by simp; omega))
  clear hb1
  go_wp2
  go_returns
  exact ⟨rfl, HB1.out⟩

set_option maxHeartbeats 1600000 in
theorem markBlocksResult_to (C : Int) {w : World} {B Z : Nat} {v : Value} {ls : List (List UInt8)} {vs : List Value} (z : Int) (hn : SmY ls) (hz0 : 0 ≤ z) (hz1 : z ≤ 1000000000) (h : RoY w B v ls vs) (hZ : LtY v vs ls.length Z) :
    Calls Try.prog 23 #[.agg #[.int .i64 C, v], .int .i64 z] w fun e w' => e = .returned (.int .i64 (z + (totY ls ls.length : Int))) ∧ RoY w' B v (mkGY z ls ls.length) vs ∧ Chg B Z w w' := by
  obtain ⟨a, c, e1⟩ := h.form
  obtain ⟨m, hm⟩ : ∃ m, m = ls.length := ⟨_, rfl⟩
  rw [← hm] at e1
  subst e1
  have H : Hid (RoY w B (.slice a m c) ls vs ∧ SmY ls ∧ LtY (.slice a m c) vs ls.length Z) := ⟨h, hn, hZ⟩
  clear h hm hn hZ
  go_enter Try.func23, Try.ntmps23
  go_wp2_with (fail)
  refine (markByteSS_to z H.out.2.1 hz0 hz1 (H.out.1.below (by (repeat' (first | (with_reducible exact Below.refl _ _) | (with_reducible assumption) | (with_reducible refine Below.setCell ?_ ?_ _) | (with_reducible refine Below.alloc ?_ ?_ _) | (with_reducible refine below_drewN ?_ _) | (with_reducible refine Below.drew ?_) | (with_reducible exact Nat.le_refl _) | omega | (simp; done) | (simp; omega))))) H.out.2.2).mono ?_
  rintro e w1 ⟨rfl, hm1, hon⟩
  have HM : Hid (RoY w1 B (.slice a m c) (mkGY z ls ls.length) vs ∧ Chg B Z w w1) := ⟨hm1, Chg.trans (Chg.of_below (by (repeat' (first | (with_reducible exact Below.refl _ _) | (with_reducible assumption) | (with_reducible refine Below.setCell ?_ ?_ _) | (with_reducible refine Below.alloc ?_ ?_ _) | (with_reducible refine below_drewN ?_ _) | (with_reducible refine Below.drew ?_) | (with_reducible exact Nat.le_refl _) | omega | (simp; done) | (simp; omega))))) hon⟩
  clear hm1 hon
  go_wp2
  go_returns
  exact ⟨rfl, HM.out.1, HM.out.2⟩

set_option maxHeartbeats 1600000 in
theorem heldBlocksResult_to (C : Int) {w : World} {B : Nat} {v : Value} {ls : List (List UInt8)} {vs : List Value} (z : Int) (hn : SmY ls) (hz0 : 0 ≤ z) (hz1 : z ≤ 1000000000) (h : RoY w B v (mkGY z ls ls.length) vs) :
    Calls Try.prog 24 #[.agg #[.int .i64 C, v], .int .i64 z] w fun e w' => e = .returned (.int .i64 (z + (totY ls ls.length : Int))) ∧ Below w.heap.size w w' := by
  obtain ⟨a, c, e1⟩ := h.form
  rw [mkGY_len] at e1
  obtain ⟨m, hm⟩ : ∃ m, m = ls.length := ⟨_, rfl⟩
  rw [← hm] at e1
  subst e1
  obtain ⟨T, hT⟩ : ∃ T : Int, T = z + (totY ls ls.length : Int) := ⟨_, rfl⟩
  have hneg : ¬ T < 0 := by omega
  have HC : Hid (∀ W : World, Below w.heap.size w W → Calls Try.prog 54 #[.slice a m c, .int .i64 z] W fun e w' => e = .returned (.int .i64 T) ∧ w' = W) := fun W hW => by rw [hT]; exact heldRows_isY z hn hz0 hz1 (h.below hW)
  rw [← hT]
  clear h hm hn hT
  go_enter Try.func24, Try.ntmps24
  go_wp2_with (fail)
  refine (HC.out _ (by (repeat' (first | (with_reducible exact Below.refl _ _) | (with_reducible assumption) | (with_reducible refine Below.setCell ?_ ?_ _) | (with_reducible refine Below.alloc ?_ ?_ _) | (with_reducible refine below_drewN ?_ _) | (with_reducible refine Below.drew ?_) | (with_reducible exact Nat.le_refl _) | omega | (simp; done) | (simp; omega))))).mono ?_
  rintro e w1 ⟨rfl, rfl⟩
  go_wp2
  go_returns
  exact ⟨rfl, by (repeat' (first | (with_reducible exact Below.refl _ _) | (with_reducible assumption) | (with_reducible refine Below.setCell ?_ ?_ _) | (with_reducible refine Below.alloc ?_ ?_ _) | (with_reducible refine below_drewN ?_ _) | (with_reducible refine Below.drew ?_) | (with_reducible exact Nat.le_refl _) | omega | (simp; done) | (simp; omega)))⟩


end Go.Proofs.Ytejpjbihdclngaa
