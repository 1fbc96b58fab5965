/- Proved here: how the laws' package compares and marks tools and answers that hold one. -/
import Derived.Test.YtkacfjbhkgdpdaaMkAp
import Derived.Test.YtkacfjbhkgdpdaaTlB
namespace Go.Proofs.Ytkacfjbhkgdpdaa
open Go.RowKit
set_option linter.unusedVariables false
set_option linter.unusedSimpArgs false

set_option maxHeartbeats 1600000 in
theorem markTool_to (A : Int) (R : ByteArray) (S U L : Int) (Q : Bool) {w : World} {B Z n : Nat} {v : Value} {ys : List Value} (z : Int) (hn : n ≤ 1048576) (hz0 : 0 ≤ z) (hz1 : z ≤ 1000000000000) (h : w.ownsRow B 72 2 v n ys) (hZ : ∀ g, v.ownBlock = some g → g < Z) :
    Calls Try.prog 13 #[.agg #[.int .i64 A, .string R, .int .i64 S, .int .i64 U, .int .i64 L, .bool Q, v], .int .i64 z] w fun e w' => e = .returned (.int .i64 (z + 2 * (n : Int))) ∧ w'.ownsRow B 72 2 v n (mkP stApproval 2 z (n * 2)) ∧ Chg B Z w w' := by
  obtain ⟨a, c, rfl⟩ : ∃ a c, v = .slice a n c := by
    rcases h.2 with ⟨rfl, rfl⟩ | ⟨g, cap, cur, rfl, _⟩
    · exact ⟨_, _, rfl⟩
    · exact ⟨_, _, rfl⟩
  have H : Hid (w.ownsRow B 72 2 (.slice a n c) n ys ∧ (∀ g, (Value.slice a n c).ownBlock = some g → g < Z)) := ⟨h, hZ⟩
  clear h hZ
  obtain ⟨T, hT⟩ : ∃ T, T = z + 2 * (n : Int) := ⟨_, rfl⟩
  rw [← hT]
  have HT : Hid (T = z + 2 * (n : Int)) := hT
  clear hT
  go_enter Try.func13, Try.ntmps13
  go_wp2_with (fail)
  refine (markApprovalS_to z hn hz0 hz1 (ownsRow_keep H.out.1 fun g hg => Below.heap_alloc _ _ _ (World.ownsRow.lt H.out.1 g hg).2) H.out.2).mono ?_
  rintro e w1 ⟨rfl, hi, hc⟩
  have HC : Hid (w1.ownsRow B 72 2 (.slice a n c) n (mkP stApproval 2 z (n * 2)) ∧ Chg B Z w w1) :=
    ⟨hi, (Chg.of_below (show Below w.heap.size w (w.alloc (.cells #[.int .i64 A, .string R, .int .i64 S, .int .i64 U, .int .i64 L, .bool Q, .slice a n c] 31)) from by (repeat' (first | (with_reducible exact Below.refl _ _) | (with_reducible assumption) | (with_reducible refine Below.setCell ?_ ?_ _) | (with_reducible refine Below.alloc ?_ ?_ _) | (with_reducible refine below_drewN ?_ _) | (with_reducible refine Below.drew ?_) | (with_reducible exact Nat.le_refl _) | omega | (simp; done) | (simp; omega))))).trans hc⟩
  clear hi hc
  rw [← HT.out]
  go_wp2
  go_returns
  exact ⟨rfl, HC.out.1, HC.out.2⟩

set_option maxHeartbeats 1600000 in
theorem heldTool_to (A : Int) (R : ByteArray) (S U L : Int) (Q : Bool) {w : World} {B n : Nat} {v : Value} (z : Int) (hn : n ≤ 1048576) (hz0 : 0 ≤ z) (hz1 : z ≤ 1000000000000) (h : w.ownsRow B 72 2 v n (mkP stApproval 2 z (n * 2))) :
    Calls Try.prog 39 #[.agg #[.int .i64 A, .string R, .int .i64 S, .int .i64 U, .int .i64 L, .bool Q, v], .int .i64 z] w fun e w' => e = .returned (.int .i64 (z + 2 * (n : Int))) ∧ Below w.heap.size w w' := by
  obtain ⟨a, c, rfl⟩ : ∃ a c, v = .slice a n c := by
    rcases h.2 with ⟨rfl, rfl⟩ | ⟨g, cap, cur, rfl, _⟩
    · exact ⟨_, _, rfl⟩
    · exact ⟨_, _, rfl⟩
  have H : Hid (w.ownsRow B 72 2 (.slice a n c) n (mkP stApproval 2 z (n * 2))) := h
  clear h
  obtain ⟨T, hT⟩ : ∃ T, T = z + 2 * (n : Int) := ⟨_, rfl⟩
  rw [← hT]
  have HT : Hid (T = z + 2 * (n : Int)) := hT
  have hT0 : ¬ T < 0 := by omega
  clear hT
  go_enter Try.func39, Try.ntmps39
  go_wp2_with (fail)
  refine (heldApprovalS_to z hn hz0 hz1 (ownsRow_keep H.out fun g hg => Below.heap_alloc _ _ _ (World.ownsRow.lt H.out g hg).2)).mono ?_
  rintro e w1 ⟨rfl, hb⟩
  have HB : Hid (Below w.heap.size w w1) := (show Below w.heap.size w (w.alloc (.cells #[.int .i64 A, .string R, .int .i64 S, .int .i64 U, .int .i64 L, .bool Q, .slice a n c] 31)) from by (repeat' (first | (with_reducible exact Below.refl _ _) | (with_reducible assumption) | (with_reducible refine Below.setCell ?_ ?_ _) | (with_reducible refine Below.alloc ?_ ?_ _) | (with_reducible refine below_drewN ?_ _) | (with_reducible refine Below.drew ?_) | (with_reducible exact Nat.le_refl _) | omega | (simp; done) | (simp; omega)))).trans (hb.mono (by simp))
  clear hb
  rw [← HT.out]
  go_wp2
  go_returns
  exact ⟨rfl, HB.out⟩

set_option maxHeartbeats 1600000 in
theorem eqToolResult_to (C : Int) (A : Int) (R : ByteArray) (S U L : Int) (Q : Bool) {w : World} {va vb : Value} {s : List Ap} (hn : s.length ≤ 1048576) (ha : RG 2 apC w va s) (hb : RG 2 apC w vb s) :
    Calls Try.prog 11 #[.agg #[.int .i64 C, .int .i64 A, .string R, .int .i64 S, .int .i64 U, .int .i64 L, .bool Q, va], .agg #[.int .i64 C, .int .i64 A, .string R, .int .i64 S, .int .i64 U, .int .i64 L, .bool Q, vb]] w fun e w' => e = .returned (.bool true) ∧ Below w.heap.size w w' := by
  obtain ⟨a1, c1', rfl⟩ := ha.form
  obtain ⟨a2, c2', rfl⟩ := hb.form
  obtain ⟨n, hnn⟩ : ∃ n, n = s.length := ⟨_, rfl⟩
  rw [← hnn] at ha hb ⊢
  have H : Hid (RG 2 apC w (.slice a1 n c1') s ∧ RG 2 apC w (.slice a2 n c2') s ∧ s.length ≤ 1099511627776) := ⟨ha, hb, by omega⟩
  clear ha hb hn hnn
  go_enter Try.func11, Try.ntmps11
  go_wp2_with (fail)
  refine (eqTool_same A R S U L Q H.out.2.2 (H.out.1.below (by (repeat' (first | (with_reducible exact Below.refl _ _) | (with_reducible assumption) | (with_reducible refine Below.setCell ?_ ?_ _) | (with_reducible refine Below.alloc ?_ ?_ _) | (with_reducible refine below_drewN ?_ _) | (with_reducible refine Below.drew ?_) | (with_reducible exact Nat.le_refl _) | omega | (simp; done) | (simp; omega))))) (H.out.2.1.below (by (repeat' (first | (with_reducible exact Below.refl _ _) | (with_reducible assumption) | (with_reducible refine Below.setCell ?_ ?_ _) | (with_reducible refine Below.alloc ?_ ?_ _) | (with_reducible refine below_drewN ?_ _) | (with_reducible refine Below.drew ?_) | (with_reducible exact Nat.le_refl _) | omega | (simp; done) | (simp; omega)))))).mono ?_
  rintro e w1 ⟨rfl, hb1⟩
  have HB1 : Hid (Below w.heap.size w w1) := (show Below w.heap.size w _ from by (repeat' (first | (with_reducible exact Below.refl _ _) | (with_reducible assumption) | (with_reducible refine Below.setCell ?_ ?_ _) | (with_reducible refine Below.alloc ?_ ?_ _) | (with_reducible refine below_drewN ?_ _) | (with_reducible refine Below.drew ?_) | (with_reducible exact Nat.le_refl _) | omega | (simp; done) | (simp; omega)))).trans (hb1.mono (by simp; omega))
  clear hb1
  go_wp2
  go_returns
  exact ⟨rfl, HB1.out⟩

set_option maxHeartbeats 1600000 in
theorem markToolResult_to (C : Int) (A : Int) (R : ByteArray) (S U L : Int) (Q : Bool) {w : World} {B Z n : Nat} {v : Value} {ys : List Value} (hn : n ≤ 1048576) (h : w.ownsRow B 72 2 v n ys) (hZ : ∀ g, v.ownBlock = some g → g < Z) :
    Calls Try.prog 14 #[.agg #[.int .i64 C, .int .i64 A, .string R, .int .i64 S, .int .i64 U, .int .i64 L, .bool Q, v], .int .i64 1] w fun e w' => e = .returned (.int .i64 (1 + 2 * (n : Int))) ∧ w'.ownsRow B 72 2 v n (mkP stApproval 2 1 (n * 2)) ∧ Chg B Z w w' := by
  obtain ⟨a, c, rfl⟩ : ∃ a c, v = .slice a n c := by
    rcases h.2 with ⟨rfl, rfl⟩ | ⟨g, cap, cur, rfl, _⟩
    · exact ⟨_, _, rfl⟩
    · exact ⟨_, _, rfl⟩
  have H : Hid (w.ownsRow B 72 2 (.slice a n c) n ys ∧ (∀ g, (Value.slice a n c).ownBlock = some g → g < Z)) := ⟨h, hZ⟩
  clear h hZ
  obtain ⟨T, hT⟩ : ∃ T, T = 1 + 2 * (n : Int) := ⟨_, rfl⟩
  rw [← hT]
  have HT : Hid (T = 1 + 2 * (n : Int)) := hT
  clear hT
  go_enter Try.func14, Try.ntmps14
  go_wp2_with (fail)
  refine (markTool_to A R S U L Q 1 hn (by omega) (by omega) (ownsRow_keep H.out.1 fun g hg => Below.heap_alloc _ _ _ (World.ownsRow.lt H.out.1 g hg).2) H.out.2).mono ?_
  rintro e w1 ⟨rfl, hi, hc⟩
  have HC : Hid (w1.ownsRow B 72 2 (.slice a n c) n (mkP stApproval 2 1 (n * 2)) ∧ Chg B Z w w1) :=
    ⟨hi, (Chg.of_below (show Below w.heap.size w (w.alloc (.cells #[.int .i64 C, .int .i64 A, .string R, .int .i64 S, .int .i64 U, .int .i64 L, .bool Q, .slice a n c] 33)) from by (repeat' (first | (with_reducible exact Below.refl _ _) | (with_reducible assumption) | (with_reducible refine Below.setCell ?_ ?_ _) | (with_reducible refine Below.alloc ?_ ?_ _) | (with_reducible refine below_drewN ?_ _) | (with_reducible refine Below.drew ?_) | (with_reducible exact Nat.le_refl _) | omega | (simp; done) | (simp; omega))))).trans hc⟩
  clear hi hc
  rw [← HT.out]
  go_wp2
  go_returns
  exact ⟨rfl, HC.out.1, HC.out.2⟩

set_option maxHeartbeats 1600000 in
theorem heldToolResult_to (C : Int) (A : Int) (R : ByteArray) (S U L : Int) (Q : Bool) {w : World} {B n : Nat} {v : Value} (hn : n ≤ 1048576) (h : w.ownsRow B 72 2 v n (mkP stApproval 2 1 (n * 2))) :
    Calls Try.prog 15 #[.agg #[.int .i64 C, .int .i64 A, .string R, .int .i64 S, .int .i64 U, .int .i64 L, .bool Q, v], .int .i64 1] w fun e w' => e = .returned (.int .i64 (1 + 2 * (n : Int))) ∧ Below w.heap.size w w' := by
  obtain ⟨a, c, rfl⟩ : ∃ a c, v = .slice a n c := by
    rcases h.2 with ⟨rfl, rfl⟩ | ⟨g, cap, cur, rfl, _⟩
    · exact ⟨_, _, rfl⟩
    · exact ⟨_, _, rfl⟩
  have H : Hid (w.ownsRow B 72 2 (.slice a n c) n (mkP stApproval 2 1 (n * 2))) := h
  clear h
  obtain ⟨T, hT⟩ : ∃ T, T = 1 + 2 * (n : Int) := ⟨_, rfl⟩
  rw [← hT]
  have HT : Hid (T = 1 + 2 * (n : Int)) := hT
  have hT0 : ¬ T < 0 := by omega
  clear hT
  go_enter Try.func15, Try.ntmps15
  go_wp2_with (fail)
  refine (heldTool_to A R S U L Q 1 hn (by omega) (by omega) (ownsRow_keep H.out fun g hg => Below.heap_alloc _ _ _ (World.ownsRow.lt H.out g hg).2)).mono ?_
  rintro e w1 ⟨rfl, hb⟩
  have HB : Hid (Below w.heap.size w w1) := (show Below w.heap.size w (w.alloc (.cells #[.int .i64 C, .int .i64 A, .string R, .int .i64 S, .int .i64 U, .int .i64 L, .bool Q, .slice a n c] 33)) from by (repeat' (first | (with_reducible exact Below.refl _ _) | (with_reducible assumption) | (with_reducible refine Below.setCell ?_ ?_ _) | (with_reducible refine Below.alloc ?_ ?_ _) | (with_reducible refine below_drewN ?_ _) | (with_reducible refine Below.drew ?_) | (with_reducible exact Nat.le_refl _) | omega | (simp; done) | (simp; omega)))).trans (hb.mono (by simp))
  clear hb
  rw [← HT.out]
  go_wp2
  go_returns
  exact ⟨rfl, HB.out⟩

end Go.Proofs.Ytkacfjbhkgdpdaa
