/- Proved here: FloatsResult in the laws. -/
import Derived.Test.YtgjdcdhdfhkfcaaFlK
import Derived.Test.YtgjdcdhdfhkfcaaFlL
import Derived.Test.YtgjdcdhdfhkfcaaLwS
namespace Go.Proofs.Ytgjdcdhdfhkfcaa
open Go.RowKit
set_option linter.unusedVariables false
set_option linter.unusedSimpArgs false

set_option maxHeartbeats 1600000 in
theorem eqFloatsResult_to (C : Int) {w : World} {va vb : Value} {s : List Nat} (hn : s.length ≤ 1048576) (ha : RFl w va s) (hb : RFl w vb s) :
    Calls Try.prog 25 #[.agg #[.int .i64 C, va], .agg #[.int .i64 C, vb]] w fun e w' => e = .returned (.bool true) ∧ Below w.heap.size w w' := by
  obtain ⟨a1, c1', rfl⟩ := ha.form
  obtain ⟨a2, c2', rfl⟩ := hb.form
  obtain ⟨n, hnn⟩ : ∃ n, n = s.length := ⟨_, rfl⟩
  rw [← hnn] at ha hb ⊢
  have H : Hid (RFl w (.slice a1 n c1') s ∧ RFl w (.slice a2 n c2') s ∧ s.length ≤ 1099511627776) := ⟨ha, hb, by omega⟩
  clear ha hb hn hnn
  go_enter Try.func25, Try.ntmps25
  go_wp2_with (fail)
  refine (eqFloat64S_same H.out.2.2 (H.out.1.below (by (repeat' (first | (with_reducible exact Below.refl _ _) | (with_reducible assumption) | (with_reducible refine Below.setCell ?_ ?_ _) | (with_reducible refine Below.alloc ?_ ?_ _) | (with_reducible refine below_drewN ?_ _) | (with_reducible refine Below.drew ?_) | (with_reducible exact Nat.le_refl _) | omega | (simp; done) | (simp; omega))))) (H.out.2.1.below (by (repeat' (first | (with_reducible exact Below.refl _ _) | (with_reducible assumption) | (with_reducible refine Below.setCell ?_ ?_ _) | (with_reducible refine Below.alloc ?_ ?_ _) | (with_reducible refine below_drewN ?_ _) | (with_reducible refine Below.drew ?_) | (with_reducible exact Nat.le_refl _) | omega | (simp; done) | (simp; omega)))))).mono ?_
  rintro e w1 ⟨rfl, hb1⟩
  have HB1 : Hid (Below w.heap.size w w1) := (show Below w.heap.size w _ from by (repeat' (first | (with_reducible exact Below.refl _ _) | (with_reducible assumption) | (with_reducible refine Below.setCell ?_ ?_ _) | (with_reducible refine Below.alloc ?_ ?_ _) | (with_reducible refine below_drewN ?_ _) | (with_reducible refine Below.drew ?_) | (with_reducible exact Nat.le_refl _) | omega | (simp; done) | (simp; omega)))).trans (hb1.mono (by simp; omega))
  clear hb1
  go_wp2
  go_returns
  exact ⟨rfl, HB1.out⟩

set_option maxHeartbeats 1600000 in
theorem markFloatsResult_to (C : Int) {w : World} {B Z : Nat} {v : Value} {xs : List Nat} (z : Int) (hn : xs.length ≤ 1048576) (hz0 : 0 ≤ z) (hz1 : z ≤ 1000000000000) (h : OFl w B v xs) (hZ : ∀ g, v.ownBlock = some g → g < Z) :
    Calls Try.prog 28 #[.agg #[.int .i64 C, v], .int .i64 z] w fun e w' => e = .returned (.int .i64 (z + (xs.length : Int))) ∧ OFl w' B v (marksL z xs.length) ∧ Chg B Z w w' := by
  obtain ⟨a, c, e0⟩ := h.rg.form
  obtain ⟨n, hnn⟩ : ∃ n, n = xs.length := ⟨_, rfl⟩
  rw [← hnn] at e0 ⊢
  subst e0
  have H : Hid (OFl w B (.slice a n c) xs ∧ (∀ g, (Value.slice a n c).ownBlock = some g → g < Z) ∧ n = xs.length ∧ xs.length ≤ 1048576) := ⟨h, hZ, hnn, hn⟩
  clear h hZ hn hnn
  obtain ⟨T, hT⟩ : ∃ T, T = z + (n : Int) := ⟨_, rfl⟩
  rw [← hT]
  have HT : Hid (T = z + (n : Int)) := hT
  clear hT
  go_enter Try.func28, Try.ntmps28
  go_wp2_with (fail)
  refine (markFloat64S_to z H.out.2.2.2 hz0 hz1 (ownsRow_keep H.out.1 fun g hg => Below.heap_alloc _ _ _ (OG.lt H.out.1 g hg).2) H.out.2.1).mono ?_
  rintro e w1 ⟨rfl, hi, hc⟩
  have HC : Hid (OFl w1 B (.slice a n c) (marksL z n) ∧ Chg B Z w w1) :=
    ⟨by rw [H.out.2.2.1]; rw [H.out.2.2.1] at hi; exact hi, (Chg.of_below (show Below w.heap.size w (w.alloc (.cells #[.int .i64 C, .slice a n c] 45)) from by (repeat' (first | (with_reducible exact Below.refl _ _) | (with_reducible assumption) | (with_reducible refine Below.setCell ?_ ?_ _) | (with_reducible refine Below.alloc ?_ ?_ _) | (with_reducible refine below_drewN ?_ _) | (with_reducible refine Below.drew ?_) | (with_reducible exact Nat.le_refl _) | omega | (simp; done) | (simp; omega))))).trans hc⟩
  clear hi hc
  rw [← H.out.2.2.1, ← HT.out]
  go_wp2
  go_returns
  exact ⟨rfl, HC.out.1, HC.out.2⟩

set_option maxHeartbeats 1600000 in
theorem heldFloatsResult_to (C : Int) {w : World} {B n : Nat} {v : Value} (z : Int) (hn : n ≤ 1048576) (hz0 : 0 ≤ z) (hz1 : z ≤ 1000000000000) (h : OFl w B v (marksL z n)) :
    Calls Try.prog 29 #[.agg #[.int .i64 C, v], .int .i64 z] w fun e w' => e = .returned (.int .i64 (z + (n : Int))) ∧ Below w.heap.size w w' := by
  obtain ⟨a, c, e0⟩ := h.rg.form
  rw [marksL_length] at e0
  subst e0
  have H : Hid (OFl w B (.slice a n c) (marksL z n)) := h
  clear h
  obtain ⟨T, hT⟩ : ∃ T, T = z + (n : Int) := ⟨_, rfl⟩
  have hT0 : ¬ T < 0 := by omega
  have HT : Hid (T = z + (n : Int)) := hT
  rw [← hT]
  clear hT
  go_enter Try.func29, Try.ntmps29
  go_wp2_with (fail)
  refine (held1L z hn hz0 hz1 (ownsRow_keep H.out fun g hg => Below.heap_alloc _ _ _ (OG.lt H.out g hg).2)).mono ?_
  rintro e w1 ⟨rfl, rfl⟩
  rw [← HT.out]
  go_wp2
  go_returns
  exact ⟨rfl, by (repeat' (first | (with_reducible exact Below.refl _ _) | (with_reducible assumption) | (with_reducible refine Below.setCell ?_ ?_ _) | (with_reducible refine Below.alloc ?_ ?_ _) | (with_reducible refine below_drewN ?_ _) | (with_reducible refine Below.drew ?_) | (with_reducible exact Nat.le_refl _) | omega | (simp; done) | (simp; omega)))⟩

end Go.Proofs.Ytgjdcdhdfhkfcaa
