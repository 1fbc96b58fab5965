/- Proved here: how the laws' package compares and marks an answer with a code, a talk and a list of numbers. -/
import Derived.Test.YtejpjbihdclngaaTkO
import Derived.Test.YtejpjbihdclngaaMkI
import Derived.Test.YtejpjbihdclngaaNlQ
import Derived.Test.YtejpjbihdclngaaTrunM
import Derived.Deep.Cut
namespace Go.Proofs.Ytejpjbihdclngaa
open Go.RowKit
set_option linter.unusedVariables false
set_option linter.unusedSimpArgs false

set_option maxHeartbeats 1600000 in
theorem eqTalkRun_to (C P T Q : Int) {w : World} {va vb : Value} {s : List Int} (hn : s.length ≤ 1048576) (ha : RdI w va s) (hb : RdI w vb s) :
    Calls Try.prog 38 #[.agg #[.int .i64 C, .int .i64 P, .int .i64 T, .int .i64 Q, va], .agg #[.int .i64 C, .int .i64 P, .int .i64 T, .int .i64 Q, vb]] w fun e w' => e = .returned (.bool true) ∧ Below w.heap.size w w' := by
  obtain ⟨a1, c1', rfl⟩ := ha.form
  obtain ⟨a2, c2', rfl⟩ := hb.form
  obtain ⟨n, hnn⟩ : ∃ n, n = s.length := ⟨_, rfl⟩
  rw [← hnn] at ha hb ⊢
  have H : Hid (RdI w (.slice a1 n c1') s ∧ RdI w (.slice a2 n c2') s ∧ s.length ≤ 1099511627776) := ⟨ha, hb, by omega⟩
  clear ha hb hn hnn
  obtain ⟨W0, hW0⟩ : ∃ W, W = (w.alloc (.cells #[.int .i64 C, .int .i64 P, .int .i64 T, .int .i64 Q, .slice a1 n c1'] 29)).alloc (.cells #[.int .i64 C, .int .i64 P, .int .i64 T, .int .i64 Q, .slice a2 n c2'] 29) := ⟨_, rfl⟩
  have HW0 : Hid (Below w.heap.size w W0 ∧ W0.heap[w.heap.size]? = some (.cells #[.int .i64 C, .int .i64 P, .int .i64 T, .int .i64 Q, .slice a1 n c1'] 29) ∧ W0.heap[w.heap.size + 1]? = some (.cells #[.int .i64 C, .int .i64 P, .int .i64 T, .int .i64 Q, .slice a2 n c2'] 29)) := by
    rw [hW0]
    refine ⟨by (repeat' (first | (with_reducible exact Below.refl _ _) | (with_reducible assumption) | (with_reducible refine Below.setCell ?_ ?_ _) | (with_reducible refine Below.alloc ?_ ?_ _) | (with_reducible refine below_drewN ?_ _) | (with_reducible refine Below.drew ?_) | (with_reducible exact Nat.le_refl _) | omega | (simp; done) | (simp; omega))), (Below.heap_alloc _ _ _ (by simp)).trans (heap_alloc_new _ _), ?_⟩
    have := heap_alloc_new (w.alloc (.cells #[.int .i64 C, .int .i64 P, .int .i64 T, .int .i64 Q, .slice a1 n c1'] 29)) (.cells #[.int .i64 C, .int .i64 P, .int .i64 T, .int .i64 Q, .slice a2 n c2'] 29); simpa using this
  go_enter Try.func38, Try.ntmps38
  go_upto_region 1 with fail
  rw [← hW0]
  clear hW0
  obtain ⟨r0, r1, r2, r3, r4, rf0, rf1, rf2, rf3, rf4, rl⟩ := five_R (HW0.out.2.1)
  obtain ⟨q0, q1, q2, q3, q4, qf0, qf1, qf2, qf3, qf4, ql⟩ := five_R (HW0.out.2.2)
  go_wp2_with (fail)
  refine (eqTalk_to P T Q W0).mono ?_
  rintro e w1 ⟨rfl, hb⟩
  have HW1 : Hid (Below w.heap.size w w1 ∧ w1.heap[w.heap.size]? = some (.cells #[.int .i64 C, .int .i64 P, .int .i64 T, .int .i64 Q, .slice a1 n c1'] 29) ∧ w1.heap[w.heap.size + 1]? = some (.cells #[.int .i64 C, .int .i64 P, .int .i64 T, .int .i64 Q, .slice a2 n c2'] 29)) := ⟨HW0.out.1.trans (hb.mono HW0.out.1.size), (hb.block _ (ltOf HW0.out.2.1)).trans HW0.out.2.1, (hb.block _ (ltOf HW0.out.2.2)).trans HW0.out.2.2⟩
  clear hb HW0 r0 r1 r2 r3 r4 rf0 rf1 rf2 rf3 rf4 rl q0 q1 q2 q3 q4 qf0 qf1 qf2 qf3 qf4 ql
  obtain ⟨r0, r1, r2, r3, r4, rf0, rf1, rf2, rf3, rf4, rl⟩ := five_R (HW1.out.2.1)
  obtain ⟨q0, q1, q2, q3, q4, qf0, qf1, qf2, qf3, qf4, ql⟩ := five_R (HW1.out.2.2)
  go_wp2_with (fail)
  refine (eqInt64S_same H.out.2.2 (H.out.1.below HW1.out.1) (H.out.2.1.below HW1.out.1)).mono ?_
  rintro e w2 ⟨rfl, hb⟩
  have HB1 : Hid (Below w.heap.size w w2) := HW1.out.1.trans (hb.mono HW1.out.1.size)
  clear hb HW1 r0 r1 r2 r3 r4 rf0 rf1 rf2 rf3 rf4 rl q0 q1 q2 q3 q4 qf0 qf1 qf2 qf3 qf4 ql
  go_wp2
  go_returns
  exact ⟨rfl, HB1.out⟩
set_option maxHeartbeats 1600000 in
theorem markTalkRun_to (C P T Q : Int) {w : World} {B Z n : Nat} {v : Value} {ys : List Value} (z : Int) (hn : n ≤ 1048576) (hz0 : 0 ≤ z) (hz1 : z ≤ 1000000000000) (h : w.ownsRow B 2 1 v n ys) (hZ : ∀ g, v.ownBlock = some g → g < Z) :
    Calls Try.prog 41 #[.agg #[.int .i64 C, .int .i64 P, .int .i64 T, .int .i64 Q, v], .int .i64 z] w fun e w' => e = .returned (.int .i64 (z + (n : Int))) ∧ w'.ownsRow B 2 1 v n (mkV z (n)) ∧ Chg B Z w w' := by
  obtain ⟨a, c, rfl⟩ : ∃ a c, v = .slice a n c := by
    rcases h.2 with ⟨rfl, rfl⟩ | ⟨g, cap, cur, rfl, _⟩
    · exact ⟨_, _, rfl⟩
    · exact ⟨_, _, rfl⟩
  have H : Hid (w.ownsRow B 2 1 (.slice a n c) n ys ∧ (∀ g, (Value.slice a n c).ownBlock = some g → g < Z)) := ⟨h, hZ⟩
  clear h hZ
  obtain ⟨TT, hT⟩ : ∃ T, T = z + (n : Int) := ⟨_, rfl⟩
  rw [← hT]
  have HT : Hid (TT = z + (n : Int)) := hT
  clear hT
  go_enter Try.func41, Try.ntmps41
  go_wp2_with (fail)
  refine (markInt64S_to z hn hz0 hz1 (ownsRow_keep H.out.1 fun g hg => Below.heap_alloc _ _ _ (World.ownsRow.lt H.out.1 g hg).2) H.out.2).mono ?_
  rintro e w1 ⟨rfl, hi, hc⟩
  have HC : Hid (w1.ownsRow B 2 1 (.slice a n c) n (mkV z (n)) ∧ Chg B Z w w1) :=
    ⟨hi, (Chg.of_below (show Below w.heap.size w (w.alloc (.cells #[.int .i64 C, .int .i64 P, .int .i64 T, .int .i64 Q, .slice a n c] 29)) from by (repeat' (first | (with_reducible exact Below.refl _ _) | (with_reducible assumption) | (with_reducible refine Below.setCell ?_ ?_ _) | (with_reducible refine Below.alloc ?_ ?_ _) | (with_reducible refine below_drewN ?_ _) | (with_reducible refine Below.drew ?_) | (with_reducible exact Nat.le_refl _) | omega | (simp; done) | (simp; omega))))).trans hc⟩
  clear hi hc
  rw [← HT.out]
  go_wp2
  go_returns
  exact ⟨rfl, HC.out.1, HC.out.2⟩

set_option maxHeartbeats 1600000 in
theorem heldTalkRun_to (C P T Q : Int) {w : World} {B n : Nat} {v : Value} (z : Int) (hn : n ≤ 1048576) (hz0 : 0 ≤ z) (hz1 : z ≤ 1000000000000) (h : w.ownsRow B 2 1 v n (mkV z (n))) :
    Calls Try.prog 42 #[.agg #[.int .i64 C, .int .i64 P, .int .i64 T, .int .i64 Q, v], .int .i64 z] w fun e w' => e = .returned (.int .i64 (z + (n : Int))) ∧ Below w.heap.size w w' := by
  obtain ⟨a, c, rfl⟩ : ∃ a c, v = .slice a n c := by
    rcases h.2 with ⟨rfl, rfl⟩ | ⟨g, cap, cur, rfl, _⟩
    · exact ⟨_, _, rfl⟩
    · exact ⟨_, _, rfl⟩
  have H : Hid (w.ownsRow B 2 1 (.slice a n c) n (mkV z (n))) := h
  clear h
  obtain ⟨TT, hT⟩ : ∃ T, T = z + (n : Int) := ⟨_, rfl⟩
  have hT0 : ¬ TT < 0 := by omega
  have HT : Hid (TT = z + (n : Int)) := hT
  rw [← hT]
  clear hT
  go_enter Try.func42, Try.ntmps42
  go_wp2_with (fail)
  refine (heldInt64S_to z hn hz0 hz1 (ownsRow_keep H.out fun g hg => Below.heap_alloc _ _ _ (World.ownsRow.lt H.out g hg).2)).mono ?_
  rintro e w1 ⟨rfl, rfl⟩
  rw [← HT.out]
  go_wp2
  go_returns
  exact ⟨rfl, by (repeat' (first | (with_reducible exact Below.refl _ _) | (with_reducible assumption) | (with_reducible refine Below.setCell ?_ ?_ _) | (with_reducible refine Below.alloc ?_ ?_ _) | (with_reducible refine below_drewN ?_ _) | (with_reducible refine Below.drew ?_) | (with_reducible exact Nat.le_refl _) | omega | (simp; done) | (simp; omega)))⟩

end Go.Proofs.Ytejpjbihdclngaa
