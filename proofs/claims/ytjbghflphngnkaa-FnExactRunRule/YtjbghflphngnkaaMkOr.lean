/- Proved here: how the laws' package compares and marks an answer with a code, a list of numbers and a number. -/
import Derived.Test.YtjbghflphngnkaaMkI
import Derived.Test.YtjbghflphngnkaaSoF
namespace Go.Proofs.Ytjbghflphngnkaa
open Go.RowKit
set_option linter.unusedVariables false
set_option linter.unusedSimpArgs false

set_option maxHeartbeats 1600000 in
theorem eqOrderResult_to (C Q : Int) {w : World} {va vb : Value} {s : List Int} (hn : s.length ≤ 1048576) (ha : RdI w va s) (hb : RdI w vb s) :
    Calls Try.prog 12 #[.agg #[.int .i64 C, va, .int .i64 Q], .agg #[.int .i64 C, vb, .int .i64 Q]] w fun e w' => e = .returned (.bool true) ∧ Below w.heap.size w w' := by
  obtain ⟨a1, c1', rfl⟩ := ha.form
  obtain ⟨a2, c2', rfl⟩ := hb.form
  obtain ⟨n, hnn⟩ : ∃ n, n = s.length := ⟨_, rfl⟩
  rw [← hnn] at ha hb ⊢
  have H : Hid (RdI w (.slice a1 n c1') s ∧ RdI w (.slice a2 n c2') s ∧ s.length ≤ 1099511627776) := ⟨ha, hb, by omega⟩
  have hQ : (Q != Q) = false := by simp
  clear ha hb hn hnn
  go_enter Try.func12, Try.ntmps12
  go_wp2_with (fail)
  obtain ⟨Z, hZ⟩ : ∃ Z, Z = (w.alloc (.cells #[.int .i64 C, .slice a1 n c1', .int .i64 Q] 26)).alloc (.cells #[.int .i64 C, .slice a2 n c2', .int .i64 Q] 26) := ⟨_, rfl⟩
  have HZ : Hid (Below w.heap.size w Z ∧ Z.heap[w.heap.size]? = some (.cells #[.int .i64 C, .slice a1 n c1', .int .i64 Q] 26) ∧ Z.heap[w.heap.size + 1]? = some (.cells #[.int .i64 C, .slice a2 n c2', .int .i64 Q] 26)) := by
    rw [hZ]
    refine ⟨by (repeat' (first | (with_reducible exact Below.refl _ _) | (with_reducible assumption) | (with_reducible refine Below.setCell ?_ ?_ _) | (with_reducible refine Below.alloc ?_ ?_ _) | (with_reducible refine below_drewN ?_ _) | (with_reducible refine Below.drew ?_) | (with_reducible exact Nat.le_refl _) | omega | (simp; done) | (simp; omega))), (heap_alloc_old _ _ (by simp)).trans (heap_alloc_new _ _), ?_⟩
    have := heap_alloc_new (w.alloc (.cells #[.int .i64 C, .slice a1 n c1', .int .i64 Q] 26)) (.cells #[.int .i64 C, .slice a2 n c2', .int .i64 Q] 26); simpa using this
  rw [← hZ]
  clear hZ
  refine (eqInt64S_same H.out.2.2 (H.out.1.below HZ.out.1) (H.out.2.1.below HZ.out.1)).mono ?_
  rintro e w1 ⟨rfl, hb1⟩
  have k1 := (hb1.block _ (ltOfQ HZ.out.2.1)).trans HZ.out.2.1
  have k2 := (hb1.block _ (ltOfQ HZ.out.2.2)).trans HZ.out.2.2
  have HB1 : Hid (Below w.heap.size w w1) := HZ.out.1.trans (hb1.mono HZ.out.1.size)
  have p2 : w1.cell? ⟨w.heap.size, 2, none⟩ = some (.int .i64 Q) := cellOfQ k1 2 rfl
  have q2 : w1.cell? ⟨w.heap.size + 1, 2, none⟩ = some (.int .i64 Q) := cellOfQ k2 2 rfl
  have pl := ltOfQ k1
  have ql := ltOfQ k2
  clear hb1 k1 k2 HZ
  go_wp2
  go_returns
  exact ⟨rfl, HB1.out⟩

set_option maxHeartbeats 1600000 in
theorem markOrderResult_to (C Q : Int) {w : World} {B Z n : Nat} {v : Value} {ys : List Value} (z : Int) (hn : n ≤ 1048576) (hz0 : 0 ≤ z) (hz1 : z ≤ 1000000000000) (h : w.ownsRow B 2 1 v n ys) (hZ : ∀ g, v.ownBlock = some g → g < Z) :
    Calls Try.prog 15 #[.agg #[.int .i64 C, v, .int .i64 Q], .int .i64 z] w fun e w' => e = .returned (.int .i64 (z + (n : Int))) ∧ w'.ownsRow B 2 1 v n (mkV z (n)) ∧ Chg B Z w w' := by
  obtain ⟨a, c, rfl⟩ : ∃ a c, v = .slice a n c := by
    rcases h.2 with ⟨rfl, rfl⟩ | ⟨g, cap, cur, rfl, _⟩
    · exact ⟨_, _, rfl⟩
    · exact ⟨_, _, rfl⟩
  have H : Hid (w.ownsRow B 2 1 (.slice a n c) n ys ∧ (∀ g, (Value.slice a n c).ownBlock = some g → g < Z)) := ⟨h, hZ⟩
  clear h hZ
  obtain ⟨T, hT⟩ : ∃ T, T = z + (n : Int) := ⟨_, rfl⟩
  rw [← hT]
  have HT : Hid (T = z + (n : Int)) := hT
  clear hT
  go_enter Try.func15, Try.ntmps15
  go_wp2_with (fail)
  refine (markInt64S_to z hn hz0 hz1 (ownsRow_keep H.out.1 fun g hg => Below.heap_alloc _ _ _ (World.ownsRow.lt H.out.1 g hg).2) H.out.2).mono ?_
  rintro e w1 ⟨rfl, hi, hc⟩
  have HC : Hid (w1.ownsRow B 2 1 (.slice a n c) n (mkV z (n)) ∧ Chg B Z w w1) :=
    ⟨hi, (Chg.of_below (show Below w.heap.size w (w.alloc (.cells #[.int .i64 C, .slice a n c, .int .i64 Q] 26)) from by (repeat' (first | (with_reducible exact Below.refl _ _) | (with_reducible assumption) | (with_reducible refine Below.setCell ?_ ?_ _) | (with_reducible refine Below.alloc ?_ ?_ _) | (with_reducible refine below_drewN ?_ _) | (with_reducible refine Below.drew ?_) | (with_reducible exact Nat.le_refl _) | omega | (simp; done) | (simp; omega))))).trans hc⟩
  clear hi hc
  rw [← HT.out]
  go_wp2
  go_returns
  exact ⟨rfl, HC.out.1, HC.out.2⟩

set_option maxHeartbeats 1600000 in
theorem heldOrderResult_to (C Q : Int) {w : World} {B n : Nat} {v : Value} (z : Int) (hn : n ≤ 1048576) (hz0 : 0 ≤ z) (hz1 : z ≤ 1000000000000) (h : w.ownsRow B 2 1 v n (mkV z (n))) :
    Calls Try.prog 16 #[.agg #[.int .i64 C, v, .int .i64 Q], .int .i64 z] w fun e w' => e = .returned (.int .i64 (z + (n : Int))) ∧ Below w.heap.size w w' := by
  obtain ⟨a, c, rfl⟩ : ∃ a c, v = .slice a n c := by
    rcases h.2 with ⟨rfl, rfl⟩ | ⟨g, cap, cur, rfl, _⟩
    · exact ⟨_, _, rfl⟩
    · exact ⟨_, _, rfl⟩
  have H : Hid (w.ownsRow B 2 1 (.slice a n c) n (mkV z (n))) := h
  clear h
  obtain ⟨T, hT⟩ : ∃ T, T = z + (n : Int) := ⟨_, rfl⟩
  have hT0 : ¬ T < 0 := by omega
  have HT : Hid (T = z + (n : Int)) := hT
  rw [← hT]
  clear hT
  go_enter Try.func16, Try.ntmps16
  go_wp2_with (fail)
  refine (heldInt64S_to z hn hz0 hz1 (ownsRow_keep H.out fun g hg => Below.heap_alloc _ _ _ (World.ownsRow.lt H.out g hg).2)).mono ?_
  rintro e w1 ⟨rfl, hb1⟩
  have HB1 : Hid (Below w.heap.size w w1) := by rw [hb1]; unfold Hid; (repeat' (first | (with_reducible exact Below.refl _ _) | (with_reducible assumption) | (with_reducible refine Below.setCell ?_ ?_ _) | (with_reducible refine Below.alloc ?_ ?_ _) | (with_reducible refine below_drewN ?_ _) | (with_reducible refine Below.drew ?_) | (with_reducible exact Nat.le_refl _) | omega | (simp; done) | (simp; omega)))
  clear hb1
  rw [← HT.out]
  go_wp2
  go_returns
  exact ⟨rfl, HB1.out⟩

end Go.Proofs.Ytjbghflphngnkaa
