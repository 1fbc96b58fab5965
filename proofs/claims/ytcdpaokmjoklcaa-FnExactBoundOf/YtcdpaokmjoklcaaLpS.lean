/- Proved here: the fault of a loop, of the model: loF. -/
import Derived.Test.YtcdpaokmjoklcaaChM
import Derived.Test.YtcdpaokmjoklcaaInS
import Derived.Test.YtcdpaokmjoklcaaChO
import Derived.Test.YtcdpaokmjoklcaaLwS
import Derived.Deep.DeepCutAuto
namespace Go.Proofs.Ytcdpaokmjoklcaa
open Go.RowKit
set_option linter.unusedVariables false
set_option linter.unusedSimpArgs false

set_option maxRecDepth 10000 in
set_option maxHeartbeats 3200000 in
theorem spec_lo (T N D S : Int) (w : World) :
    Calls Try.prog 14 #[.agg #[.int .i64 T, .int .i64 N, .int .i64 D, .int .i64 S]] w fun e w' => e = .returned (.int .i64 (loF T N D S)) ∧ Below w.heap.size w w' := by
  obtain ⟨qd, hqd⟩ : ∃ q, q = decide (1 ≤ D ∧ D ≤ 1000) := ⟨_, rfl⟩
  obtain ⟨qn, hqn⟩ : ∃ q, q = decide (1 ≤ N ∧ N ≤ D) := ⟨_, rfl⟩
  obtain ⟨qt, hqt⟩ : ∃ q, q = decide (-1000000 ≤ T ∧ T ≤ 1000000) := ⟨_, rfl⟩
  obtain ⟨qs, hqs⟩ : ∃ q, q = decide (-1000000 ≤ S ∧ S ≤ 1000000) := ⟨_, rfl⟩
  obtain ⟨C, hC⟩ : ∃ C, C = loF T N D S := ⟨_, rfl⟩
  rw [← hC]
  have HC : Hid (C = if qd && qn then (if qt && qs then 0 else 3) else 1) := by
    unfold Hid; rw [hC, loF, hqd, hqn, hqt, hqs]; simp only [Bool.and_eq_true, decide_eq_true_eq]
  have H1 : Hid (∀ W, Calls Try.prog 15 #[.int .i64 D, .int .i64 1, .int .i64 1000] W fun e w' => e = .returned (.bool qd) ∧ w' = W) := fun W => by rw [hqd]; exact spec_in10 D 1 1000 W
  have H2 : Hid (∀ W, Calls Try.prog 15 #[.int .i64 N, .int .i64 1, .int .i64 D] W fun e w' => e = .returned (.bool qn) ∧ w' = W) := fun W => by rw [hqn]; exact spec_in10 N 1 D W
  have H3 : Hid (∀ W, Calls Try.prog 21 #[.int .i64 T] W fun e w' => e = .returned (.bool (!qt)) ∧ w' = W) := spec_out T qt hqt
  have H4 : Hid (∀ W, Calls Try.prog 21 #[.int .i64 S] W fun e w' => e = .returned (.bool (!qs)) ∧ w' = W) := spec_out S qs hqs
  clear hqd hqn hqt hqs hC
  obtain ⟨V, hV⟩ : ∃ V, V = w.alloc (.cells #[.int .i64 T, .int .i64 N, .int .i64 D, .int .i64 S] 27) := ⟨_, rfl⟩
  have k0 : V.heap[w.heap.size]? = some (.cells #[.int .i64 T, .int .i64 N, .int .i64 D, .int .i64 S] 27) := by rw [hV]; exact heap_alloc_new w _
  have HB : Hid (Below w.heap.size w V) := by rw [hV]; unfold Hid; (repeat' (first | (with_reducible exact Below.refl _ _) | (with_reducible assumption) | (with_reducible refine Below.setCell ?_ ?_ _) | (with_reducible refine Below.alloc ?_ ?_ _) | (with_reducible refine below_drewN ?_ _) | (with_reducible refine Below.drew ?_) | (with_reducible exact Nat.le_refl _) | omega | (simp; done) | (simp; omega)))
  have p0 := cellOf k0 0 rfl
  have p1 := cellOf k0 1 rfl
  have p2 := cellOf k0 2 rfl
  have p3 := cellOf k0 3 rfl
  have pl := ltOf k0
  clear k0
  go_enter Try.func14, Try.ntmps14
  go_upto_region 1 with fail
  rw [← hV]
  clear hV
  go_wp2_with (fail)
  refine (H1.out _).mono ?_
  rintro e w1 ⟨rfl, hw⟩
  subst w1
  cases qd
  · have HE : Hid (C = 1) := by unfold Hid; rw [HC.out]; first | rfl | simp
    clear HC
    go_wp2
    go_returns
    exact ⟨by rw [HE.out]; rfl, HB.out⟩
  go_wp2_with (fail)
  refine (H2.out _).mono ?_
  rintro e w1 ⟨rfl, hw⟩
  subst w1
  cases qn
  · have HE : Hid (C = 1) := by unfold Hid; rw [HC.out]; first | rfl | simp
    clear HC
    go_wp2
    go_returns
    exact ⟨by rw [HE.out]; rfl, HB.out⟩
  go_wp2_with (fail)
  refine (H3.out _).mono ?_
  rintro e w1 ⟨rfl, hw⟩
  subst w1
  cases qt
  · have HE : Hid (C = 3) := by unfold Hid; rw [HC.out]; first | rfl | simp
    clear HC
    go_wp2
    go_returns
    exact ⟨by rw [HE.out]; rfl, HB.out⟩
  go_wp2_with (fail)
  refine (H4.out _).mono ?_
  rintro e w1 ⟨rfl, hw⟩
  subst w1
  cases qs
  · have HE : Hid (C = 3) := by unfold Hid; rw [HC.out]; first | rfl | simp
    clear HC
    go_wp2
    go_returns
    exact ⟨by rw [HE.out]; rfl, HB.out⟩
  have HE : Hid (C = 0) := by unfold Hid; rw [HC.out]; first | rfl | simp
  clear HC
  go_wp2
  go_returns
  exact ⟨by rw [HE.out]; rfl, HB.out⟩

end Go.Proofs.Ytcdpaokmjoklcaa
