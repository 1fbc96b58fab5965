/- Proved here: MakeFrac of both, for a number from 0 on below it. -/
import Derived.Test.YtcdpaokmjoklcaaCaM
import Derived.Test.YtcdpaokmjoklcaaLwS
import Derived.Deep.DeepCutAuto
namespace Go.Proofs.Ytcdpaokmjoklcaa
open Go.RowKit
set_option linter.unusedVariables false
set_option linter.unusedSimpArgs false

set_option maxHeartbeats 1600000 in
theorem impl_mq (n d : Int) (hn : -10000000 ≤ n ∧ n ≤ 10000000) (hd : 0 ≤ d ∧ d ≤ 10000000) (w : World) :
    Calls Try.prog 27 #[.int .i64 n, .int .i64 d] w fun e w' => e = .returned (.agg #[.int .i64 (mqQ n d).c, .int .i64 (mqQ n d).n, .int .i64 (mqQ n d).d]) ∧ Below w.heap.size w w' := by
  by_cases h0 : d = 0
  · subst h0
    rw [mqQ, if_pos rfl]
    go_enter Try.func27, Try.ntmps27
    go_wp2
    go_returns
    exact ⟨rfl, by (repeat' (first | (with_reducible exact Below.refl _ _) | (with_reducible assumption) | (with_reducible refine Below.setCell ?_ ?_ _) | (with_reducible refine Below.alloc ?_ ?_ _) | (with_reducible refine below_drewN ?_ _) | (with_reducible refine Below.drew ?_) | (with_reducible exact Nat.le_refl _) | omega | (simp; done) | (simp; omega)))⟩
  rw [mqQ, if_neg h0]
  have h5 : (d == 0) = false := by simpa using h0
  obtain ⟨a, ha⟩ : ∃ a, a = rqC n d := ⟨_, rfl⟩
  obtain ⟨b, hb⟩ : ∃ a, a = rqN n d := ⟨_, rfl⟩
  obtain ⟨c, hc⟩ : ∃ a, a = rqD n d := ⟨_, rfl⟩
  have HQ : Hid (∀ V, Calls Try.prog 31 #[.int .i64 n, .int .i64 d] V fun e w' => e = .returned (.agg #[.int .i64 a, .int .i64 b, .int .i64 c]) ∧ Below V.heap.size V w') := fun V => by
    rw [ha, hb, hc]; exact impl_rq_pos n d V (by omega) (by omega) (by omega) (by omega)
  show Calls Try.prog 27 #[.int .i64 n, .int .i64 d] w fun e w' => e = .returned (.agg #[.int .i64 (rqC n d), .int .i64 (rqN n d), .int .i64 (rqD n d)]) ∧ Below w.heap.size w w'
  rw [← ha, ← hb, ← hc]
  clear ha hb hc
  go_enter Try.func27, Try.ntmps27
  go_wp2_with (fail)
  refine (HQ.out _).mono ?_
  rintro e w1 ⟨rfl, hb1⟩
  have j1 := (hb1.block w.heap.size (by simp)).trans (heap_alloc_new w (.cells #[.int .i64 0, .int .i64 0, .int .i64 0] 35))
  have q0 := cellOf j1 0 rfl
  have q1 := cellOf j1 1 rfl
  have q2 := cellOf j1 2 rfl
  have qf0 := frozOf j1 0
  have qf1 := frozOf j1 1
  have qf2 := frozOf j1 2
  have ql := ltOf j1
  have HB : Hid (Below w.heap.size w w1) := (show Below w.heap.size w _ from by (repeat' (first | (with_reducible exact Below.refl _ _) | (with_reducible assumption) | (with_reducible refine Below.setCell ?_ ?_ _) | (with_reducible refine Below.alloc ?_ ?_ _) | (with_reducible refine below_drewN ?_ _) | (with_reducible refine Below.drew ?_) | (with_reducible exact Nat.le_refl _) | omega | (simp; done) | (simp; omega)))).trans (hb1.mono (by simp))
  clear hb1 j1
  go_wp2
  try simp only [Exit.inBlock, Exit.then]
  refine bodyPost_ret (by simp [results, Try.results27, go_sem, q0, q1, q2, ql]; try rfl) rfl ⟨rfl, ?_⟩
  have hb := HB.out
  (repeat' (first | (with_reducible exact Below.refl _ _) | (with_reducible assumption) | (with_reducible refine Below.setCell ?_ ?_ _) | (with_reducible refine Below.alloc ?_ ?_ _) | (with_reducible refine below_drewN ?_ _) | (with_reducible refine Below.drew ?_) | (with_reducible exact Nat.le_refl _) | omega | (simp; done) | (simp; omega)))

set_option maxHeartbeats 1600000 in
theorem spec_mq (n d : Int) (hn : -10000000 ≤ n ∧ n ≤ 10000000) (hd : 0 ≤ d ∧ d ≤ 10000000) (w : World) :
    Calls Try.prog 23 #[.int .i64 n, .int .i64 d] w fun e w' => e = .returned (.agg #[.int .i64 (mqQ n d).c, .int .i64 (mqQ n d).n, .int .i64 (mqQ n d).d]) ∧ Below w.heap.size w w' := by
  by_cases h0 : d = 0
  · subst h0
    rw [mqQ, if_pos rfl]
    go_enter Try.func23, Try.ntmps23
    go_wp2
    go_returns
    exact ⟨rfl, by (repeat' (first | (with_reducible exact Below.refl _ _) | (with_reducible assumption) | (with_reducible refine Below.setCell ?_ ?_ _) | (with_reducible refine Below.alloc ?_ ?_ _) | (with_reducible refine below_drewN ?_ _) | (with_reducible refine Below.drew ?_) | (with_reducible exact Nat.le_refl _) | omega | (simp; done) | (simp; omega)))⟩
  rw [mqQ, if_neg h0]
  have h5 : (d == 0) = false := by simpa using h0
  obtain ⟨a, ha⟩ : ∃ a, a = rqC n d := ⟨_, rfl⟩
  obtain ⟨b, hb⟩ : ∃ a, a = rqN n d := ⟨_, rfl⟩
  obtain ⟨c, hc⟩ : ∃ a, a = rqD n d := ⟨_, rfl⟩
  have HQ : Hid (∀ V, Calls Try.prog 29 #[.int .i64 n, .int .i64 d] V fun e w' => e = .returned (.agg #[.int .i64 a, .int .i64 b, .int .i64 c]) ∧ Below V.heap.size V w') := fun V => by
    rw [ha, hb, hc]; exact spec_low_pos n d V (by omega) (by omega) (by omega) (by omega)
  show Calls Try.prog 23 #[.int .i64 n, .int .i64 d] w fun e w' => e = .returned (.agg #[.int .i64 (rqC n d), .int .i64 (rqN n d), .int .i64 (rqD n d)]) ∧ Below w.heap.size w w'
  rw [← ha, ← hb, ← hc]
  clear ha hb hc
  go_enter Try.func23, Try.ntmps23
  go_wp2_with (fail)
  refine (HQ.out _).mono ?_
  rintro e w1 ⟨rfl, hb1⟩
  have j1 := (hb1.block w.heap.size (by simp)).trans (heap_alloc_new w (.cells #[.int .i64 0, .int .i64 0, .int .i64 0] 35))
  have q0 := cellOf j1 0 rfl
  have q1 := cellOf j1 1 rfl
  have q2 := cellOf j1 2 rfl
  have qf0 := frozOf j1 0
  have qf1 := frozOf j1 1
  have qf2 := frozOf j1 2
  have ql := ltOf j1
  have HB : Hid (Below w.heap.size w w1) := (show Below w.heap.size w _ from by (repeat' (first | (with_reducible exact Below.refl _ _) | (with_reducible assumption) | (with_reducible refine Below.setCell ?_ ?_ _) | (with_reducible refine Below.alloc ?_ ?_ _) | (with_reducible refine below_drewN ?_ _) | (with_reducible refine Below.drew ?_) | (with_reducible exact Nat.le_refl _) | omega | (simp; done) | (simp; omega)))).trans (hb1.mono (by simp))
  clear hb1 j1
  go_wp2
  try simp only [Exit.inBlock, Exit.then]
  refine bodyPost_ret (by simp [results, Try.results23, go_sem, q0, q1, q2, ql]; try rfl) rfl ⟨rfl, ?_⟩
  have hb := HB.out
  (repeat' (first | (with_reducible exact Below.refl _ _) | (with_reducible assumption) | (with_reducible refine Below.setCell ?_ ?_ _) | (with_reducible refine Below.alloc ?_ ?_ _) | (with_reducible refine below_drewN ?_ _) | (with_reducible refine Below.drew ?_) | (with_reducible exact Nat.le_refl _) | omega | (simp; done) | (simp; omega)))


end Go.Proofs.Ytcdpaokmjoklcaa
