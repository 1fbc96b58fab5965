/- Proved here: TurnZ of both, by value. -/
import Derived.Test.YtgaabcgdfbgchaaTrS
import Derived.Test.YtgaabcgdfbgchaaTrI
namespace Go.Proofs.Ytgaabcgdfbgchaa
open Go.RowKit
set_option linter.unusedVariables false
set_option linter.unusedSimpArgs false

set_option maxHeartbeats 1600000 in
theorem impl_tz (p : Int) (w : World) : Calls Try.prog 9 #[.int .i64 p] w fun e w' => ∃ z : Zf, e = .returned (.agg #[.float .f64 z.re, .float .f64 z.im]) ∧ z.v = trV p ∧ Below w.heap.size w w' := by
  obtain ⟨A, hA⟩ : ∃ A, A = arK 20 := ⟨_, rfl⟩
  have HR : Hid (∀ W, Calls Try.prog 41 #[] W fun e w' => e = .returned (.agg A) ∧ Below W.heap.size W w') := fun W => by rw [hA]; exact impl_roots W
  have HT : Hid (∀ W, Calls Try.prog 40 #[.agg A, .int .i64 p] W fun e w' => ∃ z : Zf, e = .returned (.complex .f64 z.re z.im) ∧ z.v = trV p ∧ Below W.heap.size W w') := fun W => by rw [hA]; exact impl_turn p W
  clear hA
  go_enter Try.func9, Try.ntmps9
  go_wp2_with (fail)
  refine (HR.out _).mono ?_
  rintro e w1 ⟨rfl, hb1⟩
  have k1 := (hb1.block w.heap.size (by simp)).trans (heap_alloc_new w _)
  have B1 : Hid (Below w.heap.size w w1 ∧ w1.heap[w.heap.size]? = some (.cells #[.float .f64 0, .float .f64 0] 24)) := ⟨(show Below w.heap.size w _ from by (repeat' (first | (with_reducible exact Below.refl _ _) | (with_reducible assumption) | (with_reducible refine Below.setCell ?_ ?_ _) | (with_reducible refine Below.alloc ?_ ?_ _) | (with_reducible refine below_drewN ?_ _) | (with_reducible refine Below.drew ?_) | (with_reducible exact Nat.le_refl _) | omega | (simp; done) | (simp; omega)))).trans (hb1.mono (by simp)), k1⟩
  clear hb1 k1
  go_wp2_with (fail)
  refine (HT.out _).mono ?_
  rintro e w2 ⟨z, rfl, hz, hb2⟩
  have B2 : Hid (Below w.heap.size w w2 ∧ w2.heap[w.heap.size]? = some (.cells #[.float .f64 0, .float .f64 0] 24) ∧ z.v = trV p) := ⟨B1.out.1.trans (hb2.mono B1.out.1.size), (hb2.block _ (z_two B1.out.2).2.2.2).trans B1.out.2, hz⟩
  clear hb2 B1 hz
  go_wp2_with (fail)
  refine (zOf_any z _).mono ?_
  rintro e w3 ⟨rfl, hb3⟩
  have B3 : Hid (Below w.heap.size w w3 ∧ w3.heap[w.heap.size]? = some (.cells #[.float .f64 0, .float .f64 0] 24) ∧ z.v = trV p) := ⟨B2.out.1.trans (hb3.mono B2.out.1.size), (hb3.block _ (z_two B2.out.2.1).2.2.2).trans B2.out.2.1, B2.out.2.2⟩
  clear hb3 B2
  obtain ⟨q0, q1, qf, ql⟩ := z_two B3.out.2.1
  have qf0 := qf 0
  have qf1 := qf 1
  clear qf
  go_wp2
  refine bodyPost_ret (by simp [results, Try.results9, go_sem, q0, q1]; try rfl) rfl ⟨z, rfl, B3.out.2.2, ?_⟩
  have hB := B3.out.1
  (repeat' (first | (with_reducible exact Below.refl _ _) | (with_reducible assumption) | (with_reducible refine Below.setCell ?_ ?_ _) | (with_reducible refine Below.alloc ?_ ?_ _) | (with_reducible refine below_drewN ?_ _) | (with_reducible refine Below.drew ?_) | (with_reducible exact Nat.le_refl _) | omega | (simp; done) | (simp; omega)))

set_option maxHeartbeats 1600000 in
theorem spec_tz (p : Int) (w : World) : Calls Try.prog 8 #[.int .i64 p] w fun e w' => ∃ z : Zf, e = .returned (.agg #[.float .f64 z.re, .float .f64 z.im]) ∧ z.v = trV p ∧ Below w.heap.size w w' := by
  go_enter Try.func8, Try.ntmps8
  go_wp2_with (fail)
  refine (spec_roots _).mono ?_
  rintro e w1 ⟨v, rfl, hz1, hb1⟩
  have k1 := (hb1.block w.heap.size (by simp)).trans (heap_alloc_new w _)
  obtain ⟨a, c, hf⟩ := hz1.rg.form
  rw [rzK_len] at hf
  subst hf
  have B1 : Hid (Below w.heap.size w w1 ∧ w1.heap[w.heap.size]? = some (.cells #[.float .f64 0, .float .f64 0] 24) ∧ RZs w1 (.slice a 20 c) (rzK 20)) := ⟨(show Below w.heap.size w _ from by (repeat' (first | (with_reducible exact Below.refl _ _) | (with_reducible assumption) | (with_reducible refine Below.setCell ?_ ?_ _) | (with_reducible refine Below.alloc ?_ ?_ _) | (with_reducible refine below_drewN ?_ _) | (with_reducible refine Below.drew ?_) | (with_reducible exact Nat.le_refl _) | omega | (simp; done) | (simp; omega)))).trans (hb1.mono (by simp)), k1, hz1.rg⟩
  clear hb1 k1 hz1
  go_wp2_with (fail)
  refine (spec_turn p B1.out.2.2).mono ?_
  rintro e w3 ⟨z, rfl, hz, hb3⟩
  have B3 : Hid (Below w.heap.size w w3 ∧ w3.heap[w.heap.size]? = some (.cells #[.float .f64 0, .float .f64 0] 24) ∧ z.v = trV p) := ⟨B1.out.1.trans (hb3.mono B1.out.1.size), (hb3.block _ (z_two B1.out.2.1).2.2.2).trans B1.out.2.1, hz⟩
  clear hb3 B1 hz
  obtain ⟨q0, q1, qf, ql⟩ := z_two B3.out.2.1
  have qf0 := qf 0
  have qf1 := qf 1
  clear qf
  go_wp2
  refine bodyPost_ret (by simp [results, Try.results8, go_sem, q0, q1]; try rfl) rfl ⟨z, rfl, B3.out.2.2, ?_⟩
  have hB := B3.out.1
  (repeat' (first | (with_reducible exact Below.refl _ _) | (with_reducible assumption) | (with_reducible refine Below.setCell ?_ ?_ _) | (with_reducible refine Below.alloc ?_ ?_ _) | (with_reducible refine below_drewN ?_ _) | (with_reducible refine Below.drew ?_) | (with_reducible exact Nat.le_refl _) | omega | (simp; done) | (simp; omega)))

end Go.Proofs.Ytgaabcgdfbgchaa
