/- Proved here: answers that are a code and a model, compared by the laws' package. -/
import Derived.Test.YtdidmjgilnhncaaLwS
import Derived.Deep.DeepCutAuto
namespace Go.Proofs.Ytdidmjgilnhncaa
open Go.RowKit
set_option linter.unusedVariables false
set_option linter.unusedSimpArgs false

set_option maxHeartbeats 1600000 in
theorem eqFr9 (a b : Int) (w : World) : Calls Try.prog 59 #[.agg #[.int .i64 a, .int .i64 b], .agg #[.int .i64 a, .int .i64 b]] w fun e w' => e = .returned (.bool true) ∧ Below w.heap.size w w' := by
  go_enter Try.func59, Try.ntmps59
  go_wp2
  go_returns
  exact ⟨rfl, by (repeat' (first | (with_reducible exact Below.refl _ _) | (with_reducible assumption) | (with_reducible refine Below.setCell ?_ ?_ _) | (with_reducible refine Below.alloc ?_ ?_ _) | (with_reducible refine below_drewN ?_ _) | (with_reducible refine Below.drew ?_) | (with_reducible exact Nat.le_refl _) | omega | (simp; done) | (simp; omega)))⟩

set_option maxRecDepth 10000 in
set_option maxHeartbeats 6400000 in
theorem eqModel_to (x0 x1 x2 x3 x4 x5 x6 x7 : Int) (w : World) :
    Calls Try.prog 63 #[.agg #[.int .i64 x0, .int .i64 x1, .int .i64 x2, .int .i64 x3, .int .i64 x4, .int .i64 x5, .int .i64 x6, .int .i64 x7], .agg #[.int .i64 x0, .int .i64 x1, .int .i64 x2, .int .i64 x3, .int .i64 x4, .int .i64 x5, .int .i64 x6, .int .i64 x7]] w fun e w' => e = .returned (.bool true) ∧ Below w.heap.size w w' := by
  have HC0 : Hid (∀ W, Calls Try.prog 59 #[.agg #[.int .i64 x0, .int .i64 x1], .agg #[.int .i64 x0, .int .i64 x1]] W fun e w' => e = .returned (.bool true) ∧ Below W.heap.size W w') := fun W => eqFr9 x0 x1 W
  have HC1 : Hid (∀ W, Calls Try.prog 59 #[.agg #[.int .i64 x2, .int .i64 x3], .agg #[.int .i64 x2, .int .i64 x3]] W fun e w' => e = .returned (.bool true) ∧ Below W.heap.size W w') := fun W => eqFr9 x2 x3 W
  have HC2 : Hid (∀ W, Calls Try.prog 59 #[.agg #[.int .i64 x4, .int .i64 x5], .agg #[.int .i64 x4, .int .i64 x5]] W fun e w' => e = .returned (.bool true) ∧ Below W.heap.size W w') := fun W => eqFr9 x4 x5 W
  have HC3 : Hid (∀ W, Calls Try.prog 59 #[.agg #[.int .i64 x6, .int .i64 x7], .agg #[.int .i64 x6, .int .i64 x7]] W fun e w' => e = .returned (.bool true) ∧ Below W.heap.size W w') := fun W => eqFr9 x6 x7 W
  obtain ⟨V, hV⟩ : ∃ V, V = (w.alloc (.cells #[.int .i64 x0, .int .i64 x1, .int .i64 x2, .int .i64 x3, .int .i64 x4, .int .i64 x5, .int .i64 x6, .int .i64 x7] 46)).alloc (.cells #[.int .i64 x0, .int .i64 x1, .int .i64 x2, .int .i64 x3, .int .i64 x4, .int .i64 x5, .int .i64 x6, .int .i64 x7] 46) := ⟨_, rfl⟩
  have HV : Hid (V.heap[w.heap.size]? = some (.cells #[.int .i64 x0, .int .i64 x1, .int .i64 x2, .int .i64 x3, .int .i64 x4, .int .i64 x5, .int .i64 x6, .int .i64 x7] 46) ∧ V.heap[w.heap.size + 1]? = some (.cells #[.int .i64 x0, .int .i64 x1, .int .i64 x2, .int .i64 x3, .int .i64 x4, .int .i64 x5, .int .i64 x6, .int .i64 x7] 46) ∧ Below w.heap.size w V) := by
    refine ⟨?_, ?_, by rw [hV]; (repeat' (first | (with_reducible exact Below.refl _ _) | (with_reducible assumption) | (with_reducible refine Below.setCell ?_ ?_ _) | (with_reducible refine Below.alloc ?_ ?_ _) | (with_reducible refine below_drewN ?_ _) | (with_reducible refine Below.drew ?_) | (with_reducible exact Nat.le_refl _) | omega | (simp; done) | (simp; omega)))⟩
    · rw [hV]; exact (Below.heap_alloc _ _ _ (by simp)).trans (heap_alloc_new w _)
    · rw [hV]; have := heap_alloc_new (w.alloc (.cells #[.int .i64 x0, .int .i64 x1, .int .i64 x2, .int .i64 x3, .int .i64 x4, .int .i64 x5, .int .i64 x6, .int .i64 x7] 46)) (.cells #[.int .i64 x0, .int .i64 x1, .int .i64 x2, .int .i64 x3, .int .i64 x4, .int .i64 x5, .int .i64 x6, .int .i64 x7] 46); simpa using this
  go_enter Try.func63, Try.ntmps63
  go_upto_region 1 with fail
  rw [← hV]
  clear hV
  have p0 := cellOf HV.out.1 0 rfl
  have q0 := cellOf HV.out.2.1 0 rfl
  have p1 := cellOf HV.out.1 1 rfl
  have q1 := cellOf HV.out.2.1 1 rfl
  have pl := ltOf HV.out.1
  have ql := ltOf HV.out.2.1
  go_wp2_with (fail)
  refine (HC0.out _).mono ?_
  rintro e w0 ⟨rfl, hb0⟩
  have HW0 : Hid (w0.heap[w.heap.size]? = some (.cells #[.int .i64 x0, .int .i64 x1, .int .i64 x2, .int .i64 x3, .int .i64 x4, .int .i64 x5, .int .i64 x6, .int .i64 x7] 46) ∧ w0.heap[w.heap.size + 1]? = some (.cells #[.int .i64 x0, .int .i64 x1, .int .i64 x2, .int .i64 x3, .int .i64 x4, .int .i64 x5, .int .i64 x6, .int .i64 x7] 46) ∧ Below w.heap.size w w0) := ⟨(hb0.block _ (ltOf HV.out.1)).trans HV.out.1, (hb0.block _ (ltOf HV.out.2.1)).trans HV.out.2.1, HV.out.2.2.trans (hb0.mono HV.out.2.2.size)⟩
  clear hb0 HV pl ql p0 q0 p1 q1 HC0
  have p2 := cellOf HW0.out.1 2 rfl
  have q2 := cellOf HW0.out.2.1 2 rfl
  have p3 := cellOf HW0.out.1 3 rfl
  have q3 := cellOf HW0.out.2.1 3 rfl
  have pl := ltOf HW0.out.1
  have ql := ltOf HW0.out.2.1
  go_wp2_with (fail)
  refine (HC1.out _).mono ?_
  rintro e w1 ⟨rfl, hb1⟩
  have HW1 : Hid (w1.heap[w.heap.size]? = some (.cells #[.int .i64 x0, .int .i64 x1, .int .i64 x2, .int .i64 x3, .int .i64 x4, .int .i64 x5, .int .i64 x6, .int .i64 x7] 46) ∧ w1.heap[w.heap.size + 1]? = some (.cells #[.int .i64 x0, .int .i64 x1, .int .i64 x2, .int .i64 x3, .int .i64 x4, .int .i64 x5, .int .i64 x6, .int .i64 x7] 46) ∧ Below w.heap.size w w1) := ⟨(hb1.block _ (ltOf HW0.out.1)).trans HW0.out.1, (hb1.block _ (ltOf HW0.out.2.1)).trans HW0.out.2.1, HW0.out.2.2.trans (hb1.mono HW0.out.2.2.size)⟩
  clear hb1 HW0 pl ql p2 q2 p3 q3 HC1
  have p4 := cellOf HW1.out.1 4 rfl
  have q4 := cellOf HW1.out.2.1 4 rfl
  have p5 := cellOf HW1.out.1 5 rfl
  have q5 := cellOf HW1.out.2.1 5 rfl
  have pl := ltOf HW1.out.1
  have ql := ltOf HW1.out.2.1
  go_wp2_with (fail)
  refine (HC2.out _).mono ?_
  rintro e w2 ⟨rfl, hb2⟩
  have HW2 : Hid (w2.heap[w.heap.size]? = some (.cells #[.int .i64 x0, .int .i64 x1, .int .i64 x2, .int .i64 x3, .int .i64 x4, .int .i64 x5, .int .i64 x6, .int .i64 x7] 46) ∧ w2.heap[w.heap.size + 1]? = some (.cells #[.int .i64 x0, .int .i64 x1, .int .i64 x2, .int .i64 x3, .int .i64 x4, .int .i64 x5, .int .i64 x6, .int .i64 x7] 46) ∧ Below w.heap.size w w2) := ⟨(hb2.block _ (ltOf HW1.out.1)).trans HW1.out.1, (hb2.block _ (ltOf HW1.out.2.1)).trans HW1.out.2.1, HW1.out.2.2.trans (hb2.mono HW1.out.2.2.size)⟩
  clear hb2 HW1 pl ql p4 q4 p5 q5 HC2
  have p6 := cellOf HW2.out.1 6 rfl
  have q6 := cellOf HW2.out.2.1 6 rfl
  have p7 := cellOf HW2.out.1 7 rfl
  have q7 := cellOf HW2.out.2.1 7 rfl
  have pl := ltOf HW2.out.1
  have ql := ltOf HW2.out.2.1
  go_wp2_with (fail)
  refine (HC3.out _).mono ?_
  rintro e w3 ⟨rfl, hb3⟩
  have HW3 : Hid (w3.heap[w.heap.size]? = some (.cells #[.int .i64 x0, .int .i64 x1, .int .i64 x2, .int .i64 x3, .int .i64 x4, .int .i64 x5, .int .i64 x6, .int .i64 x7] 46) ∧ w3.heap[w.heap.size + 1]? = some (.cells #[.int .i64 x0, .int .i64 x1, .int .i64 x2, .int .i64 x3, .int .i64 x4, .int .i64 x5, .int .i64 x6, .int .i64 x7] 46) ∧ Below w.heap.size w w3) := ⟨(hb3.block _ (ltOf HW2.out.1)).trans HW2.out.1, (hb3.block _ (ltOf HW2.out.2.1)).trans HW2.out.2.1, HW2.out.2.2.trans (hb3.mono HW2.out.2.2.size)⟩
  clear hb3 HW2 pl ql p6 q6 p7 q7 HC3
  go_wp2
  go_returns
  exact ⟨rfl, HW3.out.2.2⟩

set_option maxRecDepth 10000 in
set_option maxHeartbeats 6400000 in
theorem eqModelResult_to (c x0 x1 x2 x3 x4 x5 x6 x7 : Int) (w : World) :
    Calls Try.prog 28 #[.agg #[.int .i64 c, .int .i64 x0, .int .i64 x1, .int .i64 x2, .int .i64 x3, .int .i64 x4, .int .i64 x5, .int .i64 x6, .int .i64 x7], .agg #[.int .i64 c, .int .i64 x0, .int .i64 x1, .int .i64 x2, .int .i64 x3, .int .i64 x4, .int .i64 x5, .int .i64 x6, .int .i64 x7]] w fun e w' => e = .returned (.bool true) ∧ Below w.heap.size w w' := by
  have HC0 : Hid (∀ W, Calls Try.prog 63 #[.agg #[.int .i64 x0, .int .i64 x1, .int .i64 x2, .int .i64 x3, .int .i64 x4, .int .i64 x5, .int .i64 x6, .int .i64 x7], .agg #[.int .i64 x0, .int .i64 x1, .int .i64 x2, .int .i64 x3, .int .i64 x4, .int .i64 x5, .int .i64 x6, .int .i64 x7]] W fun e w' => e = .returned (.bool true) ∧ Below W.heap.size W w') := fun W => eqModel_to x0 x1 x2 x3 x4 x5 x6 x7 W
  obtain ⟨V, hV⟩ : ∃ V, V = (w.alloc (.cells #[.int .i64 c, .int .i64 x0, .int .i64 x1, .int .i64 x2, .int .i64 x3, .int .i64 x4, .int .i64 x5, .int .i64 x6, .int .i64 x7] 55)).alloc (.cells #[.int .i64 c, .int .i64 x0, .int .i64 x1, .int .i64 x2, .int .i64 x3, .int .i64 x4, .int .i64 x5, .int .i64 x6, .int .i64 x7] 55) := ⟨_, rfl⟩
  have HV : Hid (V.heap[w.heap.size]? = some (.cells #[.int .i64 c, .int .i64 x0, .int .i64 x1, .int .i64 x2, .int .i64 x3, .int .i64 x4, .int .i64 x5, .int .i64 x6, .int .i64 x7] 55) ∧ V.heap[w.heap.size + 1]? = some (.cells #[.int .i64 c, .int .i64 x0, .int .i64 x1, .int .i64 x2, .int .i64 x3, .int .i64 x4, .int .i64 x5, .int .i64 x6, .int .i64 x7] 55) ∧ Below w.heap.size w V) := by
    refine ⟨?_, ?_, by rw [hV]; (repeat' (first | (with_reducible exact Below.refl _ _) | (with_reducible assumption) | (with_reducible refine Below.setCell ?_ ?_ _) | (with_reducible refine Below.alloc ?_ ?_ _) | (with_reducible refine below_drewN ?_ _) | (with_reducible refine Below.drew ?_) | (with_reducible exact Nat.le_refl _) | omega | (simp; done) | (simp; omega)))⟩
    · rw [hV]; exact (Below.heap_alloc _ _ _ (by simp)).trans (heap_alloc_new w _)
    · rw [hV]; have := heap_alloc_new (w.alloc (.cells #[.int .i64 c, .int .i64 x0, .int .i64 x1, .int .i64 x2, .int .i64 x3, .int .i64 x4, .int .i64 x5, .int .i64 x6, .int .i64 x7] 55)) (.cells #[.int .i64 c, .int .i64 x0, .int .i64 x1, .int .i64 x2, .int .i64 x3, .int .i64 x4, .int .i64 x5, .int .i64 x6, .int .i64 x7] 55); simpa using this
  go_enter Try.func28, Try.ntmps28
  go_upto_region 1 with fail
  rw [← hV]
  clear hV
  have p0 := cellOf HV.out.1 0 rfl
  have q0 := cellOf HV.out.2.1 0 rfl
  have p1 := cellOf HV.out.1 1 rfl
  have q1 := cellOf HV.out.2.1 1 rfl
  have p2 := cellOf HV.out.1 2 rfl
  have q2 := cellOf HV.out.2.1 2 rfl
  have p3 := cellOf HV.out.1 3 rfl
  have q3 := cellOf HV.out.2.1 3 rfl
  have p4 := cellOf HV.out.1 4 rfl
  have q4 := cellOf HV.out.2.1 4 rfl
  have p5 := cellOf HV.out.1 5 rfl
  have q5 := cellOf HV.out.2.1 5 rfl
  have p6 := cellOf HV.out.1 6 rfl
  have q6 := cellOf HV.out.2.1 6 rfl
  have p7 := cellOf HV.out.1 7 rfl
  have q7 := cellOf HV.out.2.1 7 rfl
  have p8 := cellOf HV.out.1 8 rfl
  have q8 := cellOf HV.out.2.1 8 rfl
  have pl := ltOf HV.out.1
  have ql := ltOf HV.out.2.1
  go_wp2_with (fail)
  refine (HC0.out _).mono ?_
  rintro e w0 ⟨rfl, hb0⟩
  have HW0 : Hid (w0.heap[w.heap.size]? = some (.cells #[.int .i64 c, .int .i64 x0, .int .i64 x1, .int .i64 x2, .int .i64 x3, .int .i64 x4, .int .i64 x5, .int .i64 x6, .int .i64 x7] 55) ∧ w0.heap[w.heap.size + 1]? = some (.cells #[.int .i64 c, .int .i64 x0, .int .i64 x1, .int .i64 x2, .int .i64 x3, .int .i64 x4, .int .i64 x5, .int .i64 x6, .int .i64 x7] 55) ∧ Below w.heap.size w w0) := ⟨(hb0.block _ (ltOf HV.out.1)).trans HV.out.1, (hb0.block _ (ltOf HV.out.2.1)).trans HV.out.2.1, HV.out.2.2.trans (hb0.mono HV.out.2.2.size)⟩
  clear hb0 HV pl ql p0 q0 p1 q1 p2 q2 p3 q3 p4 q4 p5 q5 p6 q6 p7 q7 p8 q8 HC0
  go_wp2
  go_returns
  exact ⟨rfl, HW0.out.2.2⟩

end Go.Proofs.Ytdidmjgilnhncaa
