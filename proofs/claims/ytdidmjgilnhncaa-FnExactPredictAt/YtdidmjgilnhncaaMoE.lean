/- Proved here: answers that are a code and two fractions, compared by the laws' package. -/
import Derived.Test.YtdidmjgilnhncaaLwS
import Derived.Deep.DeepCutAuto
namespace Go.Proofs.Ytdidmjgilnhncaa
open Go.RowKit
set_option linter.unusedVariables false
set_option linter.unusedSimpArgs false

set_option maxHeartbeats 1600000 in
theorem eqFr8 (a b : Int) (w : World) : Calls Try.prog 59 #[.agg #[.int .i64 a, .int .i64 b], .agg #[.int .i64 a, .int .i64 b]] w fun e w' => e = .returned (.bool true) ∧ Below w.heap.size w w' := by
  go_enter Try.func59, Try.ntmps59
  go_wp2
  go_returns
  exact ⟨rfl, by (repeat' (first | (with_reducible exact Below.refl _ _) | (with_reducible assumption) | (with_reducible refine Below.setCell ?_ ?_ _) | (with_reducible refine Below.alloc ?_ ?_ _) | (with_reducible refine below_drewN ?_ _) | (with_reducible refine Below.drew ?_) | (with_reducible exact Nat.le_refl _) | omega | (simp; done) | (simp; omega)))⟩

set_option maxRecDepth 10000 in
set_option maxHeartbeats 6400000 in
theorem eqFracPair_to (c x y u v : Int) (w : World) :
    Calls Try.prog 25 #[.agg #[.int .i64 c, .int .i64 x, .int .i64 y, .int .i64 u, .int .i64 v], .agg #[.int .i64 c, .int .i64 x, .int .i64 y, .int .i64 u, .int .i64 v]] w fun e w' => e = .returned (.bool true) ∧ Below w.heap.size w w' := by
  have HC0 : Hid (∀ W, Calls Try.prog 59 #[.agg #[.int .i64 x, .int .i64 y], .agg #[.int .i64 x, .int .i64 y]] W fun e w' => e = .returned (.bool true) ∧ Below W.heap.size W w') := fun W => eqFr8 x y W
  have HC1 : Hid (∀ W, Calls Try.prog 59 #[.agg #[.int .i64 u, .int .i64 v], .agg #[.int .i64 u, .int .i64 v]] W fun e w' => e = .returned (.bool true) ∧ Below W.heap.size W w') := fun W => eqFr8 u v W
  obtain ⟨V, hV⟩ : ∃ V, V = (w.alloc (.cells #[.int .i64 c, .int .i64 x, .int .i64 y, .int .i64 u, .int .i64 v] 50)).alloc (.cells #[.int .i64 c, .int .i64 x, .int .i64 y, .int .i64 u, .int .i64 v] 50) := ⟨_, rfl⟩
  have HV : Hid (V.heap[w.heap.size]? = some (.cells #[.int .i64 c, .int .i64 x, .int .i64 y, .int .i64 u, .int .i64 v] 50) ∧ V.heap[w.heap.size + 1]? = some (.cells #[.int .i64 c, .int .i64 x, .int .i64 y, .int .i64 u, .int .i64 v] 50) ∧ Below w.heap.size w V) := by
    refine ⟨?_, ?_, by rw [hV]; (repeat' (first | (with_reducible exact Below.refl _ _) | (with_reducible assumption) | (with_reducible refine Below.setCell ?_ ?_ _) | (with_reducible refine Below.alloc ?_ ?_ _) | (with_reducible refine below_drewN ?_ _) | (with_reducible refine Below.drew ?_) | (with_reducible exact Nat.le_refl _) | omega | (simp; done) | (simp; omega)))⟩
    · rw [hV]; exact (Below.heap_alloc _ _ _ (by simp)).trans (heap_alloc_new w _)
    · rw [hV]; have := heap_alloc_new (w.alloc (.cells #[.int .i64 c, .int .i64 x, .int .i64 y, .int .i64 u, .int .i64 v] 50)) (.cells #[.int .i64 c, .int .i64 x, .int .i64 y, .int .i64 u, .int .i64 v] 50); simpa using this
  go_enter Try.func25, Try.ntmps25
  go_upto_region 1 with fail
  rw [← hV]
  clear hV
  have p0 := cellOf HV.out.1 0 rfl
  have q0 := cellOf HV.out.2.1 0 rfl
  have p1 := cellOf HV.out.1 1 rfl
  have q1 := cellOf HV.out.2.1 1 rfl
  have p2 := cellOf HV.out.1 2 rfl
  have q2 := cellOf HV.out.2.1 2 rfl
  have pl := ltOf HV.out.1
  have ql := ltOf HV.out.2.1
  go_wp2_with (fail)
  refine (HC0.out _).mono ?_
  rintro e w0 ⟨rfl, hb0⟩
  have HW0 : Hid (w0.heap[w.heap.size]? = some (.cells #[.int .i64 c, .int .i64 x, .int .i64 y, .int .i64 u, .int .i64 v] 50) ∧ w0.heap[w.heap.size + 1]? = some (.cells #[.int .i64 c, .int .i64 x, .int .i64 y, .int .i64 u, .int .i64 v] 50) ∧ Below w.heap.size w w0) := ⟨(hb0.block _ (ltOf HV.out.1)).trans HV.out.1, (hb0.block _ (ltOf HV.out.2.1)).trans HV.out.2.1, HV.out.2.2.trans (hb0.mono HV.out.2.2.size)⟩
  clear hb0 HV pl ql p0 q0 p1 q1 p2 q2 HC0
  have p3 := cellOf HW0.out.1 3 rfl
  have q3 := cellOf HW0.out.2.1 3 rfl
  have p4 := cellOf HW0.out.1 4 rfl
  have q4 := cellOf HW0.out.2.1 4 rfl
  have pl := ltOf HW0.out.1
  have ql := ltOf HW0.out.2.1
  go_wp2_with (fail)
  refine (HC1.out _).mono ?_
  rintro e w1 ⟨rfl, hb1⟩
  have HW1 : Hid (w1.heap[w.heap.size]? = some (.cells #[.int .i64 c, .int .i64 x, .int .i64 y, .int .i64 u, .int .i64 v] 50) ∧ w1.heap[w.heap.size + 1]? = some (.cells #[.int .i64 c, .int .i64 x, .int .i64 y, .int .i64 u, .int .i64 v] 50) ∧ Below w.heap.size w w1) := ⟨(hb1.block _ (ltOf HW0.out.1)).trans HW0.out.1, (hb1.block _ (ltOf HW0.out.2.1)).trans HW0.out.2.1, HW0.out.2.2.trans (hb1.mono HW0.out.2.2.size)⟩
  clear hb1 HW0 pl ql p3 q3 p4 q4 HC1
  go_wp2
  go_returns
  exact ⟨rfl, HW1.out.2.2⟩

end Go.Proofs.Ytdidmjgilnhncaa
