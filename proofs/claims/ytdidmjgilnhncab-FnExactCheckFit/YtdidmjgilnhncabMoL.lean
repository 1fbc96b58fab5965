/- Proved here: models in the laws: copied, read. -/
import Derived.Test.YtdidmjgilnhncabLwS
import Derived.OpenShut
import Derived.Lib.SmallJoins
import Derived.Deep.DeepCutAuto
namespace Go.Proofs.Ytdidmjgilnhncab
open Go.ChangeShapes Go.WideShapes Go.ChangeAt Go.RowKit Go.Joins Go.Deep
set_option linter.unusedVariables false
set_option linter.unusedSimpArgs false

set_option maxHeartbeats 1600000 in
theorem toFr8 (a b : Int) (w : World) : Calls Try.prog 40 #[.agg #[.int .i64 a, .int .i64 b]] w fun e w' => e = .returned (.agg #[.int .i64 a, .int .i64 b]) ∧ Below w.heap.size w w' := by
  go_enter Try.func40, Try.ntmps40
  go_wp21
  go_returns
  exact ⟨rfl, by (repeat' (first | (with_reducible exact Below.refl _ _) | (with_reducible assumption) | (with_reducible refine Below.setCell ?_ ?_ _) | (with_reducible refine Below.alloc ?_ ?_ _) | (with_reducible refine below_drewN ?_ _) | (with_reducible refine Below.drew ?_) | (with_reducible exact Nat.le_refl _) | omega | (simp; done) | (simp; omega)))⟩
theorem set2_at {w : World} {k i : Nat} {cs : Array Value} {a b : Value} {T : TypeId} (h : w.heap[k]? = some (.cells cs T)) : ((w.setCell ⟨k, i, none⟩ a).setCell ⟨k, i + 1, none⟩ b).heap[k]? = some (.cells ((cs.setIfInBounds i a).setIfInBounds (i + 1) b) T) := by
  have h1 := heap_setCell_same w k i _ _ a h
  exact heap_setCell_same _ k (i + 1) _ _ b h1
theorem set2_other {w : World} {k j i i' : Nat} {a b : Value} (h : j ≠ k) : ((w.setCell ⟨k, i, none⟩ a).setCell ⟨k, i', none⟩ b).heap[j]? = w.heap[j]? := by
  rw [heap_setCell_other _ _ _ _ (by simpa using h), heap_setCell_other _ _ _ _ (by simpa using h)]

set_option maxRecDepth 10000 in
set_option maxHeartbeats 6400000 in
theorem toModel_is (a0 a1 a2 a3 a4 a5 a6 a7 : Int) (w : World) :
    Calls Try.prog 10 #[.agg #[.int .i64 a0, .int .i64 a1, .int .i64 a2, .int .i64 a3, .int .i64 a4, .int .i64 a5, .int .i64 a6, .int .i64 a7]] w fun e w' => e = .returned (.agg #[.int .i64 a0, .int .i64 a1, .int .i64 a2, .int .i64 a3, .int .i64 a4, .int .i64 a5, .int .i64 a6, .int .i64 a7]) ∧ Below w.heap.size w w' := by
  have HT0 : Hid (∀ W, Calls Try.prog 40 #[.agg #[.int .i64 a0, .int .i64 a1]] W fun e w' => e = .returned (.agg #[.int .i64 a0, .int .i64 a1]) ∧ Below W.heap.size W w') := fun W => toFr8 a0 a1 W
  have HT1 : Hid (∀ W, Calls Try.prog 40 #[.agg #[.int .i64 a2, .int .i64 a3]] W fun e w' => e = .returned (.agg #[.int .i64 a2, .int .i64 a3]) ∧ Below W.heap.size W w') := fun W => toFr8 a2 a3 W
  have HT2 : Hid (∀ W, Calls Try.prog 40 #[.agg #[.int .i64 a4, .int .i64 a5]] W fun e w' => e = .returned (.agg #[.int .i64 a4, .int .i64 a5]) ∧ Below W.heap.size W w') := fun W => toFr8 a4 a5 W
  have HT3 : Hid (∀ W, Calls Try.prog 40 #[.agg #[.int .i64 a6, .int .i64 a7]] W fun e w' => e = .returned (.agg #[.int .i64 a6, .int .i64 a7]) ∧ Below W.heap.size W w') := fun W => toFr8 a6 a7 W
  obtain ⟨V0, hV⟩ : ∃ V, V = ((w.alloc (.cells #[.int .i64 a0, .int .i64 a1, .int .i64 a2, .int .i64 a3, .int .i64 a4, .int .i64 a5, .int .i64 a6, .int .i64 a7] 26)).alloc (.cells #[.int .i64 0, .int .i64 0, .int .i64 0, .int .i64 0, .int .i64 0, .int .i64 0, .int .i64 0, .int .i64 0] 33)).alloc (.cells #[.int .i64 0, .int .i64 0, .int .i64 0, .int .i64 0, .int .i64 0, .int .i64 0, .int .i64 0, .int .i64 0] 33) := ⟨_, rfl⟩
  have HV0 : Hid (V0.heap[w.heap.size]? = some (.cells #[.int .i64 a0, .int .i64 a1, .int .i64 a2, .int .i64 a3, .int .i64 a4, .int .i64 a5, .int .i64 a6, .int .i64 a7] 26) ∧ V0.heap[w.heap.size + 1]? = some (.cells #[.int .i64 0, .int .i64 0, .int .i64 0, .int .i64 0, .int .i64 0, .int .i64 0, .int .i64 0, .int .i64 0] 33) ∧ V0.heap[w.heap.size + 1 + 1]? = some (.cells #[.int .i64 0, .int .i64 0, .int .i64 0, .int .i64 0, .int .i64 0, .int .i64 0, .int .i64 0, .int .i64 0] 33) ∧ Below w.heap.size w V0) := by
    refine ⟨?_, ?_, ?_, by rw [hV]; (repeat' (first | (with_reducible exact Below.refl _ _) | (with_reducible assumption) | (with_reducible refine Below.setCell ?_ ?_ _) | (with_reducible refine Below.alloc ?_ ?_ _) | (with_reducible refine below_drewN ?_ _) | (with_reducible refine Below.drew ?_) | (with_reducible exact Nat.le_refl _) | omega | (simp; done) | (simp; omega)))⟩
    · rw [hV]; exact (Below.heap_alloc _ _ _ (by simp; omega)).trans ((Below.heap_alloc _ _ _ (by simp)).trans (heap_alloc_new w _))
    · rw [hV]
      refine (Below.heap_alloc _ _ _ (by simp)).trans ?_
      have := heap_alloc_new (w.alloc (.cells #[.int .i64 a0, .int .i64 a1, .int .i64 a2, .int .i64 a3, .int .i64 a4, .int .i64 a5, .int .i64 a6, .int .i64 a7] 26)) (.cells #[.int .i64 0, .int .i64 0, .int .i64 0, .int .i64 0, .int .i64 0, .int .i64 0, .int .i64 0, .int .i64 0] 33); simpa using this
    · rw [hV]
      have := heap_alloc_new ((w.alloc (.cells #[.int .i64 a0, .int .i64 a1, .int .i64 a2, .int .i64 a3, .int .i64 a4, .int .i64 a5, .int .i64 a6, .int .i64 a7] 26)).alloc (.cells #[.int .i64 0, .int .i64 0, .int .i64 0, .int .i64 0, .int .i64 0, .int .i64 0, .int .i64 0, .int .i64 0] 33)) (.cells #[.int .i64 0, .int .i64 0, .int .i64 0, .int .i64 0, .int .i64 0, .int .i64 0, .int .i64 0, .int .i64 0] 33); simpa using this
  have p0 := cellOf HV0.out.1 0 rfl
  have p1 := cellOf HV0.out.1 1 rfl
  have pl := ltOf HV0.out.1
  go_enter Try.func10, Try.ntmps10
  go_wp2_with (fail)
  rw [← hV]
  clear hV
  refine (HT0.out _).mono ?_
  rintro e w1 ⟨rfl, hb1⟩
  have HW1 : Hid (w1.heap[w.heap.size]? = some (.cells #[.int .i64 a0, .int .i64 a1, .int .i64 a2, .int .i64 a3, .int .i64 a4, .int .i64 a5, .int .i64 a6, .int .i64 a7] 26) ∧ w1.heap[w.heap.size + 1]? = some (.cells #[.int .i64 0, .int .i64 0, .int .i64 0, .int .i64 0, .int .i64 0, .int .i64 0, .int .i64 0, .int .i64 0] 33) ∧ w1.heap[w.heap.size + 1 + 1]? = some (.cells #[.int .i64 0, .int .i64 0, .int .i64 0, .int .i64 0, .int .i64 0, .int .i64 0, .int .i64 0, .int .i64 0] 33) ∧ Below w.heap.size w w1) := ⟨(hb1.block _ (ltOf HV0.out.1)).trans HV0.out.1, (hb1.block _ (ltOf HV0.out.2.1)).trans HV0.out.2.1, (hb1.block _ (ltOf HV0.out.2.2.1)).trans HV0.out.2.2.1, HV0.out.2.2.2.trans (hb1.mono HV0.out.2.2.2.size)⟩
  clear hb1 HV0 p0 p1 pl
  have q0 := cellOf HW1.out.2.2.1 0 rfl
  have q1 := cellOf HW1.out.2.2.1 1 rfl
  have f0 := frozOf HW1.out.2.2.1 0
  have f1 := frozOf HW1.out.2.2.1 1
  have ql := ltOf HW1.out.2.2.1
  have HV1 : Hid (w1.heap[w.heap.size]? = some (.cells #[.int .i64 a0, .int .i64 a1, .int .i64 a2, .int .i64 a3, .int .i64 a4, .int .i64 a5, .int .i64 a6, .int .i64 a7] 26) ∧ w1.heap[w.heap.size + 1]? = some (.cells #[.int .i64 0, .int .i64 0, .int .i64 0, .int .i64 0, .int .i64 0, .int .i64 0, .int .i64 0, .int .i64 0] 33) ∧ w1.heap[w.heap.size + 1 + 1]? = some (.cells #[.int .i64 0, .int .i64 0, .int .i64 0, .int .i64 0, .int .i64 0, .int .i64 0, .int .i64 0, .int .i64 0] 33) ∧ Below w.heap.size w w1) := HW1.out
  clear HW1
  have p2 := cellOf HV1.out.1 2 rfl
  have p3 := cellOf HV1.out.1 3 rfl
  have pl := ltOf HV1.out.1
  go_wp2_with (fail)
  refine (HT1.out _).mono ?_
  rintro e w2 ⟨rfl, hb2⟩
  obtain ⟨V1, hV1⟩ : ∃ V, V = (w1.setCell ⟨w.heap.size + 1 + 1, 0, none⟩ (.int .i64 a0)).setCell ⟨w.heap.size + 1 + 1, 1, none⟩ (.int .i64 a1) := ⟨_, rfl⟩
  rw [← hV1] at hb2
  have HVn : Hid (V1.heap[w.heap.size]? = some (.cells #[.int .i64 a0, .int .i64 a1, .int .i64 a2, .int .i64 a3, .int .i64 a4, .int .i64 a5, .int .i64 a6, .int .i64 a7] 26) ∧ V1.heap[w.heap.size + 1]? = some (.cells #[.int .i64 0, .int .i64 0, .int .i64 0, .int .i64 0, .int .i64 0, .int .i64 0, .int .i64 0, .int .i64 0] 33) ∧ V1.heap[w.heap.size + 1 + 1]? = some (.cells #[.int .i64 a0, .int .i64 a1, .int .i64 0, .int .i64 0, .int .i64 0, .int .i64 0, .int .i64 0, .int .i64 0] 33) ∧ Below w.heap.size w V1) := by
    refine ⟨?_, ?_, ?_, ?_⟩
    · rw [hV1, set2_other (by omega)]; exact HV1.out.1
    · rw [hV1, set2_other (by omega)]; exact HV1.out.2.1
    · rw [hV1]; exact set2_at HV1.out.2.2.1
    · rw [hV1]; have hb := HV1.out.2.2.2; (repeat' (first | (with_reducible exact Below.refl _ _) | (with_reducible assumption) | (with_reducible refine Below.setCell ?_ ?_ _) | (with_reducible refine Below.alloc ?_ ?_ _) | (with_reducible refine below_drewN ?_ _) | (with_reducible refine Below.drew ?_) | (with_reducible exact Nat.le_refl _) | omega | (simp; done) | (simp; omega)))
  have HW2 : Hid (w2.heap[w.heap.size]? = some (.cells #[.int .i64 a0, .int .i64 a1, .int .i64 a2, .int .i64 a3, .int .i64 a4, .int .i64 a5, .int .i64 a6, .int .i64 a7] 26) ∧ w2.heap[w.heap.size + 1]? = some (.cells #[.int .i64 0, .int .i64 0, .int .i64 0, .int .i64 0, .int .i64 0, .int .i64 0, .int .i64 0, .int .i64 0] 33) ∧ w2.heap[w.heap.size + 1 + 1]? = some (.cells #[.int .i64 a0, .int .i64 a1, .int .i64 0, .int .i64 0, .int .i64 0, .int .i64 0, .int .i64 0, .int .i64 0] 33) ∧ Below w.heap.size w w2) := ⟨(hb2.block _ (ltOf HVn.out.1)).trans HVn.out.1, (hb2.block _ (ltOf HVn.out.2.1)).trans HVn.out.2.1, (hb2.block _ (ltOf HVn.out.2.2.1)).trans HVn.out.2.2.1, HVn.out.2.2.2.trans (hb2.mono HVn.out.2.2.2.size)⟩
  clear hb2 HV1 HVn hV1 p2 p3 pl q0 q1 f0 f1 ql
  have q2 := cellOf HW2.out.2.2.1 2 rfl
  have q3 := cellOf HW2.out.2.2.1 3 rfl
  have f2 := frozOf HW2.out.2.2.1 2
  have f3 := frozOf HW2.out.2.2.1 3
  have ql := ltOf HW2.out.2.2.1
  have HV2 : Hid (w2.heap[w.heap.size]? = some (.cells #[.int .i64 a0, .int .i64 a1, .int .i64 a2, .int .i64 a3, .int .i64 a4, .int .i64 a5, .int .i64 a6, .int .i64 a7] 26) ∧ w2.heap[w.heap.size + 1]? = some (.cells #[.int .i64 0, .int .i64 0, .int .i64 0, .int .i64 0, .int .i64 0, .int .i64 0, .int .i64 0, .int .i64 0] 33) ∧ w2.heap[w.heap.size + 1 + 1]? = some (.cells #[.int .i64 a0, .int .i64 a1, .int .i64 0, .int .i64 0, .int .i64 0, .int .i64 0, .int .i64 0, .int .i64 0] 33) ∧ Below w.heap.size w w2) := HW2.out
  clear HW2
  have p4 := cellOf HV2.out.1 4 rfl
  have p5 := cellOf HV2.out.1 5 rfl
  have pl := ltOf HV2.out.1
  go_wp2_with (fail)
  refine (HT2.out _).mono ?_
  rintro e w3 ⟨rfl, hb3⟩
  obtain ⟨V2, hV2⟩ : ∃ V, V = (w2.setCell ⟨w.heap.size + 1 + 1, 2, none⟩ (.int .i64 a2)).setCell ⟨w.heap.size + 1 + 1, 3, none⟩ (.int .i64 a3) := ⟨_, rfl⟩
  rw [← hV2] at hb3
  have HVn : Hid (V2.heap[w.heap.size]? = some (.cells #[.int .i64 a0, .int .i64 a1, .int .i64 a2, .int .i64 a3, .int .i64 a4, .int .i64 a5, .int .i64 a6, .int .i64 a7] 26) ∧ V2.heap[w.heap.size + 1]? = some (.cells #[.int .i64 0, .int .i64 0, .int .i64 0, .int .i64 0, .int .i64 0, .int .i64 0, .int .i64 0, .int .i64 0] 33) ∧ V2.heap[w.heap.size + 1 + 1]? = some (.cells #[.int .i64 a0, .int .i64 a1, .int .i64 a2, .int .i64 a3, .int .i64 0, .int .i64 0, .int .i64 0, .int .i64 0] 33) ∧ Below w.heap.size w V2) := by
    refine ⟨?_, ?_, ?_, ?_⟩
    · rw [hV2, set2_other (by omega)]; exact HV2.out.1
    · rw [hV2, set2_other (by omega)]; exact HV2.out.2.1
    · rw [hV2]; exact set2_at HV2.out.2.2.1
    · rw [hV2]; have hb := HV2.out.2.2.2; (repeat' (first | (with_reducible exact Below.refl _ _) | (with_reducible assumption) | (with_reducible refine Below.setCell ?_ ?_ _) | (with_reducible refine Below.alloc ?_ ?_ _) | (with_reducible refine below_drewN ?_ _) | (with_reducible refine Below.drew ?_) | (with_reducible exact Nat.le_refl _) | omega | (simp; done) | (simp; omega)))
  have HW3 : Hid (w3.heap[w.heap.size]? = some (.cells #[.int .i64 a0, .int .i64 a1, .int .i64 a2, .int .i64 a3, .int .i64 a4, .int .i64 a5, .int .i64 a6, .int .i64 a7] 26) ∧ w3.heap[w.heap.size + 1]? = some (.cells #[.int .i64 0, .int .i64 0, .int .i64 0, .int .i64 0, .int .i64 0, .int .i64 0, .int .i64 0, .int .i64 0] 33) ∧ w3.heap[w.heap.size + 1 + 1]? = some (.cells #[.int .i64 a0, .int .i64 a1, .int .i64 a2, .int .i64 a3, .int .i64 0, .int .i64 0, .int .i64 0, .int .i64 0] 33) ∧ Below w.heap.size w w3) := ⟨(hb3.block _ (ltOf HVn.out.1)).trans HVn.out.1, (hb3.block _ (ltOf HVn.out.2.1)).trans HVn.out.2.1, (hb3.block _ (ltOf HVn.out.2.2.1)).trans HVn.out.2.2.1, HVn.out.2.2.2.trans (hb3.mono HVn.out.2.2.2.size)⟩
  clear hb3 HV2 HVn hV2 p4 p5 pl q2 q3 f2 f3 ql
  have q4 := cellOf HW3.out.2.2.1 4 rfl
  have q5 := cellOf HW3.out.2.2.1 5 rfl
  have f4 := frozOf HW3.out.2.2.1 4
  have f5 := frozOf HW3.out.2.2.1 5
  have ql := ltOf HW3.out.2.2.1
  have HV3 : Hid (w3.heap[w.heap.size]? = some (.cells #[.int .i64 a0, .int .i64 a1, .int .i64 a2, .int .i64 a3, .int .i64 a4, .int .i64 a5, .int .i64 a6, .int .i64 a7] 26) ∧ w3.heap[w.heap.size + 1]? = some (.cells #[.int .i64 0, .int .i64 0, .int .i64 0, .int .i64 0, .int .i64 0, .int .i64 0, .int .i64 0, .int .i64 0] 33) ∧ w3.heap[w.heap.size + 1 + 1]? = some (.cells #[.int .i64 a0, .int .i64 a1, .int .i64 a2, .int .i64 a3, .int .i64 0, .int .i64 0, .int .i64 0, .int .i64 0] 33) ∧ Below w.heap.size w w3) := HW3.out
  clear HW3
  have p6 := cellOf HV3.out.1 6 rfl
  have p7 := cellOf HV3.out.1 7 rfl
  have pl := ltOf HV3.out.1
  go_wp2_with (fail)
  refine (HT3.out _).mono ?_
  rintro e w4 ⟨rfl, hb4⟩
  obtain ⟨V3, hV3⟩ : ∃ V, V = (w3.setCell ⟨w.heap.size + 1 + 1, 4, none⟩ (.int .i64 a4)).setCell ⟨w.heap.size + 1 + 1, 5, none⟩ (.int .i64 a5) := ⟨_, rfl⟩
  rw [← hV3] at hb4
  have HVn : Hid (V3.heap[w.heap.size]? = some (.cells #[.int .i64 a0, .int .i64 a1, .int .i64 a2, .int .i64 a3, .int .i64 a4, .int .i64 a5, .int .i64 a6, .int .i64 a7] 26) ∧ V3.heap[w.heap.size + 1]? = some (.cells #[.int .i64 0, .int .i64 0, .int .i64 0, .int .i64 0, .int .i64 0, .int .i64 0, .int .i64 0, .int .i64 0] 33) ∧ V3.heap[w.heap.size + 1 + 1]? = some (.cells #[.int .i64 a0, .int .i64 a1, .int .i64 a2, .int .i64 a3, .int .i64 a4, .int .i64 a5, .int .i64 0, .int .i64 0] 33) ∧ Below w.heap.size w V3) := by
    refine ⟨?_, ?_, ?_, ?_⟩
    · rw [hV3, set2_other (by omega)]; exact HV3.out.1
    · rw [hV3, set2_other (by omega)]; exact HV3.out.2.1
    · rw [hV3]; exact set2_at HV3.out.2.2.1
    · rw [hV3]; have hb := HV3.out.2.2.2; (repeat' (first | (with_reducible exact Below.refl _ _) | (with_reducible assumption) | (with_reducible refine Below.setCell ?_ ?_ _) | (with_reducible refine Below.alloc ?_ ?_ _) | (with_reducible refine below_drewN ?_ _) | (with_reducible refine Below.drew ?_) | (with_reducible exact Nat.le_refl _) | omega | (simp; done) | (simp; omega)))
  have HW4 : Hid (w4.heap[w.heap.size]? = some (.cells #[.int .i64 a0, .int .i64 a1, .int .i64 a2, .int .i64 a3, .int .i64 a4, .int .i64 a5, .int .i64 a6, .int .i64 a7] 26) ∧ w4.heap[w.heap.size + 1]? = some (.cells #[.int .i64 0, .int .i64 0, .int .i64 0, .int .i64 0, .int .i64 0, .int .i64 0, .int .i64 0, .int .i64 0] 33) ∧ w4.heap[w.heap.size + 1 + 1]? = some (.cells #[.int .i64 a0, .int .i64 a1, .int .i64 a2, .int .i64 a3, .int .i64 a4, .int .i64 a5, .int .i64 0, .int .i64 0] 33) ∧ Below w.heap.size w w4) := ⟨(hb4.block _ (ltOf HVn.out.1)).trans HVn.out.1, (hb4.block _ (ltOf HVn.out.2.1)).trans HVn.out.2.1, (hb4.block _ (ltOf HVn.out.2.2.1)).trans HVn.out.2.2.1, HVn.out.2.2.2.trans (hb4.mono HVn.out.2.2.2.size)⟩
  clear hb4 HV3 HVn hV3 p6 p7 pl q4 q5 f4 f5 ql
  have q6 := cellOf HW4.out.2.2.1 6 rfl
  have q7 := cellOf HW4.out.2.2.1 7 rfl
  have f6 := frozOf HW4.out.2.2.1 6
  have f7 := frozOf HW4.out.2.2.1 7
  have ql := ltOf HW4.out.2.2.1
  have q0 := cellOf HW4.out.2.2.1 0 rfl
  have q1 := cellOf HW4.out.2.2.1 1 rfl
  have q2 := cellOf HW4.out.2.2.1 2 rfl
  have q3 := cellOf HW4.out.2.2.1 3 rfl
  have q4 := cellOf HW4.out.2.2.1 4 rfl
  have q5 := cellOf HW4.out.2.2.1 5 rfl
  have r0 := cellOf HW4.out.2.1 0 rfl
  have g0 := frozOf HW4.out.2.1 0
  have r1 := cellOf HW4.out.2.1 1 rfl
  have g1 := frozOf HW4.out.2.1 1
  have r2 := cellOf HW4.out.2.1 2 rfl
  have g2 := frozOf HW4.out.2.1 2
  have r3 := cellOf HW4.out.2.1 3 rfl
  have g3 := frozOf HW4.out.2.1 3
  have r4 := cellOf HW4.out.2.1 4 rfl
  have g4 := frozOf HW4.out.2.1 4
  have r5 := cellOf HW4.out.2.1 5 rfl
  have g5 := frozOf HW4.out.2.1 5
  have r6 := cellOf HW4.out.2.1 6 rfl
  have g6 := frozOf HW4.out.2.1 6
  have r7 := cellOf HW4.out.2.1 7 rfl
  have g7 := frozOf HW4.out.2.1 7
  have rl := ltOf HW4.out.2.1
  have HB : Hid (Below w.heap.size w w4) := HW4.out.2.2.2
  clear HW4
  go_wp2
  try simp only [Exit.inBlock, Exit.then]
  refine bodyPost_ret (by simp [results, Try.results10, go_sem, r0, r1, r2, r3, r4, r5, r6, r7, rl]; try rfl) rfl ⟨rfl, ?_⟩
  have hb := HB.out
  (repeat' (first | (with_reducible exact Below.refl _ _) | (with_reducible assumption) | (with_reducible refine Below.setCell ?_ ?_ _) | (with_reducible refine Below.alloc ?_ ?_ _) | (with_reducible refine below_drewN ?_ _) | (with_reducible refine Below.drew ?_) | (with_reducible exact Nat.le_refl _) | omega | (simp; done) | (simp; omega)))

set_option maxRecDepth 100000 in
theorem model_open {H : Type} {enc : TypeId × Value → H} {W : World} {base : Nat} {v : Value} {d : DataW H} {p : List MemPlace}
    (hv : Value.okWide Try.prog W .any base 26 v) (h : DataW.Trod enc Try.prog W 0 (fun _ => true) true 26 v d p) :
    ∃ a0 a1 a2 a3 a4 a5 a6 a7 : Int, v = .agg #[.int .i64 a0, .int .i64 a1, .int .i64 a2, .int .i64 a3, .int .i64 a4, .int .i64 a5, .int .i64 a6, .int .i64 a7] := by
  obtain ⟨cs, rfl, hsz⟩ := okWide_struct Try.underlying26 hv
  have k6 : Try.prog.cellsOf 26 = 8 := by kernel_rfl
  have k1 : Try.prog.cellsOf 2 = 1 := by kernel_rfl
  have k2 : Try.prog.cellsOf 24 = 2 := by kernel_rfl
  rw [k6] at hsz
  obtain ⟨l⟩ := cs
  obtain ⟨c0, c1, c2, c3, c4, c5, c6, c7, rfl⟩ : ∃ c0 c1 c2 c3 c4 c5 c6 c7, l = [c0, c1, c2, c3, c4, c5, c6, c7] := by
    match l, hsz with
    | [c0, c1, c2, c3, c4, c5, c6, c7], _ => exact ⟨c0, c1, c2, c3, c4, c5, c6, c7, rfl⟩
  obtain ⟨fuel, hf⟩ := h
  obtain ⟨y0, y1, y2, y3, n, hx, hl, h0, h1, h2, h3⟩ := trod_struct4 Try.underlying26 hf
  obtain ⟨z0, z0', n0, hx0, hl0, u0, v0⟩ := trod_struct2 Try.underlying24 h0
  obtain ⟨m0, e0, _, _⟩ := DataW.trod_int Try.underlying2 u0
  obtain ⟨m1, e1, _, _⟩ := DataW.trod_int Try.underlying2 v0
  obtain ⟨z1, z1', n1, hx1, hl1, u1, v1⟩ := trod_struct2 Try.underlying24 h1
  obtain ⟨m2, e2, _, _⟩ := DataW.trod_int Try.underlying2 u1
  obtain ⟨m3, e3, _, _⟩ := DataW.trod_int Try.underlying2 v1
  obtain ⟨z2, z2', n2, hx2, hl2, u2, v2⟩ := trod_struct2 Try.underlying24 h2
  obtain ⟨m4, e4, _, _⟩ := DataW.trod_int Try.underlying2 u2
  obtain ⟨m5, e5, _, _⟩ := DataW.trod_int Try.underlying2 v2
  obtain ⟨z3, z3', n3, hx3, hl3, u3, v3⟩ := trod_struct2 Try.underlying24 h3
  obtain ⟨m6, e6, _, _⟩ := DataW.trod_int Try.underlying2 u3
  obtain ⟨m7, e7, _, _⟩ := DataW.trod_int Try.underlying2 v3
  simp [Value.cells, k1, k2] at e0 e1 e2 e3 e4 e5 e6 e7
  subst e0 e1 e2 e3 e4 e5 e6 e7
  exact ⟨m0, m1, m2, m3, m4, m5, m6, m7, rfl⟩

end Go.Proofs.Ytdidmjgilnhncab
