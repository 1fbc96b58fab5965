/- Proved here: the faults of a frame and of a writer, of both: frF, wtF. -/
import Derived.Test.YtmpbcdolikafpaaWtB
import Derived.Test.YtmpbcdolikafpaaBoxF
namespace Go.Proofs.Ytmpbcdolikafpaa
open Go.RowKit
set_option linter.unusedVariables false
set_option linter.unusedSimpArgs false

def frF (f : Bx) : Int := if bfK f = 0 then (if 24 < f.x1 - f.x0 ∨ 24 < f.y1 - f.y0 then 2 else 0) else bfK f
def wtIn (w : Wt) : Prop := (0 ≤ w.o ∧ w.o ≤ 1000) ∧ (0 ≤ w.s ∧ w.s ≤ 1000) ∧ (0 ≤ w.r ∧ w.r ≤ 4)
instance (w : Wt) : Decidable (wtIn w) := by unfold wtIn; infer_instance
def wtF (w : Wt) : Int := if frF w.f = 0 then (if wtIn w then 0 else 3) else frF w.f
theorem bfK_good {b : Bx} (h : bfK b = 0) : b.x0 < b.x1 ∧ b.y0 < b.y1 ∧ -10000 ≤ b.x0 ∧ -10000 ≤ b.y0 ∧ b.x1 ≤ 10000 ∧ b.y1 ≤ 10000 := by
  unfold bfK at h
  split at h
  · cases h
  · split at h
    · cases h
    · omega
theorem frF_good {f : Bx} (h : frF f = 0) : bfK f = 0 ∧ f.x1 - f.x0 ≤ 24 ∧ f.y1 - f.y0 ≤ 24 := by
  unfold frF at h
  by_cases hb : bfK f = 0
  · rw [if_pos hb] at h
    refine ⟨hb, ?_⟩
    split at h
    · cases h
    · omega
  · rw [if_neg hb] at h; exact absurd h hb
theorem wtF_good {w : Wt} (h : wtF w = 0) : frF w.f = 0 ∧ wtIn w := by
  unfold wtF at h
  by_cases hb : frF w.f = 0
  · rw [if_pos hb] at h
    refine ⟨hb, ?_⟩
    by_cases hi : wtIn w
    · exact hi
    · rw [if_neg hi] at h; cases h
  · rw [if_neg hb] at h; exact absurd h hb
theorem wt_four {w : World} {k : Nat} {a b c d : Value} {T : TypeId} (h : w.heap[k]? = some (.cells #[a, b, c, d] T)) :
    w.cell? ⟨k, 0, none⟩ = some a ∧ w.cell? ⟨k, 1, none⟩ = some b ∧ w.cell? ⟨k, 2, none⟩ = some c ∧ w.cell? ⟨k, 3, none⟩ = some d ∧ (∀ i, w.frozen? ⟨k, i, none⟩ = false) ∧ k < w.heap.size := by
  refine ⟨by simp [World.cell?, h], by simp [World.cell?, h], by simp [World.cell?, h], by simp [World.cell?, h], fun i => by simp [World.frozen?, h], ?_⟩
  rcases Nat.lt_or_ge k w.heap.size with h' | h'
  · exact h'
  · rw [Array.getElem?_eq_none h'] at h; cases h

set_option maxHeartbeats 3200000 in
theorem impl_frame (b : Bx) (w : World) :
    Calls Try.prog 58 #[.agg #[.int .i64 b.x0, .int .i64 b.y0, .int .i64 b.x1, .int .i64 b.y1]] w fun e w' => e = .returned (.int .i64 (frF b)) ∧ Below w.heap.size w w' := by
  obtain ⟨C, hC⟩ : ∃ C, C = frF b := ⟨_, rfl⟩
  obtain ⟨y, hy⟩ : ∃ y, y = bfK b := ⟨_, rfl⟩
  rw [← hC]
  have H : Hid (C = frF b ∧ y = bfK b) := ⟨hC, hy⟩
  have HCL : Hid (∀ W, Calls Try.prog 59 #[.agg #[.int .i64 b.x0, .int .i64 b.y0, .int .i64 b.x1, .int .i64 b.y1]] W fun e w' => e = .returned (.int .i64 y) ∧ Below W.heap.size W w') := fun W => by rw [hy]; exact impl_box b W
  clear hC hy
  go_enter Try.func58, Try.ntmps58
  go_wp2_with (fail)
  refine (HCL.out _).mono ?_
  rintro e w1 ⟨rfl, hb1⟩
  have k0 := (hb1.block w.heap.size (by simp)).trans (heap_alloc_new w _)
  obtain ⟨p0, p1, p2, p3, pf, pl⟩ := wt_four k0
  have HB : Hid (Below w.heap.size w w1) := (show Below w.heap.size w _ from by (repeat' (first | (with_reducible exact Below.refl _ _) | (with_reducible assumption) | (with_reducible refine Below.setCell ?_ ?_ _) | (with_reducible refine Below.alloc ?_ ?_ _) | (with_reducible refine below_drewN ?_ _) | (with_reducible refine Below.drew ?_) | (with_reducible exact Nat.le_refl _) | omega | (simp; done) | (simp; omega)))).trans (hb1.mono (by simp))
  clear hb1 k0 HCL
  by_cases hy0 : y = 0
  case neg =>
    have HE : Hid (C = y) := by unfold Hid; rw [H.out.1, frF, ← H.out.2, if_neg hy0]
    go_wp2
    go_returns
    exact ⟨by rw [HE.out]; rfl, HB.out⟩
  have hg := bfK_good (b := b) (by rw [← H.out.2]; exact hy0)
  have HF : Hid (C = if 24 < b.x1 - b.x0 ∨ 24 < b.y1 - b.y0 then 2 else 0) := by unfold Hid; rw [H.out.1, frF, ← H.out.2, if_pos hy0]
  have hw1 : IntKind.i64.wrap (b.x1 - b.x0) = b.x1 - b.x0 := by rw [IntKind.wrap_i64]; omega
  have hw2 : IntKind.i64.wrap (b.y1 - b.y0) = b.y1 - b.y0 := by rw [IntKind.wrap_i64]; omega
  clear hg
  subst hy0
  by_cases q1 : 24 < b.x1 - b.x0
  · have HE : Hid (C = 2) := by unfold Hid; rw [HF.out, if_pos (Or.inl q1)]
    go_wp2
    go_returns
    exact ⟨by rw [HE.out]; rfl, HB.out⟩
  by_cases q2 : 24 < b.y1 - b.y0
  · have HE : Hid (C = 2) := by unfold Hid; rw [HF.out, if_pos (Or.inr q2)]
    go_wp2
    go_returns
    exact ⟨by rw [HE.out]; rfl, HB.out⟩
  have HE : Hid (C = 0) := by unfold Hid; rw [HF.out, if_neg (by omega)]
  go_wp2
  go_returns
  exact ⟨by rw [HE.out]; rfl, HB.out⟩

set_option maxHeartbeats 3200000 in
theorem spec_frame (b : Bx) (w : World) :
    Calls Try.prog 56 #[.agg #[.int .i64 b.x0, .int .i64 b.y0, .int .i64 b.x1, .int .i64 b.y1]] w fun e w' => e = .returned (.int .i64 (frF b)) ∧ Below w.heap.size w w' := by
  obtain ⟨C, hC⟩ : ∃ C, C = frF b := ⟨_, rfl⟩
  obtain ⟨y, hy⟩ : ∃ y, y = bfK b := ⟨_, rfl⟩
  rw [← hC]
  have H : Hid (C = frF b ∧ y = bfK b) := ⟨hC, hy⟩
  have HCL : Hid (∀ W, Calls Try.prog 57 #[.agg #[.int .i64 b.x0, .int .i64 b.y0, .int .i64 b.x1, .int .i64 b.y1]] W fun e w' => e = .returned (.int .i64 y) ∧ Below W.heap.size W w') := fun W => by rw [hy]; exact spec_box b W
  clear hC hy
  go_enter Try.func56, Try.ntmps56
  go_wp2_with (fail)
  refine (HCL.out _).mono ?_
  rintro e w1 ⟨rfl, hb1⟩
  have k0 := (hb1.block w.heap.size (by simp)).trans (heap_alloc_new w _)
  obtain ⟨p0, p1, p2, p3, pf, pl⟩ := wt_four k0
  have HB : Hid (Below w.heap.size w w1) := (show Below w.heap.size w _ from by (repeat' (first | (with_reducible exact Below.refl _ _) | (with_reducible assumption) | (with_reducible refine Below.setCell ?_ ?_ _) | (with_reducible refine Below.alloc ?_ ?_ _) | (with_reducible refine below_drewN ?_ _) | (with_reducible refine Below.drew ?_) | (with_reducible exact Nat.le_refl _) | omega | (simp; done) | (simp; omega)))).trans (hb1.mono (by simp))
  clear hb1 k0 HCL
  by_cases hy0 : y = 0
  case neg =>
    have HE : Hid (C = y) := by unfold Hid; rw [H.out.1, frF, ← H.out.2, if_neg hy0]
    go_wp2
    go_returns
    exact ⟨by rw [HE.out]; rfl, HB.out⟩
  have hg := bfK_good (b := b) (by rw [← H.out.2]; exact hy0)
  have HF : Hid (C = if 24 < b.x1 - b.x0 ∨ 24 < b.y1 - b.y0 then 2 else 0) := by unfold Hid; rw [H.out.1, frF, ← H.out.2, if_pos hy0]
  have hw1 : IntKind.i64.wrap (b.x1 - b.x0) = b.x1 - b.x0 := by rw [IntKind.wrap_i64]; omega
  have hw2 : IntKind.i64.wrap (b.y1 - b.y0) = b.y1 - b.y0 := by rw [IntKind.wrap_i64]; omega
  clear hg
  subst hy0
  by_cases q1 : 24 < b.x1 - b.x0
  · have HE : Hid (C = 2) := by unfold Hid; rw [HF.out, if_pos (Or.inl q1)]
    go_wp2
    go_returns
    exact ⟨by rw [HE.out]; rfl, HB.out⟩
  by_cases q2 : 24 < b.y1 - b.y0
  · have HE : Hid (C = 2) := by unfold Hid; rw [HF.out, if_pos (Or.inr q2)]
    go_wp2
    go_returns
    exact ⟨by rw [HE.out]; rfl, HB.out⟩
  have HE : Hid (C = 0) := by unfold Hid; rw [HF.out, if_neg (by omega)]
  go_wp2
  go_returns
  exact ⟨by rw [HE.out]; rfl, HB.out⟩

set_option maxHeartbeats 3200000 in
theorem impl_writer (x : Wt) (w : World) :
    Calls Try.prog 45 #[.agg #[.int .i64 x.f.x0, .int .i64 x.f.y0, .int .i64 x.f.x1, .int .i64 x.f.y1, .int .i64 x.o, .int .i64 x.s, .int .i64 x.r]] w fun e w' => e = .returned (.int .i64 (wtF x)) ∧ Below w.heap.size w w' := by
  obtain ⟨C, hC⟩ : ∃ C, C = wtF x := ⟨_, rfl⟩
  obtain ⟨y, hy⟩ : ∃ y, y = frF x.f := ⟨_, rfl⟩
  obtain ⟨r0, hr0⟩ : ∃ r, r = decide (0 ≤ x.o ∧ x.o ≤ 1000) := ⟨_, rfl⟩
  obtain ⟨r1, hr1⟩ : ∃ r, r = decide (0 ≤ x.s ∧ x.s ≤ 1000) := ⟨_, rfl⟩
  obtain ⟨r2, hr2⟩ : ∃ r, r = decide (0 ≤ x.r ∧ x.r ≤ 4) := ⟨_, rfl⟩
  rw [← hC]
  have H : Hid (C = wtF x ∧ y = frF x.f ∧ (y = 0 → C = if r0 = true ∧ r1 = true ∧ r2 = true then 0 else 3)) := ⟨hC, hy, fun h => by
    rw [hC, wtF, ← hy, if_pos h, hr0, hr1, hr2]
    simp only [decide_eq_true_eq]
    rfl⟩
  have HCL : Hid (∀ W, Calls Try.prog 58 #[.agg #[.int .i64 x.f.x0, .int .i64 x.f.y0, .int .i64 x.f.x1, .int .i64 x.f.y1]] W fun e w' => e = .returned (.int .i64 y) ∧ Below W.heap.size W w') := fun W => by rw [hy]; exact impl_frame x.f W
  have HI0 : Hid (∀ W, Calls Try.prog 20 #[.int .i64 x.o, .int .i64 0, .int .i64 1000] W fun e w' => e = .returned (.bool r0) ∧ w' = W) := impl_ins x.o 0 1000 r0 hr0
  have HI1 : Hid (∀ W, Calls Try.prog 20 #[.int .i64 x.s, .int .i64 0, .int .i64 1000] W fun e w' => e = .returned (.bool r1) ∧ w' = W) := impl_ins x.s 0 1000 r1 hr1
  have HI2 : Hid (∀ W, Calls Try.prog 20 #[.int .i64 x.r, .int .i64 0, .int .i64 4] W fun e w' => e = .returned (.bool r2) ∧ w' = W) := impl_ins x.r 0 4 r2 hr2
  clear hC hy hr0 hr1 hr2
  go_enter Try.func45, Try.ntmps45
  go_wp2_with (fail)
  refine (HCL.out _).mono ?_
  rintro e w1 ⟨rfl, hb1⟩
  have k0 := (hb1.block w.heap.size (by simp)).trans (heap_alloc_new w _)
  obtain ⟨p0, p1, p2, p3, p4, p5, p6, pf, pl⟩ := wt_seven k0
  have HB : Hid (Below w.heap.size w w1) := (show Below w.heap.size w _ from by (repeat' (first | (with_reducible exact Below.refl _ _) | (with_reducible assumption) | (with_reducible refine Below.setCell ?_ ?_ _) | (with_reducible refine Below.alloc ?_ ?_ _) | (with_reducible refine below_drewN ?_ _) | (with_reducible refine Below.drew ?_) | (with_reducible exact Nat.le_refl _) | omega | (simp; done) | (simp; omega)))).trans (hb1.mono (by simp))
  clear hb1 k0 HCL
  by_cases hy0 : y = 0
  case neg =>
    have HE : Hid (C = y) := by unfold Hid; rw [H.out.1, wtF, ← H.out.2.1, if_neg hy0]
    go_wp2
    go_returns
    exact ⟨by rw [HE.out]; rfl, HB.out⟩
  have HF : Hid (C = if r0 = true ∧ r1 = true ∧ r2 = true then 0 else 3) := H.out.2.2 hy0
  subst hy0
  go_wp2_with (fail)
  refine (HI0.out _).mono ?_
  rintro e w2 ⟨rfl, hw2⟩
  subst w2
  cases r0 with
  | false =>
    have HE : Hid (C = 3) := by unfold Hid; rw [HF.out]; simp
    go_wp2
    go_returns
    exact ⟨by rw [HE.out]; rfl, HB.out⟩
  | true =>
    go_wp2_with (fail)
    refine (HI1.out _).mono ?_
    rintro e w3 ⟨rfl, hw3⟩
    subst w3
    cases r1 with
    | false =>
      have HE : Hid (C = 3) := by unfold Hid; rw [HF.out]; simp
      go_wp2
      go_returns
      exact ⟨by rw [HE.out]; rfl, HB.out⟩
    | true =>
      go_wp2_with (fail)
      refine (HI2.out _).mono ?_
      rintro e w4 ⟨rfl, hw4⟩
      subst w4
      cases r2 with
      | false =>
        have HE : Hid (C = 3) := by unfold Hid; rw [HF.out]; simp
        go_wp2
        go_returns
        exact ⟨by rw [HE.out]; rfl, HB.out⟩
      | true =>
        have HE : Hid (C = 0) := by unfold Hid; rw [HF.out]; simp
        go_wp2
        go_returns
        exact ⟨by rw [HE.out]; rfl, HB.out⟩

set_option maxHeartbeats 3200000 in
theorem spec_writer (x : Wt) (w : World) :
    Calls Try.prog 42 #[.agg #[.int .i64 x.f.x0, .int .i64 x.f.y0, .int .i64 x.f.x1, .int .i64 x.f.y1, .int .i64 x.o, .int .i64 x.s, .int .i64 x.r]] w fun e w' => e = .returned (.int .i64 (wtF x)) ∧ Below w.heap.size w w' := by
  obtain ⟨C, hC⟩ : ∃ C, C = wtF x := ⟨_, rfl⟩
  obtain ⟨y, hy⟩ : ∃ y, y = frF x.f := ⟨_, rfl⟩
  obtain ⟨r0, hr0⟩ : ∃ r, r = decide (0 ≤ x.o ∧ x.o ≤ 1000) := ⟨_, rfl⟩
  obtain ⟨r1, hr1⟩ : ∃ r, r = decide (0 ≤ x.s ∧ x.s ≤ 1000) := ⟨_, rfl⟩
  obtain ⟨r2, hr2⟩ : ∃ r, r = decide (0 ≤ x.r ∧ x.r ≤ 4) := ⟨_, rfl⟩
  rw [← hC]
  have H : Hid (C = wtF x ∧ y = frF x.f ∧ (y = 0 → C = if r0 = true ∧ r1 = true ∧ r2 = true then 0 else 3)) := ⟨hC, hy, fun h => by
    rw [hC, wtF, ← hy, if_pos h, hr0, hr1, hr2]
    simp only [decide_eq_true_eq]
    rfl⟩
  have HCL : Hid (∀ W, Calls Try.prog 56 #[.agg #[.int .i64 x.f.x0, .int .i64 x.f.y0, .int .i64 x.f.x1, .int .i64 x.f.y1]] W fun e w' => e = .returned (.int .i64 y) ∧ Below W.heap.size W w') := fun W => by rw [hy]; exact spec_frame x.f W
  have HI0 : Hid (∀ W, Calls Try.prog 15 #[.int .i64 x.o, .int .i64 0, .int .i64 1000] W fun e w' => e = .returned (.bool r0) ∧ w' = W) := spec_ins x.o 0 1000 r0 hr0
  have HI1 : Hid (∀ W, Calls Try.prog 15 #[.int .i64 x.s, .int .i64 0, .int .i64 1000] W fun e w' => e = .returned (.bool r1) ∧ w' = W) := spec_ins x.s 0 1000 r1 hr1
  have HI2 : Hid (∀ W, Calls Try.prog 15 #[.int .i64 x.r, .int .i64 0, .int .i64 4] W fun e w' => e = .returned (.bool r2) ∧ w' = W) := spec_ins x.r 0 4 r2 hr2
  clear hC hy hr0 hr1 hr2
  go_enter Try.func42, Try.ntmps42
  go_wp2_with (fail)
  refine (HCL.out _).mono ?_
  rintro e w1 ⟨rfl, hb1⟩
  have k0 := (hb1.block w.heap.size (by simp)).trans (heap_alloc_new w _)
  obtain ⟨p0, p1, p2, p3, p4, p5, p6, pf, pl⟩ := wt_seven k0
  have HB : Hid (Below w.heap.size w w1) := (show Below w.heap.size w _ from by (repeat' (first | (with_reducible exact Below.refl _ _) | (with_reducible assumption) | (with_reducible refine Below.setCell ?_ ?_ _) | (with_reducible refine Below.alloc ?_ ?_ _) | (with_reducible refine below_drewN ?_ _) | (with_reducible refine Below.drew ?_) | (with_reducible exact Nat.le_refl _) | omega | (simp; done) | (simp; omega)))).trans (hb1.mono (by simp))
  clear hb1 k0 HCL
  by_cases hy0 : y = 0
  case neg =>
    have HE : Hid (C = y) := by unfold Hid; rw [H.out.1, wtF, ← H.out.2.1, if_neg hy0]
    go_wp2
    go_returns
    exact ⟨by rw [HE.out]; rfl, HB.out⟩
  have HF : Hid (C = if r0 = true ∧ r1 = true ∧ r2 = true then 0 else 3) := H.out.2.2 hy0
  subst hy0
  go_wp2_with (fail)
  refine (HI0.out _).mono ?_
  rintro e w2 ⟨rfl, hw2⟩
  subst w2
  cases r0 with
  | false =>
    have HE : Hid (C = 3) := by unfold Hid; rw [HF.out]; simp
    go_wp2
    go_returns
    exact ⟨by rw [HE.out]; rfl, HB.out⟩
  | true =>
    go_wp2_with (fail)
    refine (HI1.out _).mono ?_
    rintro e w3 ⟨rfl, hw3⟩
    subst w3
    cases r1 with
    | false =>
      have HE : Hid (C = 3) := by unfold Hid; rw [HF.out]; simp
      go_wp2
      go_returns
      exact ⟨by rw [HE.out]; rfl, HB.out⟩
    | true =>
      go_wp2_with (fail)
      refine (HI2.out _).mono ?_
      rintro e w4 ⟨rfl, hw4⟩
      subst w4
      cases r2 with
      | false =>
        have HE : Hid (C = 3) := by unfold Hid; rw [HF.out]; simp
        go_wp2
        go_returns
        exact ⟨by rw [HE.out]; rfl, HB.out⟩
      | true =>
        have HE : Hid (C = 0) := by unfold Hid; rw [HF.out]; simp
        go_wp2
        go_returns
        exact ⟨by rw [HE.out]; rfl, HB.out⟩

end Go.Proofs.Ytmpbcdolikafpaa
