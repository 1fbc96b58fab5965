/- Proved here: quotients of fractions, of both, as numbers. (And ahead of it: Proved here: the program's and the model's DivFrac answer the same three numbers, at every two fractions.) -/
import Derived.Test.YtjacmneopijiaaaSFault
import Derived.Test.YtjacmneopijiaaaFqM
namespace Go.Proofs.Ytjacmneopijiaaa
open Go.ChangeShapes Go.WideShapes Go.ChangeAt Go.RowKit
set_option linter.unusedVariables false

set_option maxHeartbeats 800000 in
theorem spec_di_no (a b c d : Int) (w : World) (h : bothB a b c d = false) :
    Calls Try.prog 57 #[.agg #[.int .i64 a, .int .i64 b], .agg #[.int .i64 c, .int .i64 d]] w fun e w' => e = .returned (.agg #[.int .i64 1, .int .i64 0, .int .i64 0]) ∧ Below w.heap.size w w' := by
  go_enter Try.func57, Try.ntmps57
  go_wp2_with (fail)
  refine (spec_both _ _ _ _ _).mono ?_
  rintro e w1 ⟨rfl, hb1⟩
  rw [h]
  have HB : Hid (Below w.heap.size w w1) := Below.trans (by (repeat' (first | (with_reducible exact Below.refl _ _) | (with_reducible assumption) | (with_reducible refine Below.setCell ?_ ?_ _) | (with_reducible refine Below.alloc ?_ ?_ _) | (with_reducible refine below_drewN ?_ _) | (with_reducible refine Below.drew ?_) | (with_reducible exact Nat.le_refl _) | omega | (simp; done) | (simp; omega)))) (hb1.mono (by simp; omega))
  obtain ⟨hc1, hf1⟩ := bcell hb1
  have hz : w.heap.size + 1 < w1.heap.size := by have := hb1.size; simp at this; omega
  clear hb1 h
  go_wp2
  refine bodyPost_ret (by simp [results, Try.results57, go_sem, hc1]) rfl ⟨rfl, ?_⟩
  clear hc1 hf1
  have hB := HB.out
  (repeat' (first | (with_reducible exact Below.refl _ _) | (with_reducible assumption) | (with_reducible refine Below.setCell ?_ ?_ _) | (with_reducible refine Below.alloc ?_ ?_ _) | (with_reducible refine below_drewN ?_ _) | (with_reducible refine Below.drew ?_) | (with_reducible exact Nat.le_refl _) | omega | (simp; done) | (simp; omega)))

set_option maxHeartbeats 1600000 in
theorem spec_di_yes (a b c d C X Y : Int) (w : World) (h : bothB a b c d = true) (hc : Hid (¬ c = 0))
    (hq : Hid (∀ w, Calls Try.prog 75 #[.int .i64 (a * d), .int .i64 (b * c)] w fun e w' => e = .returned (.agg #[.int .i64 C, .int .i64 X, .int .i64 Y]) ∧ Below w.heap.size w w')) :
    Calls Try.prog 57 #[.agg #[.int .i64 a, .int .i64 b], .agg #[.int .i64 c, .int .i64 d]] w fun e w' => e = .returned (.agg #[.int .i64 C, .int .i64 X, .int .i64 Y]) ∧ Below w.heap.size w w' := by
  have hi := both_in h
  have m1 := mul_bd (x := a) (y := d) (by omega) (by omega) (by omega) (by omega)
  have m2 := mul_bd (x := c) (y := b) (by omega) (by omega) (by omega) (by omega)
  have m3 := mul_bd (x := b) (y := d) (by omega) (by omega) (by omega) (by omega)
  have m4 := mul_bd (x := a) (y := c) (by omega) (by omega) (by omega) (by omega)
  have m5 := mul_bd (x := b) (y := c) (by omega) (by omega) (by omega) (by omega)
  have hz : w.heap.size < w.heap.size + 1 + 1 + 1 := by omega
  have hz' : w.heap.size + 1 < w.heap.size + 1 + 1 + 1 := by omega
  clear hi
  have hcb : (c == 0) = false := by simpa using hc.out
  go_enter Try.func57, Try.ntmps57
  go_wp2_with (fail)
  refine (spec_both _ _ _ _ _).mono ?_
  rintro e w1 ⟨rfl, hb1⟩
  rw [h]
  have HB : Hid (Below w.heap.size w w1) := Below.trans (by (repeat' (first | (with_reducible exact Below.refl _ _) | (with_reducible assumption) | (with_reducible refine Below.setCell ?_ ?_ _) | (with_reducible refine Below.alloc ?_ ?_ _) | (with_reducible refine below_drewN ?_ _) | (with_reducible refine Below.drew ?_) | (with_reducible exact Nat.le_refl _) | omega | (simp; done) | (simp; omega)))) (hb1.mono (by simp; omega))
  have hz1 : w.heap.size + 1 + 1 < w1.heap.size := by have := hb1.size; simp at this; omega
  obtain ⟨hc1, hf1⟩ := bcell hb1
  clear hb1 h
  go_wp2_with (fail)
  refine (hq.out _).mono ?_
  rintro e w2 ⟨rfl, hb2⟩
  have HB2 : Hid (Below w.heap.size w w2) := HB.out.trans (hb2.mono HB.out.size)
  obtain ⟨hc2, hf2⟩ := bcell hb2
  clear hb2 m1 m2 m3 m4 m5
  go_wp2
  refine bodyPost_ret (by simp [results, Try.results57, go_sem, hc1, hc2, hz1]) rfl ⟨rfl, ?_⟩
  clear hc1 hf1 hc2 hf2
  have hB := HB2.out
  (repeat' (first | (with_reducible exact Below.refl _ _) | (with_reducible assumption) | (with_reducible refine Below.setCell ?_ ?_ _) | (with_reducible refine Below.alloc ?_ ?_ _) | (with_reducible refine below_drewN ?_ _) | (with_reducible refine Below.drew ?_) | (with_reducible exact Nat.le_refl _) | omega | (simp; done) | (simp; omega)))

set_option maxHeartbeats 800000 in
theorem impl_di_no (a b c d : Int) (w : World) (h : bothB a b c d = false) :
    Calls Try.prog 62 #[.agg #[.int .i64 a, .int .i64 b], .agg #[.int .i64 c, .int .i64 d]] w fun e w' => e = .returned (.agg #[.int .i64 1, .int .i64 0, .int .i64 0]) ∧ Below w.heap.size w w' := by
  go_enter Try.func62, Try.ntmps62
  go_wp2_with (fail)
  refine (impl_both _ _ _ _ _).mono ?_
  rintro e w1 ⟨rfl, hb1⟩
  rw [h]
  have HB : Hid (Below w.heap.size w w1) := Below.trans (by (repeat' (first | (with_reducible exact Below.refl _ _) | (with_reducible assumption) | (with_reducible refine Below.setCell ?_ ?_ _) | (with_reducible refine Below.alloc ?_ ?_ _) | (with_reducible refine below_drewN ?_ _) | (with_reducible refine Below.drew ?_) | (with_reducible exact Nat.le_refl _) | omega | (simp; done) | (simp; omega)))) (hb1.mono (by simp; omega))
  obtain ⟨hc1, hf1⟩ := bcell hb1
  have hz : w.heap.size + 1 < w1.heap.size := by have := hb1.size; simp at this; omega
  clear hb1 h
  go_wp2
  refine bodyPost_ret (by simp [results, Try.results62, go_sem, hc1]) rfl ⟨rfl, ?_⟩
  clear hc1 hf1
  have hB := HB.out
  (repeat' (first | (with_reducible exact Below.refl _ _) | (with_reducible assumption) | (with_reducible refine Below.setCell ?_ ?_ _) | (with_reducible refine Below.alloc ?_ ?_ _) | (with_reducible refine below_drewN ?_ _) | (with_reducible refine Below.drew ?_) | (with_reducible exact Nat.le_refl _) | omega | (simp; done) | (simp; omega)))

set_option maxHeartbeats 1600000 in
theorem impl_di_yes (a b c d C X Y : Int) (w : World) (h : bothB a b c d = true) (hc : Hid (¬ c = 0))
    (hq : Hid (∀ w, Calls Try.prog 78 #[.int .i64 (a * d), .int .i64 (b * c)] w fun e w' => e = .returned (.agg #[.int .i64 C, .int .i64 X, .int .i64 Y]) ∧ Below w.heap.size w w')) :
    Calls Try.prog 62 #[.agg #[.int .i64 a, .int .i64 b], .agg #[.int .i64 c, .int .i64 d]] w fun e w' => e = .returned (.agg #[.int .i64 C, .int .i64 X, .int .i64 Y]) ∧ Below w.heap.size w w' := by
  have hi := both_in h
  have m1 := mul_bd (x := a) (y := d) (by omega) (by omega) (by omega) (by omega)
  have m2 := mul_bd (x := c) (y := b) (by omega) (by omega) (by omega) (by omega)
  have m3 := mul_bd (x := b) (y := d) (by omega) (by omega) (by omega) (by omega)
  have m4 := mul_bd (x := a) (y := c) (by omega) (by omega) (by omega) (by omega)
  have m5 := mul_bd (x := b) (y := c) (by omega) (by omega) (by omega) (by omega)
  have hz : w.heap.size < w.heap.size + 1 + 1 + 1 := by omega
  have hz' : w.heap.size + 1 < w.heap.size + 1 + 1 + 1 := by omega
  clear hi
  have hg := frac_guard
  have hn := frac_eql_f c d 0 1 (by unfold same2; simp [hc.out])
  go_enter Try.func62, Try.ntmps62
  go_wp2_with (fail)
  refine (impl_both _ _ _ _ _).mono ?_
  rintro e w1 ⟨rfl, hb1⟩
  rw [h]
  have HB : Hid (Below w.heap.size w w1) := Below.trans (by (repeat' (first | (with_reducible exact Below.refl _ _) | (with_reducible assumption) | (with_reducible refine Below.setCell ?_ ?_ _) | (with_reducible refine Below.alloc ?_ ?_ _) | (with_reducible refine below_drewN ?_ _) | (with_reducible refine Below.drew ?_) | (with_reducible exact Nat.le_refl _) | omega | (simp; done) | (simp; omega)))) (hb1.mono (by simp; omega))
  have hz1 : w.heap.size + 1 + 1 < w1.heap.size := by have := hb1.size; simp at this; omega
  obtain ⟨hc1, hf1⟩ := bcell hb1
  clear hb1 h
  go_wp2_with (fail)
  refine (hq.out _).mono ?_
  rintro e w2 ⟨rfl, hb2⟩
  have HB2 : Hid (Below w.heap.size w w2) := HB.out.trans (hb2.mono HB.out.size)
  obtain ⟨hc2, hf2⟩ := bcell hb2
  clear hb2 m1 m2 m3 m4 m5
  go_wp2
  refine bodyPost_ret (by simp [results, Try.results62, go_sem, hc1, hc2, hz1]) rfl ⟨rfl, ?_⟩
  clear hc1 hf1 hc2 hf2
  have hB := HB2.out
  (repeat' (first | (with_reducible exact Below.refl _ _) | (with_reducible assumption) | (with_reducible refine Below.setCell ?_ ?_ _) | (with_reducible refine Below.alloc ?_ ?_ _) | (with_reducible refine below_drewN ?_ _) | (with_reducible refine Below.drew ?_) | (with_reducible exact Nat.le_refl _) | omega | (simp; done) | (simp; omega)))

set_option maxHeartbeats 800000 in
theorem spec_di_zero (a b c d : Int) (w : World) (h : bothB a b c d = true) (hc : Hid (c = 0)) :
    Calls Try.prog 57 #[.agg #[.int .i64 a, .int .i64 b], .agg #[.int .i64 c, .int .i64 d]] w fun e w' => e = .returned (.agg #[.int .i64 6, .int .i64 0, .int .i64 0]) ∧ Below w.heap.size w w' := by
  have hcb : (c == 0) = true := by rw [hc.out]; rfl
  have hz' : w.heap.size + 1 < w.heap.size + 1 + 1 + 1 := by omega
  go_enter Try.func57, Try.ntmps57
  go_wp2_with (fail)
  refine (spec_both _ _ _ _ _).mono ?_
  rintro e w1 ⟨rfl, hb1⟩
  rw [h]
  have HB : Hid (Below w.heap.size w w1) := Below.trans (by (repeat' (first | (with_reducible exact Below.refl _ _) | (with_reducible assumption) | (with_reducible refine Below.setCell ?_ ?_ _) | (with_reducible refine Below.alloc ?_ ?_ _) | (with_reducible refine below_drewN ?_ _) | (with_reducible refine Below.drew ?_) | (with_reducible exact Nat.le_refl _) | omega | (simp; done) | (simp; omega)))) (hb1.mono (by simp; omega))
  obtain ⟨hc1, hf1⟩ := bcell hb1
  clear hb1 h
  go_wp2
  refine bodyPost_ret (by simp [results, Try.results57, go_sem, hc1]) rfl ⟨rfl, ?_⟩
  clear hc1 hf1
  have hB := HB.out
  (repeat' (first | (with_reducible exact Below.refl _ _) | (with_reducible assumption) | (with_reducible refine Below.setCell ?_ ?_ _) | (with_reducible refine Below.alloc ?_ ?_ _) | (with_reducible refine below_drewN ?_ _) | (with_reducible refine Below.drew ?_) | (with_reducible exact Nat.le_refl _) | omega | (simp; done) | (simp; omega)))

set_option maxHeartbeats 800000 in
theorem impl_di_zero (a b c d : Int) (w : World) (h : bothB a b c d = true) (hc : Hid (same2 c d 0 1 = true)) :
    Calls Try.prog 62 #[.agg #[.int .i64 a, .int .i64 b], .agg #[.int .i64 c, .int .i64 d]] w fun e w' => e = .returned (.agg #[.int .i64 6, .int .i64 0, .int .i64 0]) ∧ Below w.heap.size w w' := by
  have hg := frac_guard
  have hn := frac_eql_t c d 0 1 hc.out
  have hz' : w.heap.size + 1 < w.heap.size + 1 + 1 + 1 := by omega
  go_enter Try.func62, Try.ntmps62
  go_wp2_with (fail)
  refine (impl_both _ _ _ _ _).mono ?_
  rintro e w1 ⟨rfl, hb1⟩
  rw [h]
  have HB : Hid (Below w.heap.size w w1) := Below.trans (by (repeat' (first | (with_reducible exact Below.refl _ _) | (with_reducible assumption) | (with_reducible refine Below.setCell ?_ ?_ _) | (with_reducible refine Below.alloc ?_ ?_ _) | (with_reducible refine below_drewN ?_ _) | (with_reducible refine Below.drew ?_) | (with_reducible exact Nat.le_refl _) | omega | (simp; done) | (simp; omega)))) (hb1.mono (by simp; omega))
  obtain ⟨hc1, hf1⟩ := bcell hb1
  clear hb1 h
  go_wp2
  refine bodyPost_ret (by simp [results, Try.results62, go_sem, hc1]) rfl ⟨rfl, ?_⟩
  clear hc1 hf1
  have hB := HB.out
  (repeat' (first | (with_reducible exact Below.refl _ _) | (with_reducible assumption) | (with_reducible refine Below.setCell ?_ ?_ _) | (with_reducible refine Below.alloc ?_ ?_ _) | (with_reducible refine below_drewN ?_ _) | (with_reducible refine Below.drew ?_) | (with_reducible exact Nat.le_refl _) | omega | (simp; done) | (simp; omega)))

theorem di_both (a b c d : Int) : Both3 57 62 #[.agg #[.int .i64 a, .int .i64 b], .agg #[.int .i64 c, .int .i64 d]] := by
  cases h : bothB a b c d with
  | false => exact ⟨1, 0, 0, fun w => spec_di_no a b c d w h, fun w => impl_di_no a b c d w h⟩
  | true =>
    have hi := both_in h
    by_cases hc : c = 0
    · have hs : same2 c d 0 1 = true := by
        have h2 : okF c d = true := by unfold bothB at h; rw [Bool.and_eq_true] at h; exact h.2
        have hg := (okF_in h2).2
        subst hc
        have : d = 1 := by
          have e : Int.gcd 0 d = d.natAbs := by simp
          rw [e] at hg
          omega
        subst this
        rfl
      exact ⟨6, 0, 0, fun w => spec_di_zero a b c d w h hc, fun w => impl_di_zero a b c d w h hs⟩
    · have m1 := mul_bd (x := a) (y := d) (by omega) (by omega) (by omega) (by omega)
      have m5 := mul_bd (x := b) (y := c) (by omega) (by omega) (by omega) (by omega)
      have hq : Both3 75 78 #[.int .i64 (a * d), .int .i64 (b * c)] := by
        by_cases hp : 1 ≤ c
        · exact rq_pos _ _ (mul_pos hi.1.1 hp) (by omega) (by omega) (by omega)
        · have := mul_pos (x := b) (y := -c) hi.1.1 (by omega)
          rw [Int.mul_neg] at this
          exact rq_neg _ _ (by omega) (by omega) (by omega) (by omega)
      obtain ⟨C, X, Y, hs, hi'⟩ := hq
      exact ⟨C, X, Y, fun w => spec_di_yes a b c d C X Y w h hc hs, fun w => impl_di_yes a b c d C X Y w h hc hi'⟩

end Go.Proofs.Ytjacmneopijiaaa

namespace Go.Proofs.Ytjacmneopijiaaa
open Go.RowKit
set_option linter.unusedVariables false
set_option linter.unusedSimpArgs false

theorem spec_diQ (a b : Fr) (w : World) :
    Calls Try.prog 57 #[.agg #[.int .i64 a.n, .int .i64 a.d], .agg #[.int .i64 b.n, .int .i64 b.d]] w fun e w' => e = .returned (.agg #[.int .i64 (diQ a b).c, .int .i64 (diQ a b).n, .int .i64 (diQ a b).d]) ∧ Below w.heap.size w w' := by
  cases h : bothB a.n a.d b.n b.d with
  | false =>
    have e : diQ a b = ⟨1, 0, 0⟩ := by unfold diQ; rw [h]; rfl
    rw [e]; exact spec_di_no _ _ _ _ w h
  | true =>
    have hi := both_in h
    have m1 := mul_bd (x := a.n) (y := b.d) (by omega) (by omega) (by omega) (by omega)
    have m5 := mul_bd (x := a.d) (y := b.n) (by omega) (by omega) (by omega) (by omega)
    by_cases h0 : b.n = 0
    · have hs : same2 b.n b.d 0 1 = true := by
        have h2 : okF b.n b.d = true := by unfold bothB at h; rw [Bool.and_eq_true] at h; exact h.2
        have hg := (okF_in h2).2
        rw [h0] at hg ⊢
        have e : Int.gcd 0 b.d = b.d.natAbs := by simp
        rw [e] at hg
        have : b.d = 1 := by omega
        rw [this]; rfl
      have e : diQ a b = ⟨6, 0, 0⟩ := by unfold diQ; rw [h, if_pos rfl, if_pos h0]
      rw [e]; exact spec_di_zero _ _ _ _ w h h0
    · by_cases hp : 1 ≤ b.n
      · have e : diQ a b = rqQ (a.n * b.d) (a.d * b.n) := by unfold diQ; rw [h, if_pos rfl, if_neg h0, if_pos hp]
        rw [e]
        exact spec_di_yes a.n a.d b.n b.d _ _ _ w h h0 (fun W => spec_low_pos _ _ W (mul_pos hi.1.1 hp) (by omega) (by omega) (by omega))
      · have e : diQ a b = rqQ (-(a.n * b.d)) (-(a.d * b.n)) := by unfold diQ; rw [h, if_pos rfl, if_neg h0, if_neg hp]
        have hm := mul_pos (x := a.d) (y := -b.n) hi.1.1 (by omega)
        rw [Int.mul_neg] at hm
        rw [e]
        exact spec_di_yes a.n a.d b.n b.d _ _ _ w h h0 (fun W => spec_low_neg _ _ W (by omega) (by omega) (by omega) (by omega))

theorem impl_diQ (a b : Fr) (w : World) :
    Calls Try.prog 62 #[.agg #[.int .i64 a.n, .int .i64 a.d], .agg #[.int .i64 b.n, .int .i64 b.d]] w fun e w' => e = .returned (.agg #[.int .i64 (diQ a b).c, .int .i64 (diQ a b).n, .int .i64 (diQ a b).d]) ∧ Below w.heap.size w w' := by
  cases h : bothB a.n a.d b.n b.d with
  | false =>
    have e : diQ a b = ⟨1, 0, 0⟩ := by unfold diQ; rw [h]; rfl
    rw [e]; exact impl_di_no _ _ _ _ w h
  | true =>
    have hi := both_in h
    have m1 := mul_bd (x := a.n) (y := b.d) (by omega) (by omega) (by omega) (by omega)
    have m5 := mul_bd (x := a.d) (y := b.n) (by omega) (by omega) (by omega) (by omega)
    by_cases h0 : b.n = 0
    · have hs : same2 b.n b.d 0 1 = true := by
        have h2 : okF b.n b.d = true := by unfold bothB at h; rw [Bool.and_eq_true] at h; exact h.2
        have hg := (okF_in h2).2
        rw [h0] at hg ⊢
        have e : Int.gcd 0 b.d = b.d.natAbs := by simp
        rw [e] at hg
        have : b.d = 1 := by omega
        rw [this]; rfl
      have e : diQ a b = ⟨6, 0, 0⟩ := by unfold diQ; rw [h, if_pos rfl, if_pos h0]
      rw [e]; exact impl_di_zero _ _ _ _ w h hs
    · by_cases hp : 1 ≤ b.n
      · have e : diQ a b = rqQ (a.n * b.d) (a.d * b.n) := by unfold diQ; rw [h, if_pos rfl, if_neg h0, if_pos hp]
        rw [e]
        exact impl_di_yes a.n a.d b.n b.d _ _ _ w h h0 (fun W => impl_rq_pos _ _ W (mul_pos hi.1.1 hp) (by omega) (by omega) (by omega))
      · have e : diQ a b = rqQ (-(a.n * b.d)) (-(a.d * b.n)) := by unfold diQ; rw [h, if_pos rfl, if_neg h0, if_neg hp]
        have hm := mul_pos (x := a.d) (y := -b.n) hi.1.1 (by omega)
        rw [Int.mul_neg] at hm
        rw [e]
        exact impl_di_yes a.n a.d b.n b.d _ _ _ w h h0 (fun W => impl_rq_neg _ _ W (by omega) (by omega) (by omega) (by omega))

end Go.Proofs.Ytjacmneopijiaaa
