/- Proved here: whole numbers, of the program. (And ahead of it: Proved here: differences of fractions, of the program, as numbers.) (And ahead of it: Proved here: sums and products of fractions, of both, as numbers.) -/
import Derived.Test.YtjacmneopijiaaaFqM
import Derived.Test.YtjacmneopijiaaaAddFrac
import Derived.Test.YtjacmneopijiaaaMulFrac
import Derived.Test.YtjacmneopijiaaaVkM
import Derived.Test.YtjacmneopijiaaaGen
import Derived.Test.YtjacmneopijiaaaTmC
namespace Go.Proofs.Ytjacmneopijiaaa
open Go.RowKit
set_option linter.unusedVariables false
set_option linter.unusedSimpArgs false

theorem spec_adQ (a b : Fr) (w : World) :
    Calls Try.prog 73 #[.agg #[.int .i64 a.n, .int .i64 a.d], .agg #[.int .i64 b.n, .int .i64 b.d]] w fun e w' => e = .returned (.agg #[.int .i64 (adQ a b).c, .int .i64 (adQ a b).n, .int .i64 (adQ a b).d]) ∧ Below w.heap.size w w' := by
  cases h : bothB a.n a.d b.n b.d with
  | false =>
    have e : adQ a b = ⟨1, 0, 0⟩ := by unfold adQ; rw [h]; rfl
    rw [e]; exact spec_ad_no _ _ _ _ w h
  | true =>
    have e : adQ a b = rqQ (a.n * b.d + b.n * a.d) (a.d * b.d) := by unfold adQ; rw [h]; rfl
    rw [e]
    have hi := both_in h
    have m1 := mul_bd (x := a.n) (y := b.d) (by omega) (by omega) (by omega) (by omega)
    have m2 := mul_bd (x := b.n) (y := a.d) (by omega) (by omega) (by omega) (by omega)
    have m3 := mul_bd (x := a.d) (y := b.d) (by omega) (by omega) (by omega) (by omega)
    have m4 := mul_bd (x := a.n) (y := b.n) (by omega) (by omega) (by omega) (by omega)
    have m5 := mul_pos hi.1.1 hi.2.1
    exact spec_ad_yes a.n a.d b.n b.d _ _ _ w h (fun W => spec_low_pos (a.n * b.d + b.n * a.d) (a.d * b.d) W m5 (by omega) (by omega) (by omega))

theorem impl_adQ (a b : Fr) (w : World) :
    Calls Try.prog 76 #[.agg #[.int .i64 a.n, .int .i64 a.d], .agg #[.int .i64 b.n, .int .i64 b.d]] w fun e w' => e = .returned (.agg #[.int .i64 (adQ a b).c, .int .i64 (adQ a b).n, .int .i64 (adQ a b).d]) ∧ Below w.heap.size w w' := by
  cases h : bothB a.n a.d b.n b.d with
  | false =>
    have e : adQ a b = ⟨1, 0, 0⟩ := by unfold adQ; rw [h]; rfl
    rw [e]; exact impl_ad_no _ _ _ _ w h
  | true =>
    have e : adQ a b = rqQ (a.n * b.d + b.n * a.d) (a.d * b.d) := by unfold adQ; rw [h]; rfl
    rw [e]
    have hi := both_in h
    have m1 := mul_bd (x := a.n) (y := b.d) (by omega) (by omega) (by omega) (by omega)
    have m2 := mul_bd (x := b.n) (y := a.d) (by omega) (by omega) (by omega) (by omega)
    have m3 := mul_bd (x := a.d) (y := b.d) (by omega) (by omega) (by omega) (by omega)
    have m4 := mul_bd (x := a.n) (y := b.n) (by omega) (by omega) (by omega) (by omega)
    have m5 := mul_pos hi.1.1 hi.2.1
    exact impl_ad_yes a.n a.d b.n b.d _ _ _ w h (fun W => impl_rq_pos (a.n * b.d + b.n * a.d) (a.d * b.d) W m5 (by omega) (by omega) (by omega))

theorem spec_muQ (a b : Fr) (w : World) :
    Calls Try.prog 70 #[.agg #[.int .i64 a.n, .int .i64 a.d], .agg #[.int .i64 b.n, .int .i64 b.d]] w fun e w' => e = .returned (.agg #[.int .i64 (muQ a b).c, .int .i64 (muQ a b).n, .int .i64 (muQ a b).d]) ∧ Below w.heap.size w w' := by
  cases h : bothB a.n a.d b.n b.d with
  | false =>
    have e : muQ a b = ⟨1, 0, 0⟩ := by unfold muQ; rw [h]; rfl
    rw [e]; exact spec_mu_no _ _ _ _ w h
  | true =>
    have e : muQ a b = rqQ (a.n * b.n) (a.d * b.d) := by unfold muQ; rw [h]; rfl
    rw [e]
    have hi := both_in h
    have m1 := mul_bd (x := a.n) (y := b.d) (by omega) (by omega) (by omega) (by omega)
    have m2 := mul_bd (x := b.n) (y := a.d) (by omega) (by omega) (by omega) (by omega)
    have m3 := mul_bd (x := a.d) (y := b.d) (by omega) (by omega) (by omega) (by omega)
    have m4 := mul_bd (x := a.n) (y := b.n) (by omega) (by omega) (by omega) (by omega)
    have m5 := mul_pos hi.1.1 hi.2.1
    exact spec_mu_yes a.n a.d b.n b.d _ _ _ w h (fun W => spec_low_pos (a.n * b.n) (a.d * b.d) W m5 (by omega) (by omega) (by omega))

theorem impl_muQ (a b : Fr) (w : World) :
    Calls Try.prog 72 #[.agg #[.int .i64 a.n, .int .i64 a.d], .agg #[.int .i64 b.n, .int .i64 b.d]] w fun e w' => e = .returned (.agg #[.int .i64 (muQ a b).c, .int .i64 (muQ a b).n, .int .i64 (muQ a b).d]) ∧ Below w.heap.size w w' := by
  cases h : bothB a.n a.d b.n b.d with
  | false =>
    have e : muQ a b = ⟨1, 0, 0⟩ := by unfold muQ; rw [h]; rfl
    rw [e]; exact impl_mu_no _ _ _ _ w h
  | true =>
    have e : muQ a b = rqQ (a.n * b.n) (a.d * b.d) := by unfold muQ; rw [h]; rfl
    rw [e]
    have hi := both_in h
    have m1 := mul_bd (x := a.n) (y := b.d) (by omega) (by omega) (by omega) (by omega)
    have m2 := mul_bd (x := b.n) (y := a.d) (by omega) (by omega) (by omega) (by omega)
    have m3 := mul_bd (x := a.d) (y := b.d) (by omega) (by omega) (by omega) (by omega)
    have m4 := mul_bd (x := a.n) (y := b.n) (by omega) (by omega) (by omega) (by omega)
    have m5 := mul_pos hi.1.1 hi.2.1
    exact impl_mu_yes a.n a.d b.n b.d _ _ _ w h (fun W => impl_rq_pos (a.n * b.n) (a.d * b.d) W m5 (by omega) (by omega) (by omega))

end Go.Proofs.Ytjacmneopijiaaa

namespace Go.Proofs.Ytjacmneopijiaaa
open Go.RowKit
set_option linter.unusedVariables false
set_option linter.unusedSimpArgs false

set_option maxHeartbeats 800000 in
theorem impl_su_no (a b c d : Int) (w : World) (h : bothB a b c d = false) :
    Calls Try.prog 71 #[.agg #[.int .i64 a, .int .i64 b], .agg #[.int .i64 c, .int .i64 d]] w fun e w' => e = .returned (.agg #[.int .i64 1, .int .i64 0, .int .i64 0]) ∧ Below w.heap.size w w' := by
  go_enter Try.func71, Try.ntmps71
  go_wp2_with (fail)
  refine (impl_both _ _ _ _ _).mono ?_
  rintro e w1 ⟨rfl, hb1⟩
  rw [h]
  have HB : Hid (Below w.heap.size w w1) := Below.trans (by (repeat' (first | (with_reducible exact Below.refl _ _) | (with_reducible assumption) | (with_reducible refine Below.setCell ?_ ?_ _) | (with_reducible refine Below.alloc ?_ ?_ _) | (with_reducible refine below_drewN ?_ _) | (with_reducible refine Below.drew ?_) | (with_reducible exact Nat.le_refl _) | omega | (simp; done) | (simp; omega)))) (hb1.mono (by simp; omega))
  obtain ⟨hc1, hf1⟩ := bcell hb1
  have hz : w.heap.size + 1 < w1.heap.size := by have := hb1.size; simp at this; omega
  clear hb1 h
  go_wp2
  refine bodyPost_ret (by simp [results, Try.results71, go_sem, hc1]) rfl ⟨rfl, ?_⟩
  clear hc1 hf1
  have hB := HB.out
  (repeat' (first | (with_reducible exact Below.refl _ _) | (with_reducible assumption) | (with_reducible refine Below.setCell ?_ ?_ _) | (with_reducible refine Below.alloc ?_ ?_ _) | (with_reducible refine below_drewN ?_ _) | (with_reducible refine Below.drew ?_) | (with_reducible exact Nat.le_refl _) | omega | (simp; done) | (simp; omega)))

set_option maxHeartbeats 1600000 in
theorem impl_su_yes (a b c d C X Y : Int) (w : World) (h : bothB a b c d = true) 
    (hq : Hid (∀ w, Calls Try.prog 78 #[.int .i64 (a * d - c * b), .int .i64 (b * d)] w fun e w' => e = .returned (.agg #[.int .i64 C, .int .i64 X, .int .i64 Y]) ∧ Below w.heap.size w w')) :
    Calls Try.prog 71 #[.agg #[.int .i64 a, .int .i64 b], .agg #[.int .i64 c, .int .i64 d]] w fun e w' => e = .returned (.agg #[.int .i64 C, .int .i64 X, .int .i64 Y]) ∧ Below w.heap.size w w' := by
  have hi := both_in h
  have m1 := mul_bd (x := a) (y := d) (by omega) (by omega) (by omega) (by omega)
  have m2 := mul_bd (x := c) (y := b) (by omega) (by omega) (by omega) (by omega)
  have m3 := mul_bd (x := b) (y := d) (by omega) (by omega) (by omega) (by omega)
  have m4 := mul_bd (x := a) (y := c) (by omega) (by omega) (by omega) (by omega)
  have m5 := mul_bd (x := b) (y := c) (by omega) (by omega) (by omega) (by omega)
  have hz : w.heap.size < w.heap.size + 1 + 1 + 1 := by omega
  have hz' : w.heap.size + 1 < w.heap.size + 1 + 1 + 1 := by omega
  clear hi
  go_enter Try.func71, Try.ntmps71
  go_wp2_with (fail)
  refine (impl_both _ _ _ _ _).mono ?_
  rintro e w1 ⟨rfl, hb1⟩
  rw [h]
  have HB : Hid (Below w.heap.size w w1) := Below.trans (by (repeat' (first | (with_reducible exact Below.refl _ _) | (with_reducible assumption) | (with_reducible refine Below.setCell ?_ ?_ _) | (with_reducible refine Below.alloc ?_ ?_ _) | (with_reducible refine below_drewN ?_ _) | (with_reducible refine Below.drew ?_) | (with_reducible exact Nat.le_refl _) | omega | (simp; done) | (simp; omega)))) (hb1.mono (by simp; omega))
  have hz1 : w.heap.size + 1 + 1 < w1.heap.size := by have := hb1.size; simp at this; omega
  obtain ⟨hc1, hf1⟩ := bcell hb1
  clear hb1 h
  go_wp2_with (fail)
  refine (hq.out _).mono ?_
  rintro e w2 ⟨rfl, hb2⟩
  have HB2 : Hid (Below w.heap.size w w2) := HB.out.trans (hb2.mono HB.out.size)
  obtain ⟨hc2, hf2⟩ := bcell hb2
  clear hb2 m1 m2 m3 m4 m5
  go_wp2
  refine bodyPost_ret (by simp [results, Try.results71, go_sem, hc1, hc2, hz1]) rfl ⟨rfl, ?_⟩
  clear hc1 hf1 hc2 hf2
  have hB := HB2.out
  (repeat' (first | (with_reducible exact Below.refl _ _) | (with_reducible assumption) | (with_reducible refine Below.setCell ?_ ?_ _) | (with_reducible refine Below.alloc ?_ ?_ _) | (with_reducible refine below_drewN ?_ _) | (with_reducible refine Below.drew ?_) | (with_reducible exact Nat.le_refl _) | omega | (simp; done) | (simp; omega)))

theorem impl_suQ (a b : Fr) (w : World) :
    Calls Try.prog 71 #[.agg #[.int .i64 a.n, .int .i64 a.d], .agg #[.int .i64 b.n, .int .i64 b.d]] w fun e w' => e = .returned (.agg #[.int .i64 (suQ a b).c, .int .i64 (suQ a b).n, .int .i64 (suQ a b).d]) ∧ Below w.heap.size w w' := by
  cases h : bothB a.n a.d b.n b.d with
  | false =>
    have e : suQ a b = ⟨1, 0, 0⟩ := by unfold suQ; rw [h]; rfl
    rw [e]; exact impl_su_no _ _ _ _ w h
  | true =>
    have e : suQ a b = rqQ (a.n * b.d - b.n * a.d) (a.d * b.d) := by unfold suQ; rw [h]; rfl
    rw [e]
    have hi := both_in h
    have m1 := mul_bd (x := a.n) (y := b.d) (by omega) (by omega) (by omega) (by omega)
    have m2 := mul_bd (x := b.n) (y := a.d) (by omega) (by omega) (by omega) (by omega)
    have m3 := mul_bd (x := a.d) (y := b.d) (by omega) (by omega) (by omega) (by omega)
    have m4 := mul_bd (x := a.n) (y := b.n) (by omega) (by omega) (by omega) (by omega)
    have m5 := mul_pos hi.1.1 hi.2.1
    exact impl_su_yes a.n a.d b.n b.d _ _ _ w h (fun W => impl_rq_pos (a.n * b.d - b.n * a.d) (a.d * b.d) W m5 (by omega) (by omega) (by omega))

end Go.Proofs.Ytjacmneopijiaaa

namespace Go.Proofs.Ytjacmneopijiaaa
open Go.RowKit
set_option linter.unusedVariables false
set_option linter.unusedSimpArgs false

set_option maxHeartbeats 800000 in
theorem impl_whole (n : Int) (w : World) : Calls Try.prog 61 #[.int .i64 n] w fun e w' => e = .returned (.agg #[.int .i64 (whole n).n, .int .i64 (whole n).d]) ∧ Below w.heap.size w w' := by
  show Calls _ _ _ _ fun e w' => e = .returned (.agg #[.int .i64 n, .int .i64 1]) ∧ Below w.heap.size w w'
  go_enter Try.func61, Try.ntmps61
  go_wp2
  go_returns
  exact ⟨rfl, by (repeat' (first | (with_reducible exact Below.refl _ _) | (with_reducible assumption) | (with_reducible refine Below.setCell ?_ ?_ _) | (with_reducible refine Below.alloc ?_ ?_ _) | (with_reducible refine below_drewN ?_ _) | (with_reducible refine Below.drew ?_) | (with_reducible exact Nat.le_refl _) | omega | (simp; done) | (simp; omega)))⟩

end Go.Proofs.Ytjacmneopijiaaa
