/- Proved here: the program's and the model's AddFrac answer the same three numbers, at every two fractions. (And ahead of it: Proved here: a result of three cells that is stored.) -/
import Derived.Test.YtjacmneopijiaaaVkM
import Derived.Test.YtjacmneopijiaaaFqM
namespace Go.Proofs.Ytjacmneopijiaaa
open Go.RowKit
set_option linter.unusedVariables false
set_option linter.unusedSimpArgs false

theorem vset3 {w : World} {k : Nat} {a b c a' b' c' : Value} {T : TypeId} (h : w.heap[k]? = some (.cells #[a, b, c] T)) : (((w.setCell ⟨k, 0, none⟩ a').setCell ⟨k, 1, none⟩ b').setCell ⟨k, 2, none⟩ c').heap[k]? = some (.cells #[a', b', c'] T) := by
  have h1 := heap_setCell_same w k 0 _ _ a' h
  have h2 := heap_setCell_same _ k 1 _ _ b' h1
  have h3 := heap_setCell_same _ k 2 _ _ c' h2
  simpa using h3
theorem vset3_other {w : World} {k j : Nat} {a' b' c' : Value} (h : j ≠ k) : (((w.setCell ⟨k, 0, none⟩ a').setCell ⟨k, 1, none⟩ b').setCell ⟨k, 2, none⟩ c').heap[j]? = w.heap[j]? := by
  rw [heap_setCell_other _ _ _ _ (by simpa using h), heap_setCell_other _ _ _ _ (by simpa using h), heap_setCell_other _ _ _ _ (by simpa using h)]
theorem set3e {w : World} {k : Nat} {a b c a' b' c' : Value} {T : TypeId} (h : w.heap[k]? = some (.cells #[a, b, c] T)) :
    (w.setCell ⟨k, 0, none⟩ a').cell? ⟨k, 0, none⟩ = some a' ∧ ((w.setCell ⟨k, 0, none⟩ a').setCell ⟨k, 1, none⟩ b').cell? ⟨k, 0, none⟩ = some a' ∧ ((w.setCell ⟨k, 0, none⟩ a').setCell ⟨k, 1, none⟩ b').cell? ⟨k, 1, none⟩ = some b' ∧
    (((w.setCell ⟨k, 0, none⟩ a').setCell ⟨k, 1, none⟩ b').setCell ⟨k, 2, none⟩ c').cell? ⟨k, 0, none⟩ = some a' ∧ (((w.setCell ⟨k, 0, none⟩ a').setCell ⟨k, 1, none⟩ b').setCell ⟨k, 2, none⟩ c').cell? ⟨k, 1, none⟩ = some b' ∧ (((w.setCell ⟨k, 0, none⟩ a').setCell ⟨k, 1, none⟩ b').setCell ⟨k, 2, none⟩ c').cell? ⟨k, 2, none⟩ = some c' := by
  have h1 := heap_setCell_same w k 0 _ _ a' h
  have h2 := heap_setCell_same _ k 1 _ _ b' h1
  have h3 := heap_setCell_same _ k 2 _ _ c' h2
  refine ⟨?_, ?_, ?_, ?_, ?_, ?_⟩
  · simp [World.cell?, h1]
  · simp [World.cell?, h2]
  · simp [World.cell?, h2]
  · simp [World.cell?, h3]
  · simp [World.cell?, h3]
  · simp [World.cell?, h3]
theorem set3b {w : World} {k : Nat} {a' b' c' : Value} {B : Nat} {w0 : World} (h : Below B w0 w) (hk : B ≤ k) : Below B w0 (((w.setCell ⟨k, 0, none⟩ a').setCell ⟨k, 1, none⟩ b').setCell ⟨k, 2, none⟩ c') :=
  ((h.setCell hk _).setCell hk _).setCell hk _

end Go.Proofs.Ytjacmneopijiaaa

namespace Go.Proofs.Ytjacmneopijiaaa
open Go.ChangeShapes Go.WideShapes Go.ChangeAt Go.RowKit
set_option linter.unusedVariables false

set_option maxHeartbeats 800000 in
theorem spec_ad_no (a b c d : Int) (w : World) (h : bothB a b c d = false) :
    Calls Try.prog 73 #[.agg #[.int .i64 a, .int .i64 b], .agg #[.int .i64 c, .int .i64 d]] w fun e w' => e = .returned (.agg #[.int .i64 1, .int .i64 0, .int .i64 0]) ∧ Below w.heap.size w w' := by
  go_enter Try.func73, Try.ntmps73
  go_wp2_with (fail)
  refine (spec_both _ _ _ _ _).mono ?_
  rintro e w1 ⟨rfl, hb1⟩
  rw [h]
  have HB : Hid (Below w.heap.size w w1) := Below.trans (by (repeat' (first | (with_reducible exact Below.refl _ _) | (with_reducible assumption) | (with_reducible refine Below.setCell ?_ ?_ _) | (with_reducible refine Below.alloc ?_ ?_ _) | (with_reducible refine below_drewN ?_ _) | (with_reducible refine Below.drew ?_) | (with_reducible exact Nat.le_refl _) | omega | (simp; done) | (simp; omega)))) (hb1.mono (by simp; omega))
  obtain ⟨hc1, hf1⟩ := bcell hb1
  have hz : w.heap.size + 1 < w1.heap.size := by have := hb1.size; simp at this; omega
  clear hb1 h
  go_wp2
  refine bodyPost_ret (by simp [results, Try.results73, go_sem, hc1]) rfl ⟨rfl, ?_⟩
  clear hc1 hf1
  have hB := HB.out
  (repeat' (first | (with_reducible exact Below.refl _ _) | (with_reducible assumption) | (with_reducible refine Below.setCell ?_ ?_ _) | (with_reducible refine Below.alloc ?_ ?_ _) | (with_reducible refine below_drewN ?_ _) | (with_reducible refine Below.drew ?_) | (with_reducible exact Nat.le_refl _) | omega | (simp; done) | (simp; omega)))

set_option maxHeartbeats 1600000 in
theorem spec_ad_yes (a b c d C X Y : Int) (w : World) (h : bothB a b c d = true) 
    (hq : Hid (∀ w, Calls Try.prog 75 #[.int .i64 (a * d + c * b), .int .i64 (b * d)] w fun e w' => e = .returned (.agg #[.int .i64 C, .int .i64 X, .int .i64 Y]) ∧ Below w.heap.size w w')) :
    Calls Try.prog 73 #[.agg #[.int .i64 a, .int .i64 b], .agg #[.int .i64 c, .int .i64 d]] w fun e w' => e = .returned (.agg #[.int .i64 C, .int .i64 X, .int .i64 Y]) ∧ Below w.heap.size w w' := by
  have hi := both_in h
  have m1 := mul_bd (x := a) (y := d) (by omega) (by omega) (by omega) (by omega)
  have m2 := mul_bd (x := c) (y := b) (by omega) (by omega) (by omega) (by omega)
  have m3 := mul_bd (x := b) (y := d) (by omega) (by omega) (by omega) (by omega)
  have m4 := mul_bd (x := a) (y := c) (by omega) (by omega) (by omega) (by omega)
  have m5 := mul_bd (x := b) (y := c) (by omega) (by omega) (by omega) (by omega)
  have hz : w.heap.size < w.heap.size + 1 + 1 + 1 := by omega
  have hz' : w.heap.size + 1 < w.heap.size + 1 + 1 + 1 := by omega
  clear hi
  go_enter Try.func73, Try.ntmps73
  go_wp2_with (fail)
  refine (spec_both _ _ _ _ _).mono ?_
  rintro e w1 ⟨rfl, hb1⟩
  rw [h]
  have HB : Hid (Below w.heap.size w w1) := Below.trans (by (repeat' (first | (with_reducible exact Below.refl _ _) | (with_reducible assumption) | (with_reducible refine Below.setCell ?_ ?_ _) | (with_reducible refine Below.alloc ?_ ?_ _) | (with_reducible refine below_drewN ?_ _) | (with_reducible refine Below.drew ?_) | (with_reducible exact Nat.le_refl _) | omega | (simp; done) | (simp; omega)))) (hb1.mono (by simp; omega))
  have hz1 : w.heap.size + 1 + 1 < w1.heap.size := by have := hb1.size; simp at this; omega
  obtain ⟨hc1, hf1⟩ := bcell hb1
  clear hb1 h
  go_wp2_with (fail)
  refine (hq.out _).mono ?_
  rintro e w2 ⟨rfl, hb2⟩
  have HB2 : Hid (Below w.heap.size w w2) := HB.out.trans (hb2.mono HB.out.size)
  obtain ⟨hc2, hf2⟩ := bcell hb2
  clear hb2 m1 m2 m3 m4 m5
  go_wp2
  refine bodyPost_ret (by simp [results, Try.results73, go_sem, hc1, hc2, hz1]) rfl ⟨rfl, ?_⟩
  clear hc1 hf1 hc2 hf2
  have hB := HB2.out
  (repeat' (first | (with_reducible exact Below.refl _ _) | (with_reducible assumption) | (with_reducible refine Below.setCell ?_ ?_ _) | (with_reducible refine Below.alloc ?_ ?_ _) | (with_reducible refine below_drewN ?_ _) | (with_reducible refine Below.drew ?_) | (with_reducible exact Nat.le_refl _) | omega | (simp; done) | (simp; omega)))

set_option maxHeartbeats 800000 in
theorem impl_ad_no (a b c d : Int) (w : World) (h : bothB a b c d = false) :
    Calls Try.prog 76 #[.agg #[.int .i64 a, .int .i64 b], .agg #[.int .i64 c, .int .i64 d]] w fun e w' => e = .returned (.agg #[.int .i64 1, .int .i64 0, .int .i64 0]) ∧ Below w.heap.size w w' := by
  go_enter Try.func76, Try.ntmps76
  go_wp2_with (fail)
  refine (impl_both _ _ _ _ _).mono ?_
  rintro e w1 ⟨rfl, hb1⟩
  rw [h]
  have HB : Hid (Below w.heap.size w w1) := Below.trans (by (repeat' (first | (with_reducible exact Below.refl _ _) | (with_reducible assumption) | (with_reducible refine Below.setCell ?_ ?_ _) | (with_reducible refine Below.alloc ?_ ?_ _) | (with_reducible refine below_drewN ?_ _) | (with_reducible refine Below.drew ?_) | (with_reducible exact Nat.le_refl _) | omega | (simp; done) | (simp; omega)))) (hb1.mono (by simp; omega))
  obtain ⟨hc1, hf1⟩ := bcell hb1
  have hz : w.heap.size + 1 < w1.heap.size := by have := hb1.size; simp at this; omega
  clear hb1 h
  go_wp2
  refine bodyPost_ret (by simp [results, Try.results76, go_sem, hc1]) rfl ⟨rfl, ?_⟩
  clear hc1 hf1
  have hB := HB.out
  (repeat' (first | (with_reducible exact Below.refl _ _) | (with_reducible assumption) | (with_reducible refine Below.setCell ?_ ?_ _) | (with_reducible refine Below.alloc ?_ ?_ _) | (with_reducible refine below_drewN ?_ _) | (with_reducible refine Below.drew ?_) | (with_reducible exact Nat.le_refl _) | omega | (simp; done) | (simp; omega)))

set_option maxHeartbeats 1600000 in
theorem impl_ad_yes (a b c d C X Y : Int) (w : World) (h : bothB a b c d = true) 
    (hq : Hid (∀ w, Calls Try.prog 78 #[.int .i64 (a * d + c * b), .int .i64 (b * d)] w fun e w' => e = .returned (.agg #[.int .i64 C, .int .i64 X, .int .i64 Y]) ∧ Below w.heap.size w w')) :
    Calls Try.prog 76 #[.agg #[.int .i64 a, .int .i64 b], .agg #[.int .i64 c, .int .i64 d]] w fun e w' => e = .returned (.agg #[.int .i64 C, .int .i64 X, .int .i64 Y]) ∧ Below w.heap.size w w' := by
  have hi := both_in h
  have m1 := mul_bd (x := a) (y := d) (by omega) (by omega) (by omega) (by omega)
  have m2 := mul_bd (x := c) (y := b) (by omega) (by omega) (by omega) (by omega)
  have m3 := mul_bd (x := b) (y := d) (by omega) (by omega) (by omega) (by omega)
  have m4 := mul_bd (x := a) (y := c) (by omega) (by omega) (by omega) (by omega)
  have m5 := mul_bd (x := b) (y := c) (by omega) (by omega) (by omega) (by omega)
  have hz : w.heap.size < w.heap.size + 1 + 1 + 1 := by omega
  have hz' : w.heap.size + 1 < w.heap.size + 1 + 1 + 1 := by omega
  clear hi
  go_enter Try.func76, Try.ntmps76
  go_wp2_with (fail)
  refine (impl_both _ _ _ _ _).mono ?_
  rintro e w1 ⟨rfl, hb1⟩
  rw [h]
  have HB : Hid (Below w.heap.size w w1) := Below.trans (by (repeat' (first | (with_reducible exact Below.refl _ _) | (with_reducible assumption) | (with_reducible refine Below.setCell ?_ ?_ _) | (with_reducible refine Below.alloc ?_ ?_ _) | (with_reducible refine below_drewN ?_ _) | (with_reducible refine Below.drew ?_) | (with_reducible exact Nat.le_refl _) | omega | (simp; done) | (simp; omega)))) (hb1.mono (by simp; omega))
  have hz1 : w.heap.size + 1 + 1 < w1.heap.size := by have := hb1.size; simp at this; omega
  obtain ⟨hc1, hf1⟩ := bcell hb1
  clear hb1 h
  go_wp2_with (fail)
  refine (hq.out _).mono ?_
  rintro e w2 ⟨rfl, hb2⟩
  have HB2 : Hid (Below w.heap.size w w2) := HB.out.trans (hb2.mono HB.out.size)
  obtain ⟨hc2, hf2⟩ := bcell hb2
  clear hb2 m1 m2 m3 m4 m5
  go_wp2
  refine bodyPost_ret (by simp [results, Try.results76, go_sem, hc1, hc2, hz1]) rfl ⟨rfl, ?_⟩
  clear hc1 hf1 hc2 hf2
  have hB := HB2.out
  (repeat' (first | (with_reducible exact Below.refl _ _) | (with_reducible assumption) | (with_reducible refine Below.setCell ?_ ?_ _) | (with_reducible refine Below.alloc ?_ ?_ _) | (with_reducible refine below_drewN ?_ _) | (with_reducible refine Below.drew ?_) | (with_reducible exact Nat.le_refl _) | omega | (simp; done) | (simp; omega)))

theorem ad_both (a b c d : Int) : Both3 73 76 #[.agg #[.int .i64 a, .int .i64 b], .agg #[.int .i64 c, .int .i64 d]] := by
  cases h : bothB a b c d with
  | false => exact ⟨1, 0, 0, fun w => spec_ad_no a b c d w h, fun w => impl_ad_no a b c d w h⟩
  | true =>
    have hi := both_in h
    have m1 := mul_bd (x := a) (y := d) (by omega) (by omega) (by omega) (by omega)
    have m2 := mul_bd (x := c) (y := b) (by omega) (by omega) (by omega) (by omega)
    have m3 := mul_bd (x := b) (y := d) (by omega) (by omega) (by omega) (by omega)
    have m4 := mul_bd (x := a) (y := c) (by omega) (by omega) (by omega) (by omega)
    have m5 := mul_pos hi.1.1 hi.2.1
    obtain ⟨C, X, Y, hs, hi'⟩ := rq_pos (a * d + c * b) (b * d) m5 (by omega) (by omega) (by omega)
    exact ⟨C, X, Y, fun w => spec_ad_yes a b c d C X Y w h hs, fun w => impl_ad_yes a b c d C X Y w h hi'⟩

end Go.Proofs.Ytjacmneopijiaaa
