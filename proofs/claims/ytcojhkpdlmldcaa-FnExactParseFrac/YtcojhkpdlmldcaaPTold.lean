/- Proved here: the model's answers of ParseFrac: a fault at a place, and a number that was read. -/
import Derived.Test.YtcojhkpdlmldcaaLow
import Derived.Test.YtcojhkpdlmldcaaPText
namespace Go.Proofs.Ytcojhkpdlmldcaa
open Go.RowKit
set_option linter.unusedVariables false
set_option linter.unusedSimpArgs false

set_option maxHeartbeats 400000 in
theorem spec_textFault (c p : Int) (w : World) (h : -9223372036854775808 ≤ p ∧ p ≤ 9223372036854775807) :
    Calls Try.prog 7 #[.int .i64 c, .int .i64 p] w fun e w' => e = .returned (.agg #[.int .i64 c, .int .i64 p, .int .i64 0, .int .i64 0]) ∧ Below w.heap.size w w' := by
  go_enter Try.func7, Try.ntmps7
  go_wp2
  go_returns
  exact ⟨rfl, by (repeat' (first | (with_reducible exact Below.refl _ _) | (with_reducible assumption) | (with_reducible refine Below.setCell ?_ ?_ _) | (with_reducible refine Below.alloc ?_ ?_ _) | (with_reducible refine below_drewN ?_ _) | (with_reducible refine Below.drew ?_) | (with_reducible exact Nat.le_refl _) | omega | (simp; done) | (simp; omega)))⟩

set_option maxHeartbeats 400000 in
theorem spec_told (n d : Int) (w : World) (hd : 1 ≤ d) (hd' : d ≤ 4000000000000000000) (h1 : -4000000000000000000 ≤ n) (h2 : n ≤ 4000000000000000000) :
    Calls Try.prog 10 #[.int .i64 n, .int .i64 d] w fun e w' => e = .returned (.agg #[.int .i64 (rqC n d), .int .i64 0, .int .i64 (rqN n d), .int .i64 (rqD n d)]) ∧ Below w.heap.size w w' := by
  have hlow := fun w => spec_low_pos n d w hd hd' h1 h2
  generalize rqC n d = c at *
  generalize rqN n d = a at *
  generalize rqD n d = b at *
  go_enter Try.func10, Try.ntmps10
  go_wp2_with (fail)
  refine (hlow _).mono ?_
  rintro e w1 ⟨rfl, hb1⟩
  obtain ⟨hc1, hf1⟩ := bcell hb1
  have hl1 : w.heap.size < w1.heap.size := by have := hb1.size; simp at this; omega
  have hB1 : Hid (Below w.heap.size w w1) := ((Below.refl _ _).alloc (Nat.le_refl _) _).trans (hb1.mono (by simp))
  go_wp2
  have hz1 : w.heap.size < w.heap.size + 1 := by omega
  have hne : w.heap.size ≠ w1.heap.size := by omega
  refine bodyPost_ret (by simp [results, Try.results10, go_sem, hc1, hz1, hl1, hne]) rfl ⟨rfl, ?_⟩
  have hB : Below w.heap.size w w1 := hB1.out
  clear hc1 hf1 hb1 hB1
  (repeat' (first | (with_reducible exact Below.refl _ _) | (with_reducible assumption) | (with_reducible refine Below.setCell ?_ ?_ _) | (with_reducible refine Below.alloc ?_ ?_ _) | (with_reducible refine below_drewN ?_ _) | (with_reducible refine Below.drew ?_) | (with_reducible exact Nat.le_refl _) | omega | (simp; done) | (simp; omega)))

end Go.Proofs.Ytcojhkpdlmldcaa
