/- Proved here: how the laws' package marks a profile: its cells alone. -/
import Derived.Test.YtfjfogiohijkkabMkI
import Derived.Test.YtfjfogiohijkkabPfB
namespace Go.Proofs.Ytfjfogiohijkkab
open Go.RowKit
set_option linter.unusedVariables false
set_option linter.unusedSimpArgs false

set_option maxHeartbeats 1600000 in
theorem markProfile_to (L : Int) {w : World} {B Z n c : Nat} {a : Option Addr} {ys : List Value} (z : Int) (hn : n ≤ 1048576) (hz0 : 0 ≤ z) (hz1 : z ≤ 1000000000000) (h : w.ownsRow B 2 1 (.slice a n c) n ys) (hZ : ∀ g, (Value.slice a n c).ownBlock = some g → g < Z) :
    Calls Try.prog 14 #[.agg #[.slice a n c, .int .i64 L], .int .i64 z] w fun e w' => e = .returned (.int .i64 (z + (n : Int))) ∧ w'.ownsRow B 2 1 (.slice a n c) n (mkV z (n)) ∧ Chg B Z w w' := by
  have H : Hid (w.ownsRow B 2 1 (.slice a n c) n ys ∧ (∀ g, (Value.slice a n c).ownBlock = some g → g < Z)) := ⟨h, hZ⟩
  clear h hZ
  obtain ⟨T, hT⟩ : ∃ T, T = z + (n : Int) := ⟨_, rfl⟩
  rw [← hT]
  have HT : Hid (T = z + (n : Int)) := hT
  clear hT
  go_enter Try.func14, Try.ntmps14
  go_wp2_with (fail)
  refine (markInt64S_to z hn hz0 hz1 (ownsRow_keep H.out.1 fun g hg => Below.heap_alloc _ _ _ (World.ownsRow.lt H.out.1 g hg).2) H.out.2).mono ?_
  rintro e w1 ⟨rfl, hi, hc⟩
  have HC : Hid (w1.ownsRow B 2 1 (.slice a n c) n (mkV z (n)) ∧ Chg B Z w w1) :=
    ⟨hi, (Chg.of_below (show Below w.heap.size w (w.alloc (.cells #[.slice a n c, .int .i64 L] 29)) from by (repeat' (first | (with_reducible exact Below.refl _ _) | (with_reducible assumption) | (with_reducible refine Below.setCell ?_ ?_ _) | (with_reducible refine Below.alloc ?_ ?_ _) | (with_reducible refine below_drewN ?_ _) | (with_reducible refine Below.drew ?_) | (with_reducible exact Nat.le_refl _) | omega | (simp; done) | (simp; omega))))).trans hc⟩
  clear hi hc
  rw [← HT.out]
  go_wp2
  go_returns
  exact ⟨rfl, HC.out.1, HC.out.2⟩

set_option maxHeartbeats 1600000 in
theorem heldProfile_to (L : Int) {w : World} {B n : Nat} {v : Value} (z : Int) (hn : n ≤ 1048576) (hz0 : 0 ≤ z) (hz1 : z ≤ 1000000000000) (h : w.ownsRow B 2 1 v n (mkV z (n))) :
    Calls Try.prog 31 #[.agg #[v, .int .i64 L], .int .i64 z] w fun e w' => e = .returned (.int .i64 (z + (n : Int))) ∧ Below w.heap.size w w' := by
  obtain ⟨a, c, rfl⟩ : ∃ a c, v = .slice a n c := by
    rcases h.2 with ⟨rfl, rfl⟩ | ⟨g, cap, cur, rfl, _⟩
    · exact ⟨_, _, rfl⟩
    · exact ⟨_, _, rfl⟩
  have H : Hid (w.ownsRow B 2 1 (.slice a n c) n (mkV z (n))) := h
  clear h
  obtain ⟨T, hT⟩ : ∃ T, T = z + (n : Int) := ⟨_, rfl⟩
  have hT0 : ¬ T < 0 := by omega
  have HT : Hid (T = z + (n : Int)) := hT
  rw [← hT]
  clear hT
  go_enter Try.func31, Try.ntmps31
  go_wp2_with (fail)
  refine (heldInt64S_to z hn hz0 hz1 (ownsRow_keep H.out fun g hg => Below.heap_alloc _ _ _ (World.ownsRow.lt H.out g hg).2)).mono ?_
  rintro e w1 ⟨rfl, rfl⟩
  rw [← HT.out]
  go_wp2
  go_returns
  exact ⟨rfl, by (repeat' (first | (with_reducible exact Below.refl _ _) | (with_reducible assumption) | (with_reducible refine Below.setCell ?_ ?_ _) | (with_reducible refine Below.alloc ?_ ?_ _) | (with_reducible refine below_drewN ?_ _) | (with_reducible refine Below.drew ?_) | (with_reducible exact Nat.le_refl _) | omega | (simp; done) | (simp; omega)))⟩

end Go.Proofs.Ytfjfogiohijkkab
