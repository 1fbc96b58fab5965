/- Proved here: how the laws' package marks a message: its bytes alone. -/
import Derived.Test.YtejpjbihdclngaaByK
import Derived.Test.YtejpjbihdclngaaLwS
namespace Go.Proofs.Ytejpjbihdclngaa
open Go.RowKit
set_option linter.unusedVariables false
set_option linter.unusedSimpArgs false

set_option maxHeartbeats 1600000 in
theorem markMessage_to (A E C : Int) {w : World} {B Z n c : Nat} {a : Option Addr} {ys : List Value} (z : Int) (hn : n ≤ 1048576) (hz0 : 0 ≤ z) (hz1 : z ≤ 1000000000000) (h : w.ownsRow B 5 1 (.slice a n c) n ys) (hZ : ∀ g, (Value.slice a n c).ownBlock = some g → g < Z) :
    Calls Try.prog 22 #[.agg #[.int .i64 A, .int .i64 E, .int .i64 C, .slice a n c], .int .i64 z] w fun e w' => e = .returned (.int .i64 (z + (n : Int))) ∧ w'.ownsRow B 5 1 (.slice a n c) n (mkB z (n)) ∧ Chg B Z w w' := by
  have H : Hid (w.ownsRow B 5 1 (.slice a n c) n ys ∧ (∀ g, (Value.slice a n c).ownBlock = some g → g < Z)) := ⟨h, hZ⟩
  clear h hZ
  obtain ⟨T, hT⟩ : ∃ T, T = z + (n : Int) := ⟨_, rfl⟩
  rw [← hT]
  have HT : Hid (T = z + (n : Int)) := hT
  clear hT
  go_enter Try.func22, Try.ntmps22
  go_wp2_with (fail)
  refine (markByteS_to z hn hz0 hz1 (ownsRow_keep H.out.1 fun g hg => Below.heap_alloc _ _ _ (World.ownsRow.lt H.out.1 g hg).2) H.out.2).mono ?_
  rintro e w1 ⟨rfl, hi, hc⟩
  have HC : Hid (w1.ownsRow B 5 1 (.slice a n c) n (mkB z (n)) ∧ Chg B Z w w1) :=
    ⟨hi, (Chg.of_below (show Below w.heap.size w (w.alloc (.cells #[.int .i64 A, .int .i64 E, .int .i64 C, .slice a n c] 36)) from by (repeat' (first | (with_reducible exact Below.refl _ _) | (with_reducible assumption) | (with_reducible refine Below.setCell ?_ ?_ _) | (with_reducible refine Below.alloc ?_ ?_ _) | (with_reducible refine below_drewN ?_ _) | (with_reducible refine Below.drew ?_) | (with_reducible exact Nat.le_refl _) | omega | (simp; done) | (simp; omega))))).trans hc⟩
  clear hi hc
  rw [← HT.out]
  go_wp2
  go_returns
  exact ⟨rfl, HC.out.1, HC.out.2⟩

end Go.Proofs.Ytejpjbihdclngaa
