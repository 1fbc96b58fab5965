/- Proved here: how the laws' package marks a pupil: its list of parts alone. -/
import Derived.Test.YtgaabcgdfbgchaaPuB
import Derived.Test.YtgaabcgdfbgchaaIntM
import Derived.Test.YtgaabcgdfbgchaaChg
namespace Go.Proofs.Ytgaabcgdfbgchaa
open Go.RowKit
set_option linter.unusedVariables false
set_option linter.unusedSimpArgs false

/-- A list of the law's own: its memory lies from lo on, below hi. -/
structure LO (lo hi : Nat) (v : Value) (X : List Int) (V : World) : Prop where
  is : IS V lo v X
  hi : ∀ g, v.ownBlock = some g → g < hi
theorem LO.next {lo hi : Nat} {v : Value} {X : List Int} {V V' : World} (h : LO lo hi v X V) (hb : Below V.heap.size V V') : LO lo hi v X V' := ⟨h.is.bel hb, h.hi⟩
theorem LO.chg {lo hi A C : Nat} {v : Value} {X : List Int} {V V' : World} (h : LO lo hi v X V) (hc : Chg A C V V') (hd : hi ≤ A ∨ C ≤ lo) : LO lo hi v X V' :=
  ⟨h.is.kept fun q hq => hc.block q (IS.lt h.is q hq).2 (by have := (IS.lt h.is q hq).1; have := h.hi q hq; omega), h.hi⟩

set_option maxHeartbeats 1600000 in
theorem markPu (C F k : Int) {w : World} {B Z : Nat} {a : Option Addr} {n c : Nat} {s : List Int} (hn : n ≤ 1048576) (hk0 : 0 ≤ k) (hk1 : k ≤ 1125899906842624) (h : LO B Z (.slice a n c) s w) :
    Calls Try.prog 27 #[.agg #[.int .i64 C, .int .i64 F, .slice a n c], .int .i64 k] w fun e w' => e = .returned (.int .i64 (k + (n : Int))) ∧ LO B Z (.slice a n c) (marks k n) w' ∧ Chg B Z w w' := by
  have hl : n = s.length := h.is.rg.len
  have H : Hid (LO B Z (.slice a n c) s w ∧ n = s.length) := ⟨h, hl⟩
  clear h hl
  go_enter Try.func27, Try.ntmps27
  go_wp2_with (fail)
  refine (markI (xs := s) k (by have := H.out.2; omega) hk0 hk1 (H.out.1.is.bel (by (repeat' (first | (with_reducible exact Below.refl _ _) | (with_reducible assumption) | (with_reducible refine Below.setCell ?_ ?_ _) | (with_reducible refine Below.alloc ?_ ?_ _) | (with_reducible refine below_drewN ?_ _) | (with_reducible refine Below.drew ?_) | (with_reducible exact Nat.le_refl _) | omega | (simp; done) | (simp; omega)))))).mono ?_
  rintro e w1 ⟨rfl, hi, gx, hBx, hgx, hox⟩
  rw [← H.out.2] at hi ⊢
  have HC : Hid (LO B Z (.slice a n c) (marks k n) w1 ∧ Chg B Z w w1) := by
    refine ⟨⟨hi, H.out.1.hi⟩, (Chg.of_below (show Below w.heap.size w (w.alloc (.cells #[.int .i64 C, .int .i64 F, .slice a n c] 45)) from by (repeat' (first | (with_reducible exact Below.refl _ _) | (with_reducible assumption) | (with_reducible refine Below.setCell ?_ ?_ _) | (with_reducible refine Below.alloc ?_ ?_ _) | (with_reducible refine below_drewN ?_ _) | (with_reducible refine Below.drew ?_) | (with_reducible exact Nat.le_refl _) | omega | (simp; done) | (simp; omega))))).trans ?_⟩
    rcases hgx with h2 | h2
    · exact Chg.only hox hBx (H.out.1.hi gx h2)
    · rw [h2]; exact Chg.refl _ _ _
  clear hi hBx hgx hox
  go_wp2
  go_returns
  exact ⟨rfl, HC.out.1, HC.out.2⟩

end Go.Proofs.Ytgaabcgdfbgchaa
