/- Proved here: how the laws' package compares and marks an answer that is a code and a list of numbers; the state of a law with owned lists (LZ). -/
import Derived.Test.YtcjednfcfobblaaNlI
import Derived.Test.YtcjednfcfobblaaInts
import Derived.Test.YtcjednfcfobblaaChg
namespace Go.Proofs.Ytcjednfcfobblaa
open Go.ChangeShapes Go.WideShapes Go.ChangeAt Go.RowKit Go.Joins
set_option linter.unusedVariables false
set_option linter.unusedSimpArgs false

theorem blk_at {V : World} {k : Nat} {o : Obj} (h : V.heap[k]? = some o) : k < V.heap.size := by
  rcases Nat.lt_or_ge k V.heap.size with h' | h'
  · exact h'
  · rw [Array.getElem?_eq_none h'] at h; cases h
/-- A list of the law's own: its memory lies from lo on, below hi. -/
structure LO (lo hi : Nat) (v : Value) (X : List Int) (V : World) : Prop where
  is : IS V lo v X
  hi : ∀ g, v.ownBlock = some g → g < hi
theorem LO.next {lo hi : Nat} {v : Value} {X : List Int} {V V' : World} (h : LO lo hi v X V) (hb : Below V.heap.size V V') : LO lo hi v X V' := ⟨h.is.bel hb, h.hi⟩
theorem LO.chg {lo hi A C : Nat} {v : Value} {X : List Int} {V V' : World} (h : LO lo hi v X V) (hc : Chg A C V V') (hd : hi ≤ A ∨ C ≤ lo) : LO lo hi v X V' :=
  ⟨h.is.kept fun q hq => hc.block q (IS.lt h.is q hq).2 (by have := (IS.lt h.is q hq).1; have := h.hi q hq; omega), h.hi⟩
/-- Where the law stands: variables that lie as they were. -/
structure LV (w : World) (l : List (Nat × Obj)) (V : World) : Prop where
  bl : Below w.heap.size w V
  at_ : ∀ p ∈ l, V.heap[p.1]? = some p.2
theorem LV.next {w : World} {l : List (Nat × Obj)} {V V' : World} (h : LV w l V) (hb : Below V.heap.size V V') : LV w l V' :=
  ⟨h.bl.trans (hb.mono h.bl.size), fun p hp => (hb.block _ (blk_at (h.at_ p hp))).trans (h.at_ p hp)⟩
theorem LV.chg {w : World} {l : List (Nat × Obj)} {A C : Nat} {V V' : World} (h : LV w l V) (hc : Chg A C V V') (hw : w.heap.size ≤ A) (hl : ∀ p ∈ l, p.1 < A ∨ C ≤ p.1) : LV w l V' :=
  ⟨h.bl.trans (hc.below hw h.bl.size), fun p hp => (hc.block _ (blk_at (h.at_ p hp)) (hl p hp)).trans (h.at_ p hp)⟩
theorem LV.cons {w : World} {l : List (Nat × Obj)} {V : World} {b : Nat} {o : Obj} (h : LV w l V) (ho : V.heap[b]? = some o) : LV w ((b, o) :: l) V :=
  ⟨h.bl, fun p hp => by rcases List.mem_cons.1 hp with rfl | hp; exact ho; exact h.at_ p hp⟩

set_option maxHeartbeats 1600000 in
theorem eqIR (C : Int) {w : World} {va vb : Value} {s : List Int} (hn : s.length ≤ 1099511627776) (ha : RdI w va s) (hb : RdI w vb s) :
    Calls Try.prog 29 #[.agg #[.int .i64 C, va], .agg #[.int .i64 C, vb]] w fun e w' => e = .returned (.bool true) ∧ Below w.heap.size w w' := by
  obtain ⟨a1, c1', rfl⟩ := ha.form
  obtain ⟨a2, c2', rfl⟩ := hb.form
  obtain ⟨n, hnn⟩ : ∃ n, n = s.length := ⟨_, rfl⟩
  rw [← hnn] at ha hb ⊢
  have H : Hid (RdI w (.slice a1 n c1') s ∧ RdI w (.slice a2 n c2') s ∧ s.length ≤ 1099511627776) := ⟨ha, hb, hn⟩
  clear ha hb hn hnn
  go_enter Try.func29, Try.ntmps29
  go_wp2_with (fail)
  refine (eqInt64S_same H.out.2.2 (H.out.1.below (by (repeat' (first | (with_reducible exact Below.refl _ _) | (with_reducible assumption) | (with_reducible refine Below.setCell ?_ ?_ _) | (with_reducible refine Below.alloc ?_ ?_ _) | (with_reducible refine below_drewN ?_ _) | (with_reducible refine Below.drew ?_) | (with_reducible exact Nat.le_refl _) | omega | (simp; done) | (simp; omega))))) (H.out.2.1.below (by (repeat' (first | (with_reducible exact Below.refl _ _) | (with_reducible assumption) | (with_reducible refine Below.setCell ?_ ?_ _) | (with_reducible refine Below.alloc ?_ ?_ _) | (with_reducible refine below_drewN ?_ _) | (with_reducible refine Below.drew ?_) | (with_reducible exact Nat.le_refl _) | omega | (simp; done) | (simp; omega)))))).mono ?_
  rintro e w1 ⟨rfl, hb1⟩
  have HB1 : Hid (Below w.heap.size w w1) := (show Below w.heap.size w _ from by (repeat' (first | (with_reducible exact Below.refl _ _) | (with_reducible assumption) | (with_reducible refine Below.setCell ?_ ?_ _) | (with_reducible refine Below.alloc ?_ ?_ _) | (with_reducible refine below_drewN ?_ _) | (with_reducible refine Below.drew ?_) | (with_reducible exact Nat.le_refl _) | omega | (simp; done) | (simp; omega)))).trans (hb1.mono (by simp; omega))
  clear hb1
  go_wp2
  go_returns
  exact ⟨rfl, HB1.out⟩

set_option maxHeartbeats 1600000 in
theorem markIR (C : Int) {w : World} {B Z : Nat} {v : Value} {s : List Int} (hn : s.length ≤ 1048576) (h : IS w B v s) (hZ : ∀ g, v.ownBlock = some g → g < Z) :
    Calls Try.prog 32 #[.agg #[.int .i64 C, v], .int .i64 1] w fun e w' => e = .returned (.int .i64 (1 + (s.length : Int))) ∧ IS w' B v (marks 1 s.length) ∧ Chg B Z w w' := by
  obtain ⟨a, c, rfl⟩ := h.form
  obtain ⟨n, hnn⟩ : ∃ n, n = s.length := ⟨_, rfl⟩
  have HN : Hid (n = s.length) := hnn
  rw [← hnn] at h hn hZ ⊢
  have H : Hid (IS w B (.slice a n c) s ∧ n ≤ 1048576 ∧ (∀ g, (Value.slice a n c).ownBlock = some g → g < Z)) := ⟨h, hn, hZ⟩
  clear h hn hZ hnn
  go_enter Try.func32, Try.ntmps32
  go_wp2_with (fail)
  refine (markI (xs := s) 1 (by have := H.out.2.1; have := HN.out; omega) (by omega) (by omega) (H.out.1.bel (by (repeat' (first | (with_reducible exact Below.refl _ _) | (with_reducible assumption) | (with_reducible refine Below.setCell ?_ ?_ _) | (with_reducible refine Below.alloc ?_ ?_ _) | (with_reducible refine below_drewN ?_ _) | (with_reducible refine Below.drew ?_) | (with_reducible exact Nat.le_refl _) | omega | (simp; done) | (simp; omega)))))).mono ?_
  rintro e w1 ⟨rfl, hi, gx, hBx, hgx, hox⟩
  rw [← HN.out] at hi ⊢
  have HC : Hid (IS w1 B (.slice a n c) (marks 1 n) ∧ Chg B Z w w1) := by
    refine ⟨hi, (Chg.of_below (show Below w.heap.size w (w.alloc (.cells #[.int .i64 C, .slice a n c] 48)) from by (repeat' (first | (with_reducible exact Below.refl _ _) | (with_reducible assumption) | (with_reducible refine Below.setCell ?_ ?_ _) | (with_reducible refine Below.alloc ?_ ?_ _) | (with_reducible refine below_drewN ?_ _) | (with_reducible refine Below.drew ?_) | (with_reducible exact Nat.le_refl _) | omega | (simp; done) | (simp; omega))))).trans ?_⟩
    rcases hgx with h2 | h2
    · exact Chg.only hox hBx (H.out.2.2 gx h2)
    · rw [h2]; exact Chg.refl _ _ _
  clear hi hBx hgx hox
  go_wp2
  go_returns
  exact ⟨rfl, HC.out.1, HC.out.2⟩

set_option maxHeartbeats 1600000 in
theorem heldIR (C : Int) {w : World} {B n : Nat} {v : Value} (hn : n ≤ 1048576) (h : IS w B v (marks 1 n)) :
    Calls Try.prog 33 #[.agg #[.int .i64 C, v], .int .i64 1] w fun e w' => e = .returned (.int .i64 (1 + (n : Int))) ∧ Below w.heap.size w w' := by
  obtain ⟨a, c, rfl⟩ := h.form
  rw [marks_length] at h ⊢
  have H : Hid (IS w B (.slice a n c) (marks 1 n)) := h
  clear h
  obtain ⟨T, hT⟩ : ∃ T, T = 1 + (n : Int) := ⟨_, rfl⟩
  have hT0 : ¬ T < 0 := by omega
  have HT : Hid (T = 1 + (n : Int)) := hT
  rw [← hT]
  clear hT
  go_enter Try.func33, Try.ntmps33
  go_wp2_with (fail)
  refine (heldI 1 (by omega) (by omega) (by omega) (H.out.bel (by (repeat' (first | (with_reducible exact Below.refl _ _) | (with_reducible assumption) | (with_reducible refine Below.setCell ?_ ?_ _) | (with_reducible refine Below.alloc ?_ ?_ _) | (with_reducible refine below_drewN ?_ _) | (with_reducible refine Below.drew ?_) | (with_reducible exact Nat.le_refl _) | omega | (simp; done) | (simp; omega)))))).mono ?_
  rintro e w1 ⟨rfl, rfl⟩
  rw [← HT.out]
  go_wp2
  go_returns
  exact ⟨rfl, by (repeat' (first | (with_reducible exact Below.refl _ _) | (with_reducible assumption) | (with_reducible refine Below.setCell ?_ ?_ _) | (with_reducible refine Below.alloc ?_ ?_ _) | (with_reducible refine below_drewN ?_ _) | (with_reducible refine Below.drew ?_) | (with_reducible exact Nat.le_refl _) | omega | (simp; done) | (simp; omega)))⟩

set_option maxHeartbeats 800000 in
theorem markIO {w : World} {B Z : Nat} {v : Value} {s : List Int} (k : Int) (hn : s.length ≤ 1048576) (hk0 : 0 ≤ k) (hk1 : k ≤ 1125899906842624) (h : LO B Z v s w) :
    Calls Try.prog 31 #[v, .int .i64 k] w fun e w' => e = .returned (.int .i64 (k + s.length)) ∧ LO B Z v (marks k s.length) w' ∧ Chg B Z w w' := by
  refine (markI (xs := s) k (by omega) hk0 hk1 h.is).mono ?_
  rintro e w1 ⟨rfl, hi, gx, hBx, hgx, hox⟩
  refine ⟨rfl, ⟨hi, h.hi⟩, ?_⟩
  rcases hgx with h2 | h2
  · exact Chg.only hox hBx (h.hi gx h2)
  · rw [h2]; exact Chg.refl _ _ _

end Go.Proofs.Ytcjednfcfobblaa
