/- Proved here: how the laws' package compares and marks an answer that is a code and a list of complex numbers; the state of such a law (LOz, LVz). -/
import Derived.Test.YtgaabcgdfbgchaaZsL
namespace Go.Proofs.Ytgaabcgdfbgchaa
open Go.ChangeShapes Go.WideShapes Go.ChangeAt Go.RowKit Go.Joins
set_option linter.unusedVariables false
set_option linter.unusedSimpArgs false

theorem blk_at {V : World} {k : Nat} {o : Obj} (h : V.heap[k]? = some o) : k < V.heap.size := by
  rcases Nat.lt_or_ge k V.heap.size with h' | h'
  · exact h'
  · rw [Array.getElem?_eq_none h'] at h; cases h
theorem OZs.keep {w w' : World} {B : Nat} {v : Value} {s : List Zf} (h : OZs w B v s) (hb : ∀ g, v.ownBlock = some g → w'.heap[g]? = w.heap[g]?) : OZs w' B v s := by
  refine ⟨h.1, ?_⟩
  rcases h.2 with hh | ⟨g, cap, cu, e1, e2, e3, e4⟩
  · exact Or.inl hh
  · refine Or.inr ⟨g, cap, cu, e1, e2, ?_, e4⟩
    rw [hb g (by rw [e1]; rfl)]
    exact e3
/-- A list of the law's own: its memory lies from lo on, below hi. -/
structure LOz (lo hi : Nat) (v : Value) (X : List Zf) (V : World) : Prop where
  is : OZs V lo v X
  hi : ∀ g, v.ownBlock = some g → g < hi
theorem LOz.next {lo hi : Nat} {v : Value} {X : List Zf} {V V' : World} (h : LOz lo hi v X V) (hb : Below V.heap.size V V') : LOz lo hi v X V' := ⟨OG.below h.is hb, h.hi⟩
theorem LOz.chg {lo hi A C : Nat} {v : Value} {X : List Zf} {V V' : World} (h : LOz lo hi v X V) (hc : Chg A C V V') (hd : hi ≤ A ∨ C ≤ lo) : LOz lo hi v X V' :=
  ⟨OZs.keep h.is fun q hq => hc.block q (OG.lt h.is q hq).2 (by have := (OG.lt h.is q hq).1; have := h.hi q hq; omega), h.hi⟩
/-- Where the law stands: variables that lie as they were. -/
structure LV (w : World) (l : List (Nat × Obj)) (V : World) : Prop where
  bl : Below w.heap.size w V
  at_ : ∀ p ∈ l, V.heap[p.1]? = some p.2
theorem LV.next {w : World} {l : List (Nat × Obj)} {V V' : World} (h : LV w l V) (hb : Below V.heap.size V V') : LV w l V' :=
  ⟨h.bl.trans (hb.mono h.bl.size), fun p hp => (hb.block _ (blk_at (h.at_ p hp))).trans (h.at_ p hp)⟩
theorem LV.chg {w : World} {l : List (Nat × Obj)} {A C : Nat} {V V' : World} (h : LV w l V) (hc : Chg A C V V') (hw : w.heap.size ≤ A) (hl : ∀ p ∈ l, p.1 < A ∨ C ≤ p.1) : LV w l V' :=
  ⟨h.bl.trans (hc.below hw h.bl.size), fun p hp => (hc.block _ (blk_at (h.at_ p hp)) (hl p hp)).trans (h.at_ p hp)⟩
theorem LV.cons {w : World} {l : List (Nat × Obj)} {V : World} {b : Nat} {o : Obj} (h : LV w l V) (ho : V.heap[b]? = some o) : LV w ((b, o) :: l) V :=
  ⟨h.bl, fun p hp => by rcases List.mem_cons.1 hp with rfl | hp; exact ho; exact h.at_ p hp⟩

set_option maxRecDepth 10000 in
set_option maxHeartbeats 800000 in
theorem markZ_zero (a : Option Addr) (c : Nat) (k : Int) (w : World) :
    Calls Try.prog 17 #[.slice a 0 c, .int .i64 k] w fun e w' => e = .returned (.int .i64 k) ∧ w' = w := by
  go_enter Try.func17, Try.ntmps17
  go_wp2
  refine wp_loop_rounds 1 ?_
  rw [rounds_succ]
  go_wp2
  go_returns
  exact ⟨rfl, rfl⟩
theorem markZO {w : World} {B Z : Nat} {v : Value} {s : List Zf} (k : Int) (hn : s.length ≤ 1048576) (hk0 : 0 ≤ k) (hk1 : k ≤ 1125899906842624) (h : LOz B Z v s w) :
    Calls Try.prog 17 #[v, .int .i64 k] w fun e w' => e = .returned (.int .i64 (k + 2 * (s.length : Int))) ∧ LOz B Z v (mzK k s.length) w' ∧ Chg B Z w w' := by
  obtain ⟨a, c, hf⟩ := h.is.rg.form
  rcases Nat.eq_zero_or_pos s.length with h0 | hp
  · obtain rfl : s = [] := List.length_eq_zero_iff.1 h0
    rw [hf]
    refine (markZ_zero a c k w).mono ?_
    rintro e w' ⟨rfl, rfl⟩
    refine ⟨by simp, ⟨?_, ?_⟩, Chg.refl _ _ _⟩
    · have := h.is; rw [hf] at this; exact this
    · have := h.hi; rw [hf] at this; exact this
  · rcases h.is.2 with ⟨hh, h1⟩ | ⟨g, cap, cu, e1, e2, e3, e4⟩
    · exfalso; omega
    · rw [hf] at e1
      injection e1 with e1 e1' e1''
      subst e1
      have his := h.is
      have hhi := h.hi
      rw [hf] at his hhi ⊢
      refine (markZ (g := g) k hn hk0 hk1 his).mono ?_
      rintro e w' ⟨rfl, m1, m2⟩
      exact ⟨rfl, ⟨m1, hhi⟩, Chg.only m2 e2 (hhi g rfl)⟩

set_option maxRecDepth 10000 in
set_option maxHeartbeats 1600000 in
theorem eqWR (C : Int) {w : World} {va vb : Value} {s t : List Zf} (hn : s.length ≤ 1099511627776) (hst : s.map Zf.v = t.map Zf.v) (ha : RZs w va s) (hb : RZs w vb t) :
    Calls Try.prog 15 #[.agg #[.int .i64 C, va], .agg #[.int .i64 C, vb]] w fun e w' => e = .returned (.bool true) ∧ Below w.heap.size w w' := by
  obtain ⟨a1, c1', rfl⟩ := ha.form
  obtain ⟨a2, c2', rfl⟩ := hb.form
  obtain ⟨n, hnn⟩ : ∃ n, n = s.length := ⟨_, rfl⟩
  obtain ⟨m, hmm⟩ : ∃ n, n = t.length := ⟨_, rfl⟩
  rw [← hnn] at ha
  rw [← hmm] at hb
  rw [← hnn, ← hmm]
  have H : Hid (RZs w (.slice a1 n c1') s ∧ RZs w (.slice a2 m c2') t ∧ s.length ≤ 1099511627776 ∧ s.map Zf.v = t.map Zf.v) := ⟨ha, hb, hn, hst⟩
  clear ha hb hn hnn hmm hst
  go_enter Try.func15, Try.ntmps15
  go_wp2_with (fail)
  refine (eqZS_v H.out.2.2.1 H.out.2.2.2 (H.out.1.below (by (repeat' (first | (with_reducible exact Below.refl _ _) | (with_reducible assumption) | (with_reducible refine Below.setCell ?_ ?_ _) | (with_reducible refine Below.alloc ?_ ?_ _) | (with_reducible refine below_drewN ?_ _) | (with_reducible refine Below.drew ?_) | (with_reducible exact Nat.le_refl _) | omega | (simp; done) | (simp; omega))))) (H.out.2.1.below (by (repeat' (first | (with_reducible exact Below.refl _ _) | (with_reducible assumption) | (with_reducible refine Below.setCell ?_ ?_ _) | (with_reducible refine Below.alloc ?_ ?_ _) | (with_reducible refine below_drewN ?_ _) | (with_reducible refine Below.drew ?_) | (with_reducible exact Nat.le_refl _) | omega | (simp; done) | (simp; omega)))))).mono ?_
  rintro e w1 ⟨rfl, hb1⟩
  have HB1 : Hid (Below w.heap.size w w1) := (show Below w.heap.size w _ from by (repeat' (first | (with_reducible exact Below.refl _ _) | (with_reducible assumption) | (with_reducible refine Below.setCell ?_ ?_ _) | (with_reducible refine Below.alloc ?_ ?_ _) | (with_reducible refine below_drewN ?_ _) | (with_reducible refine Below.drew ?_) | (with_reducible exact Nat.le_refl _) | omega | (simp; done) | (simp; omega)))).trans (hb1.mono (by simp; omega))
  clear hb1
  go_wp2
  go_returns
  exact ⟨rfl, HB1.out⟩

set_option maxRecDepth 10000 in
set_option maxHeartbeats 1600000 in
theorem markWR (C : Int) {w : World} {B Z : Nat} {v : Value} {s : List Zf} (hn : s.length ≤ 1048576) (h : LOz B Z v s w) :
    Calls Try.prog 18 #[.agg #[.int .i64 C, v], .int .i64 1] w fun e w' => e = .returned (.int .i64 (1 + 2 * (s.length : Int))) ∧ LOz B Z v (mzK 1 s.length) w' ∧ Chg B Z w w' := by
  obtain ⟨a, c, rfl⟩ := h.is.rg.form
  obtain ⟨n, hnn⟩ : ∃ n, n = s.length := ⟨_, rfl⟩
  have HN : Hid (n = s.length) := hnn
  rw [← hnn] at h hn ⊢
  have H : Hid (LOz B Z (.slice a n c) s w ∧ n ≤ 1048576) := ⟨h, hn⟩
  clear h hn hnn
  go_enter Try.func18, Try.ntmps18
  go_wp2_with (fail)
  refine (markZO (s := s) 1 (by have := H.out.2; have := HN.out; omega) (by omega) (by omega) (H.out.1.next (by (repeat' (first | (with_reducible exact Below.refl _ _) | (with_reducible assumption) | (with_reducible refine Below.setCell ?_ ?_ _) | (with_reducible refine Below.alloc ?_ ?_ _) | (with_reducible refine below_drewN ?_ _) | (with_reducible refine Below.drew ?_) | (with_reducible exact Nat.le_refl _) | omega | (simp; done) | (simp; omega)))))).mono ?_
  rintro e w1 ⟨rfl, hi, hc⟩
  rw [← HN.out] at hi ⊢
  have HC : Hid (LOz B Z (.slice a n c) (mzK 1 n) w1 ∧ Chg B Z w w1) := ⟨hi, (Chg.of_below (show Below w.heap.size w (w.alloc (.cells #[.int .i64 C, .slice a n c] 32)) from by (repeat' (first | (with_reducible exact Below.refl _ _) | (with_reducible assumption) | (with_reducible refine Below.setCell ?_ ?_ _) | (with_reducible refine Below.alloc ?_ ?_ _) | (with_reducible refine below_drewN ?_ _) | (with_reducible refine Below.drew ?_) | (with_reducible exact Nat.le_refl _) | omega | (simp; done) | (simp; omega))))).trans hc⟩
  clear hi hc
  go_wp2
  go_returns
  exact ⟨rfl, HC.out.1, HC.out.2⟩

set_option maxRecDepth 10000 in
set_option maxHeartbeats 1600000 in
theorem heldWR (C : Int) {w : World} {n : Nat} {v : Value} (hn : n ≤ 1048576) (h : RZs w v (mzK 1 n)) :
    Calls Try.prog 19 #[.agg #[.int .i64 C, v], .int .i64 1] w fun e w' => e = .returned (.int .i64 (1 + 2 * (n : Int))) ∧ Below w.heap.size w w' := by
  obtain ⟨a, c, rfl⟩ := h.form
  rw [mzK_len] at h ⊢
  have H : Hid (RZs w (.slice a n c) (mzK 1 n)) := h
  clear h
  obtain ⟨T, hT⟩ : ∃ T, T = 1 + 2 * (n : Int) := ⟨_, rfl⟩
  have hT0 : ¬ T < 0 := by omega
  have HT : Hid (T = 1 + 2 * (n : Int)) := hT
  rw [← hT]
  clear hT
  go_enter Try.func19, Try.ntmps19
  go_wp2_with (fail)
  refine (heldZ 1 hn (by omega) (by omega) (H.out.below (by (repeat' (first | (with_reducible exact Below.refl _ _) | (with_reducible assumption) | (with_reducible refine Below.setCell ?_ ?_ _) | (with_reducible refine Below.alloc ?_ ?_ _) | (with_reducible refine below_drewN ?_ _) | (with_reducible refine Below.drew ?_) | (with_reducible exact Nat.le_refl _) | omega | (simp; done) | (simp; omega)))))).mono ?_
  rintro e w1 ⟨rfl, rfl⟩
  rw [← HT.out]
  go_wp2
  go_returns
  exact ⟨rfl, by (repeat' (first | (with_reducible exact Below.refl _ _) | (with_reducible assumption) | (with_reducible refine Below.setCell ?_ ?_ _) | (with_reducible refine Below.alloc ?_ ?_ _) | (with_reducible refine below_drewN ?_ _) | (with_reducible refine Below.drew ?_) | (with_reducible exact Nat.le_refl _) | omega | (simp; done) | (simp; omega)))⟩

end Go.Proofs.Ytgaabcgdfbgchaa
