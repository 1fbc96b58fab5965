/- Proved here: the laws' package writes 1, 2, .. into netlists and into what RenameNets answers, and holds them; compares two such answers. -/
import Derived.Test.YtbfieehlekgjeaaNmV
namespace Go.Proofs.Ytbfieehlekgjeaa
open Go.ChangeShapes Go.WideShapes Go.ChangeAt Go.RowKit Go.Joins
set_option linter.unusedVariables false
set_option linter.unusedSimpArgs false

set_option maxHeartbeats 1600000 in
theorem markNL {w : World} {B Z : Nat} {v : Value} {s : List Dv} {rs : List Rd} (N : Int) (k : Int) (hn : s.length ≤ 1048576) (hs : ∀ j (h : j < s.length), s[j].p.length ≤ 1048576) (hk0 : 0 ≤ k) (hk1 : k ≤ 4398046511104) (h : OD w B Z v s rs) :
    Calls Try.prog 23 #[.agg #[.int .i64 N, v], .int .i64 k] w fun e w' => e = .returned (.int .i64 (stD s k s.length)) ∧ (∃ rs', OD w' B Z v (mkD s k) rs') ∧ Chg B Z w w' := by
  obtain ⟨a, c, rfl⟩ := h.rd.form
  obtain ⟨n, hnn⟩ : ∃ n, n = s.length := ⟨_, rfl⟩
  rw [← hnn] at h ⊢
  obtain ⟨T, hT⟩ : ∃ T, T = stD s k n := ⟨_, rfl⟩
  rw [← hT]
  have H : Hid (OD w B Z (.slice a n c) s rs ∧ s.length ≤ 1048576 ∧ (∀ j (h : j < s.length), s[j].p.length ≤ 1048576) ∧ T = stD s k s.length) := ⟨h, hn, hs, by rw [hT, hnn]⟩
  clear h hs hn hnn hT
  go_enter Try.func23, Try.ntmps23
  go_wp2_with (fail)
  refine (markDS k H.out.2.1 H.out.2.2.1 hk0 hk1 (H.out.1.below (by (repeat' (first | (with_reducible exact Below.refl _ _) | (with_reducible assumption) | (with_reducible refine Below.setCell ?_ ?_ _) | (with_reducible refine Below.alloc ?_ ?_ _) | (with_reducible refine below_drewN ?_ _) | (with_reducible refine Below.drew ?_) | (with_reducible exact Nat.le_refl _) | omega | (simp; done) | (simp; omega)))))).mono ?_
  rintro e w1 ⟨rfl, hr, hc⟩
  have HC : Hid ((∃ rs', OD w1 B Z (.slice a n c) (mkD s k) rs') ∧ Chg B Z w w1) := ⟨hr, (Chg.of_below (by (repeat' (first | (with_reducible exact Below.refl _ _) | (with_reducible assumption) | (with_reducible refine Below.setCell ?_ ?_ _) | (with_reducible refine Below.alloc ?_ ?_ _) | (with_reducible refine below_drewN ?_ _) | (with_reducible refine Below.drew ?_) | (with_reducible exact Nat.le_refl _) | omega | (simp; done) | (simp; omega))))).trans hc⟩
  rw [← H.out.2.2.2]
  clear hr hc
  go_wp2
  go_returns
  exact ⟨rfl, HC.out.1, HC.out.2⟩

set_option maxHeartbeats 1600000 in
theorem markNR {w : World} {B Z : Nat} {v : Value} {s : List Dv} {rs : List Rd} (C N : Int) (k : Int) (hn : s.length ≤ 1048576) (hs : ∀ j (h : j < s.length), s[j].p.length ≤ 1048576) (hk0 : 0 ≤ k) (hk1 : k ≤ 4398046511104) (h : OD w B Z v s rs) :
    Calls Try.prog 25 #[.agg #[.int .i64 C, .int .i64 N, v], .int .i64 k] w fun e w' => e = .returned (.int .i64 (stD s k s.length)) ∧ (∃ rs', OD w' B Z v (mkD s k) rs') ∧ Chg B Z w w' := by
  obtain ⟨a, c, rfl⟩ := h.rd.form
  obtain ⟨n, hnn⟩ : ∃ n, n = s.length := ⟨_, rfl⟩
  rw [← hnn] at h ⊢
  obtain ⟨T, hT⟩ : ∃ T, T = stD s k n := ⟨_, rfl⟩
  rw [← hT]
  have H : Hid (OD w B Z (.slice a n c) s rs ∧ s.length ≤ 1048576 ∧ (∀ j (h : j < s.length), s[j].p.length ≤ 1048576) ∧ T = stD s k s.length) := ⟨h, hn, hs, by rw [hT, hnn]⟩
  clear h hs hn hnn hT
  go_enter Try.func25, Try.ntmps25
  go_wp2_with (fail)
  refine (markNL N k H.out.2.1 H.out.2.2.1 hk0 hk1 (H.out.1.below (by (repeat' (first | (with_reducible exact Below.refl _ _) | (with_reducible assumption) | (with_reducible refine Below.setCell ?_ ?_ _) | (with_reducible refine Below.alloc ?_ ?_ _) | (with_reducible refine below_drewN ?_ _) | (with_reducible refine Below.drew ?_) | (with_reducible exact Nat.le_refl _) | omega | (simp; done) | (simp; omega)))))).mono ?_
  rintro e w1 ⟨rfl, hr, hc⟩
  have HC : Hid ((∃ rs', OD w1 B Z (.slice a n c) (mkD s k) rs') ∧ Chg B Z w w1) := ⟨hr, (Chg.of_below (by (repeat' (first | (with_reducible exact Below.refl _ _) | (with_reducible assumption) | (with_reducible refine Below.setCell ?_ ?_ _) | (with_reducible refine Below.alloc ?_ ?_ _) | (with_reducible refine below_drewN ?_ _) | (with_reducible refine Below.drew ?_) | (with_reducible exact Nat.le_refl _) | omega | (simp; done) | (simp; omega))))).trans hc⟩
  rw [← H.out.2.2.2]
  clear hr hc
  go_wp2
  go_returns
  exact ⟨rfl, HC.out.1, HC.out.2⟩

set_option maxHeartbeats 1600000 in
theorem heldNL {w : World} {B Z : Nat} {v : Value} {s : List Dv} {rs : List Rd} (N : Int) (k : Int) (hn : s.length ≤ 1048576) (hs : ∀ j (h : j < s.length), s[j].p.length ≤ 1048576) (hk0 : 0 ≤ k) (hk1 : k ≤ 4398046511104) (h : OD w B Z v (mkD s k) rs) :
    Calls Try.prog 53 #[.agg #[.int .i64 N, v], .int .i64 k] w fun e w' => e = .returned (.int .i64 (stD s k s.length)) ∧ Below w.heap.size w w' := by
  obtain ⟨a, c, rfl⟩ := h.rd.form
  obtain ⟨n, hnn⟩ : ∃ n, n = (mkD s k).length := ⟨_, rfl⟩
  rw [← hnn] at h ⊢
  obtain ⟨T, hT⟩ : ∃ T, T = stD s k s.length := ⟨_, rfl⟩
  rw [← hT]
  have hT0 : ¬ T < 0 := by have := stD_le (k := k) hs s.length (Nat.le_refl _); omega
  have H : Hid (OD w B Z (.slice a n c) (mkD s k) rs ∧ s.length ≤ 1048576 ∧ (∀ j (h : j < s.length), s[j].p.length ≤ 1048576) ∧ T = stD s k s.length) := ⟨h, hn, hs, hT⟩
  clear h hs hn hnn hT
  go_enter Try.func53, Try.ntmps53
  go_wp2_with (fail)
  refine (heldDS k H.out.2.1 H.out.2.2.1 hk0 hk1 (H.out.1.below (by (repeat' (first | (with_reducible exact Below.refl _ _) | (with_reducible assumption) | (with_reducible refine Below.setCell ?_ ?_ _) | (with_reducible refine Below.alloc ?_ ?_ _) | (with_reducible refine below_drewN ?_ _) | (with_reducible refine Below.drew ?_) | (with_reducible exact Nat.le_refl _) | omega | (simp; done) | (simp; omega)))))).mono ?_
  rintro e w1 ⟨rfl, rfl⟩
  rw [← H.out.2.2.2]
  go_wp2
  go_returns
  exact ⟨rfl, by (repeat' (first | (with_reducible exact Below.refl _ _) | (with_reducible assumption) | (with_reducible refine Below.setCell ?_ ?_ _) | (with_reducible refine Below.alloc ?_ ?_ _) | (with_reducible refine below_drewN ?_ _) | (with_reducible refine Below.drew ?_) | (with_reducible exact Nat.le_refl _) | omega | (simp; done) | (simp; omega)))⟩

set_option maxHeartbeats 1600000 in
theorem heldNR {w : World} {B Z : Nat} {v : Value} {s : List Dv} {rs : List Rd} (C N : Int) (k : Int) (hn : s.length ≤ 1048576) (hs : ∀ j (h : j < s.length), s[j].p.length ≤ 1048576) (hk0 : 0 ≤ k) (hk1 : k ≤ 4398046511104) (h : OD w B Z v (mkD s k) rs) :
    Calls Try.prog 26 #[.agg #[.int .i64 C, .int .i64 N, v], .int .i64 k] w fun e w' => e = .returned (.int .i64 (stD s k s.length)) ∧ Below w.heap.size w w' := by
  obtain ⟨a, c, rfl⟩ := h.rd.form
  obtain ⟨n, hnn⟩ : ∃ n, n = (mkD s k).length := ⟨_, rfl⟩
  rw [← hnn] at h ⊢
  obtain ⟨T, hT⟩ : ∃ T, T = stD s k s.length := ⟨_, rfl⟩
  rw [← hT]
  have hT0 : ¬ T < 0 := by have := stD_le (k := k) hs s.length (Nat.le_refl _); omega
  have H : Hid (OD w B Z (.slice a n c) (mkD s k) rs ∧ s.length ≤ 1048576 ∧ (∀ j (h : j < s.length), s[j].p.length ≤ 1048576) ∧ T = stD s k s.length) := ⟨h, hn, hs, hT⟩
  clear h hs hn hnn hT
  go_enter Try.func26, Try.ntmps26
  go_wp2_with (fail)
  refine (heldNL N k H.out.2.1 H.out.2.2.1 hk0 hk1 (H.out.1.below (by (repeat' (first | (with_reducible exact Below.refl _ _) | (with_reducible assumption) | (with_reducible refine Below.setCell ?_ ?_ _) | (with_reducible refine Below.alloc ?_ ?_ _) | (with_reducible refine below_drewN ?_ _) | (with_reducible refine Below.drew ?_) | (with_reducible exact Nat.le_refl _) | omega | (simp; done) | (simp; omega)))))).mono ?_
  rintro e w1 ⟨rfl, hb1⟩
  rw [← H.out.2.2.2]
  have HB : Hid (Below w.heap.size w w1) := (show Below w.heap.size w _ from by (repeat' (first | (with_reducible exact Below.refl _ _) | (with_reducible assumption) | (with_reducible refine Below.setCell ?_ ?_ _) | (with_reducible refine Below.alloc ?_ ?_ _) | (with_reducible refine below_drewN ?_ _) | (with_reducible refine Below.drew ?_) | (with_reducible exact Nat.le_refl _) | omega | (simp; done) | (simp; omega)))).trans (hb1.mono (by simp))
  clear hb1
  go_wp2
  go_returns
  exact ⟨rfl, HB.out⟩

set_option maxHeartbeats 1600000 in
theorem eqNR (C N : Int) {w : World} {va vb : Value} {s : List Dv} (hn : s.length ≤ 1099511627776) (hsm : ∀ j (h : j < s.length), smD 1048576 s[j]) (ha : RD w va s) (hb : RD w vb s) :
    Calls Try.prog 21 #[.agg #[.int .i64 C, .int .i64 N, va], .agg #[.int .i64 C, .int .i64 N, vb]] w fun e w' => e = .returned (.bool true) ∧ Below w.heap.size w w' := by
  obtain ⟨a1, c1', rfl⟩ := ha.form
  obtain ⟨a2, c2', rfl⟩ := hb.form
  obtain ⟨n, hnn⟩ : ∃ n, n = s.length := ⟨_, rfl⟩
  rw [← hnn] at ha hb ⊢
  have H : Hid (RD w (.slice a1 n c1') s ∧ RD w (.slice a2 n c2') s ∧ s.length ≤ 1099511627776 ∧ ∀ j (h : j < s.length), smD 1048576 s[j]) := ⟨ha, hb, hn, hsm⟩
  clear ha hb hn hsm hnn
  go_enter Try.func21, Try.ntmps21
  go_wp2_with (fail)
  refine (eqNetlist_same N H.out.2.2.1 H.out.2.2.2 (H.out.1.below (by (repeat' (first | (with_reducible exact Below.refl _ _) | (with_reducible assumption) | (with_reducible refine Below.setCell ?_ ?_ _) | (with_reducible refine Below.alloc ?_ ?_ _) | (with_reducible refine below_drewN ?_ _) | (with_reducible refine Below.drew ?_) | (with_reducible exact Nat.le_refl _) | omega | (simp; done) | (simp; omega))))) (H.out.2.1.below (by (repeat' (first | (with_reducible exact Below.refl _ _) | (with_reducible assumption) | (with_reducible refine Below.setCell ?_ ?_ _) | (with_reducible refine Below.alloc ?_ ?_ _) | (with_reducible refine below_drewN ?_ _) | (with_reducible refine Below.drew ?_) | (with_reducible exact Nat.le_refl _) | omega | (simp; done) | (simp; omega)))))).mono ?_
  rintro e w1 ⟨rfl, hb1⟩
  have HB1 : Hid (Below w.heap.size w w1) := (show Below w.heap.size w _ from by (repeat' (first | (with_reducible exact Below.refl _ _) | (with_reducible assumption) | (with_reducible refine Below.setCell ?_ ?_ _) | (with_reducible refine Below.alloc ?_ ?_ _) | (with_reducible refine below_drewN ?_ _) | (with_reducible refine Below.drew ?_) | (with_reducible exact Nat.le_refl _) | omega | (simp; done) | (simp; omega)))).trans (hb1.mono (by simp; omega))
  clear hb1
  go_wp2
  go_returns
  exact ⟨rfl, HB1.out⟩

end Go.Proofs.Ytbfieehlekgjeaa
