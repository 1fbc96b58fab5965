/- Proved here: CheckMatch of the program: cmB. -/
import Derived.Test.YtbfieehlekgjeaaNmK
namespace Go.Proofs.Ytbfieehlekgjeaa
open Go.RowKit
set_option linter.unusedVariables false
set_option linter.unusedSimpArgs false

theorem SB2_two {w W : World} {N M : Int} {va vb : Value} {T : TypeId} (h : W.heap[w.heap.size]? = some (.cells #[.int .i64 N, va] T) ∧ W.heap[w.heap.size + 1]? = some (.cells #[.int .i64 M, vb] T)) :
    W.cell? ⟨w.heap.size, 0, none⟩ = some (.int .i64 N) ∧ W.cell? ⟨w.heap.size, 1, none⟩ = some va ∧ W.cell? ⟨w.heap.size + 1, 0, none⟩ = some (.int .i64 M) ∧ W.cell? ⟨w.heap.size + 1, 1, none⟩ = some vb ∧ w.heap.size < W.heap.size ∧ w.heap.size + 1 < W.heap.size := by
  obtain ⟨a0, a1, _, a2⟩ := two_at h.1
  obtain ⟨b0, b1, _, b2⟩ := two_at h.2
  exact ⟨a0, a1, b0, b1, a2, b2⟩
/-- The two boxed netlists lie there. -/
structure B2 (w : World) (N M : Int) (va vb : Value) (W : World) : Prop where
  bl : Below w.heap.size w W
  bx : W.heap[w.heap.size]? = some (.cells #[.int .i64 N, va] 42) ∧ W.heap[w.heap.size + 1]? = some (.cells #[.int .i64 M, vb] 42)
theorem B2.next {w : World} {N M : Int} {va vb : Value} {V V' : World} (h : B2 w N M va vb V) (hb : Below V.heap.size V V') : B2 w N M va vb V' := by
  obtain ⟨_, _, _, _, l1, l2⟩ := SB2_two h.bx
  exact ⟨h.bl.trans (hb.mono h.bl.size), (hb.block _ l1).trans h.bx.1, (hb.block _ l2).trans h.bx.2⟩
theorem B2.new (w : World) (N M : Int) (va vb : Value) : B2 w N M va vb ((w.alloc (.cells #[.int .i64 N, va] 42)).alloc (.cells #[.int .i64 M, vb] 42)) :=
  ⟨by (repeat' (first | (with_reducible exact Below.refl _ _) | (with_reducible assumption) | (with_reducible refine Below.setCell ?_ ?_ _) | (with_reducible refine Below.alloc ?_ ?_ _) | (with_reducible refine below_drewN ?_ _) | (with_reducible refine Below.drew ?_) | (with_reducible exact Nat.le_refl _) | omega | (simp; done) | (simp; omega))), (Below.heap_alloc _ _ _ (by simp)).trans (heap_alloc_new w _), hp_at1 w _ _⟩

set_option maxRecDepth 10000 in
set_option maxHeartbeats 3200000 in
theorem impl_match (N M : Int) {w : World} {va vb vn : Value} {a b : List Dv} {nets : List Int} (hal : a.length ≤ 1048576) (hbl : b.length ≤ 1048576) (hnl : nets.length ≤ 1048576) (hsa : ∀ j (h : j < a.length), smD 1048576 a[j]) (hsb : ∀ j (h : j < b.length), smD 1048576 b[j]) (ha : RD w va a) (hb : RD w vb b) (hn : RdI w vn nets) :
    Calls Try.prog 28 #[.agg #[.int .i64 N, va], .agg #[.int .i64 M, vb], vn] w fun e w' => e = .returned (.bool (cmB N M a b nets)) ∧ Below w.heap.size w w' := by
  obtain ⟨aa, ca, rfl⟩ := ha.form
  obtain ⟨ab, cb, rfl⟩ := hb.form
  obtain ⟨an, cn, rfl⟩ := hn.form
  obtain ⟨n, hnn⟩ : ∃ n, n = a.length := ⟨_, rfl⟩
  obtain ⟨m, hmm⟩ : ∃ m, m = b.length := ⟨_, rfl⟩
  obtain ⟨l, hll⟩ : ∃ l, l = nets.length := ⟨_, rfl⟩
  obtain ⟨D, hD⟩ : ∃ D, D = cmB N M a b nets := ⟨_, rfl⟩
  obtain ⟨F, hF⟩ : ∃ F, F = nlF N a := ⟨_, rfl⟩
  obtain ⟨G, hG⟩ : ∃ G, G = nlF M b := ⟨_, rfl⟩
  rw [← hnn] at ha ⊢
  rw [← hmm] at hb ⊢
  rw [← hll] at hn ⊢
  rw [← hD]
  have H : Hid ((RD w (.slice aa n ca) a ∧ RD w (.slice ab m cb) b ∧ RdI w (.slice an l cn) nets) ∧ (n = a.length ∧ m = b.length ∧ l = nets.length ∧ D = cmB N M a b nets) ∧ nets.length ≤ 1048576) := ⟨⟨ha, hb, hn⟩, ⟨hnn, hmm, hll, hD⟩, hnl⟩
  have HFA : Hid (F = nlF N a ∧ ∀ W, Below w.heap.size w W → Calls Try.prog 16 #[.agg #[.int .i64 N, .slice aa n ca]] W fun e w' => e = .returned (.int .i64 F) ∧ Below W.heap.size W w') := ⟨hF, fun W hW => by rw [hF]; exact impl_nl N hal hsa (ha.below hW)⟩
  have HFB : Hid (G = nlF M b ∧ ∀ W, Below w.heap.size w W → Calls Try.prog 16 #[.agg #[.int .i64 M, .slice ab m cb]] W fun e w' => e = .returned (.int .i64 G) ∧ Below W.heap.size W w') := ⟨hG, fun W hW => by rw [hG]; exact impl_nl M hbl hsb (hb.below hW)⟩
  clear ha hb hn hnn hmm hll hD hF hG hnl hal hbl hsa hsb
  go_enter Try.func28, Try.ntmps28
  go_wp2_with (fail)
  refine (HFA.out.2 _ (by (repeat' (first | (with_reducible exact Below.refl _ _) | (with_reducible assumption) | (with_reducible refine Below.setCell ?_ ?_ _) | (with_reducible refine Below.alloc ?_ ?_ _) | (with_reducible refine below_drewN ?_ _) | (with_reducible refine Below.drew ?_) | (with_reducible exact Nat.le_refl _) | omega | (simp; done) | (simp; omega))))).mono ?_
  rintro e w1 ⟨rfl, hb1⟩
  have B1 : Hid (B2 w N M (.slice aa n ca) (.slice ab m cb) w1) := (B2.new w N M _ _).next hb1
  clear hb1
  by_cases hF0 : F = 0
  case neg =>
    have HE : Hid (D = false) := by unfold Hid; rw [H.out.2.1.2.2.2]; unfold cmB; rw [decide_eq_false (fun e => hF0 (by rw [HFA.out.1, e]))]; rfl
    go_wp2
    go_returns
    exact ⟨by rw [HE.out]; rfl, B1.out.bl⟩
  obtain ⟨a0, a1, b0, b1, l1, l2⟩ := SB2_two B1.out.bx
  subst hF0
  go_wp2_with (fail)
  refine (HFB.out.2 _ B1.out.bl).mono ?_
  rintro e w2 ⟨rfl, hb2⟩
  have B2' : Hid (B2 w N M (.slice aa n ca) (.slice ab m cb) w2) := B1.out.next hb2
  clear hb2 a0 a1 b0 b1 l1 l2
  by_cases hG0 : G = 0
  case neg =>
    have HE : Hid (D = false) := by unfold Hid; rw [H.out.2.1.2.2.2]; unfold cmB; rw [decide_eq_false (p := nlF M b = 0) (fun e => hG0 (by rw [HFB.out.1, e]))]; simp
    go_wp2
    go_returns
    exact ⟨by rw [HE.out]; rfl, B2'.out.bl⟩
  obtain ⟨a0, a1, b0, b1, l1, l2⟩ := SB2_two B2'.out.bx
  subst hG0
  have HG : Hid (NlGood N a ∧ NlGood M b) := ⟨nlF_good HFA.out.1.symm, nlF_good HFB.out.1.symm⟩
  have HD : Hid (D = (decide (N = M ∧ n = m) && nmB nets N && sdB nets a b)) := by
    unfold Hid
    rw [H.out.2.1.2.2.2]
    unfold cmB
    rw [← HFA.out.1, ← HFB.out.1, H.out.2.1.1, H.out.2.1.2.1]
    simp
  go_wp2_with (fail)
  refine (impl_asMany N M aa ab n m ca cb _).mono ?_
  rintro e w3 ⟨rfl, hb3⟩
  have B3 : Hid (B2 w N M (.slice aa n ca) (.slice ab m cb) w3) := B2'.out.next hb3
  clear hb3 a0 a1 b0 b1 l1 l2
  by_cases hNM : N = M ∧ n = m
  case neg =>
    have hdec : decide (N = M ∧ n = m) = false := decide_eq_false hNM
    have HE : Hid (D = false) := by unfold Hid; rw [HD.out, hdec]; rfl
    rw [hdec]
    clear hdec
    go_wp2
    go_returns
    exact ⟨by rw [HE.out]; rfl, B3.out.bl⟩
  have hdec : decide (N = M ∧ n = m) = true := decide_eq_true hNM
  have HD2 : Hid (D = (nmB nets N && sdB nets a b)) := by unfold Hid; rw [HD.out, hdec]; rfl
  rw [hdec]
  clear hdec hNM
  obtain ⟨a0, a1, b0, b1, l1, l2⟩ := SB2_two B3.out.bx
  go_wp2_with (fail)
  refine (impl_naming N H.out.2.2 (H.out.1.2.2.below B3.out.bl)).mono ?_
  rintro e w4 ⟨rfl, hb4⟩
  have B4 : Hid (B2 w N M (.slice aa n ca) (.slice ab m cb) w4) := B3.out.next hb4
  clear hb4 a0 a1 b0 b1 l1 l2
  by_cases hnm : nmB nets N = true
  case neg =>
    have hdec : nmB nets N = false := by simpa using hnm
    have HE : Hid (D = false) := by unfold Hid; rw [HD2.out, hdec]; rfl
    rw [hdec]
    clear hdec hnm
    go_wp2
    go_returns
    exact ⟨by rw [HE.out]; rfl, B4.out.bl⟩
  have HD3 : Hid (D = sdB nets a b ∧ (nets.length : Int) = N) := ⟨by rw [HD2.out, hnm]; rfl, (nmB_iff.1 hnm).1⟩
  rw [hnm]
  clear hnm
  obtain ⟨a0, a1, b0, b1, l1, l2⟩ := SB2_two B4.out.bx
  go_wp2_with (fail)
  refine (impl_same N M HG.out.1 HG.out.2 HD3.out.2 (H.out.1.1.below B4.out.bl) (H.out.1.2.1.below B4.out.bl) (H.out.1.2.2.below B4.out.bl)).mono ?_
  rintro e w5 ⟨rfl, hb5⟩
  have B5 : Hid (B2 w N M (.slice aa n ca) (.slice ab m cb) w5) := B4.out.next hb5
  clear hb5 a0 a1 b0 b1 l1 l2
  rw [← HD3.out.1]
  go_wp2
  go_returns
  exact ⟨rfl, B5.out.bl⟩

end Go.Proofs.Ytbfieehlekgjeaa
