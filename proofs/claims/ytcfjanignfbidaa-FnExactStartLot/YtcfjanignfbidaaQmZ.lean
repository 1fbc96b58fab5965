/- Proved here: a book that was handed in, with where it ends; marked. (And ahead of it: Proved here: how answers that hold a book of lots are compared and marked, and what is held then.) -/
import Derived.Test.YtcfjanignfbidaaQmB
import Derived.Test.YtcfjanignfbidaaQkL
namespace Go.Proofs.Ytcfjanignfbidaa
open Go.RowKit
set_option linter.unusedVariables false
set_option linter.unusedSimpArgs false

theorem PB.ltq {V : World} {B : Nat} {vw vl vs : Value} {wv : Nat → Value} {b : Bk} {rs : List Lr} (h : PB V B vw vl vs wv b rs) : ∀ q, PBk vw vl vs wv rs q → q < V.heap.size := fun q hq => (h.blk hq).2
theorem Ow.pb {V : World} {B hi : Nat} {vw vl vs : Value} {b : Bk} {rs : List Lr} (h : PB V B vw vl vs (wvO rs) b rs) (h1 : B ≤ hi) (h2 : hi ≤ V.heap.size) (hh : ∀ q, PBk vw vl vs (wvO rs) rs q → q < hi) : Ow B hi (fun V => PB V B vw vl vs (wvO rs) b rs) V :=
  ⟨h, fun V' hq => h.keep fun q hk => hq q (h.blk hk).1 (hh q hk), ⟨h1, h2⟩⟩
theorem Ow.pbAll {V V0 : World} {vw vl vs : Value} {b : Bk} {rs : List Lr} (h : PB V V0.heap.size vw vl vs (wvO rs) b rs) (hb : Below V0.heap.size V0 V) : Ow V0.heap.size V.heap.size (fun V => PB V V0.heap.size vw vl vs (wvO rs) b rs) V := Ow.pb h hb.size (Nat.le_refl _) h.ltq
theorem MkB.keep {V V' : World} {B : Nat} {vw vl vs : Value} {b : Bk} {rs : List Lr} (h : MkB V B vw vl vs b rs) (hk : ∀ q, PBk vw vl vs (wvO rs) rs q → V'.heap[q]? = V.heap[q]?) : MkB V' B vw vl vs b rs := by
  obtain ⟨rs', h1, h2, h3, h4⟩ := h.ls
  refine ⟨ownsRow_keep h.wn fun q hq => hk q (Or.inl hq), ⟨rs', h1.keep fun q hq => hk q (LBk.pb (by unfold LBk at hq ⊢; rw [h2, h3] at hq; exact hq)), h2, h3, h4⟩, ownsRow_keep h.sc fun q hq => hk q (Or.inr (Or.inr ⟨.s, hq⟩))⟩
theorem MkB.blk {V : World} {B : Nat} {vw vl vs : Value} {b : Bk} {rs : List Lr} (h : MkB V B vw vl vs b rs) {q : Nat} (hq : PBk vw vl vs (wvO rs) rs q) : B ≤ q := by
  obtain ⟨rs', h1, h2, h3, h4⟩ := h.ls
  rcases hq with hq | hq | ⟨a, hq⟩
  · exact (World.ownsRow.lt h.wn q hq).1
  · exact (h1.blk (Or.inl hq)).1
  · cases a with
    | s => exact (World.ownsRow.lt h.sc q hq).1
    | w i => exact (h1.blk (Or.inr ⟨.w i, by rw [h2]; exact hq⟩)).1
    | d i => exact (h1.blk (Or.inr ⟨.d i, by rw [h3]; exact hq⟩)).1
theorem Ow.mB {V : World} {B hi : Nat} {vw vl vs : Value} {b : Bk} {rs : List Lr} (h : MkB V B vw vl vs b rs) (h1 : B ≤ hi) (h2 : hi ≤ V.heap.size) (hh : ∀ q, PBk vw vl vs (wvO rs) rs q → q < hi) : Ow B hi (fun V => MkB V B vw vl vs b rs) V :=
  ⟨h, fun V' hq => h.keep fun q hk => hq q (h.blk hk) (hh q hk), ⟨h1, h2⟩⟩
theorem PB.lz {V : World} {B : Nat} {vw vl vs : Value} {b : Bk} {rs : List Lr} (h : PB V B vw vl vs (wvO rs) b rs) : OBk V B vw vl vs b := ⟨rs, h⟩

set_option maxHeartbeats 3200000 in
/-- A book that was handed in, marked. -/
theorem markLotBook_lw (st : Int) {w : World} {B Z : Nat} {vw vl vs : Value} {b : Bk} (hs : smBk 1048576 b) (h : OBk w B vw vl vs b) (hZ : OBk w B vw vl vs b → ∃ rs, PB w B vw vl vs (wvO rs) b rs ∧ ∀ q, PBk vw vl vs (wvO rs) rs q → q < Z) :
    Calls Try.prog 17 #[.agg #[.int .i64 st, vw, vl, vs], .int .i64 1] w fun e w' => e = .returned (.int .i64 (zB b)) ∧ True ∧ Chg B Z w w' := by
  obtain ⟨rs, h1, h2⟩ := hZ h
  refine (markLotBook_to st hs h1).mono ?_
  rintro e w' ⟨he, _, ht⟩
  exact ⟨he, trivial, ht.chg fun q hq => ⟨(h1.blk hq).1, h2 q hq⟩⟩

set_option maxHeartbeats 3200000 in
theorem eqBookResult_to (C A : Int) (st : Int) {w : World} {vw vl vs vw' vl' vs' : Value} {b : Bk} (hs : smBk 1048576 b) (hst : b.st = st) (h : RdBk w vw vl vs b) (h' : RdBk w vw' vl' vs' b) :
    Calls Try.prog 14 #[.agg #[.int .i64 C, .int .i64 A, .int .i64 st, vw, vl, vs], .agg #[.int .i64 C, .int .i64 A, .int .i64 st, vw', vl', vs']] w fun e w' => e = .returned (.bool true) ∧ Below w.heap.size w w' := by
  obtain ⟨wa, wc, e1⟩ := h.wn.form
  obtain ⟨la, lc, e2⟩ := h.ls.form
  obtain ⟨xa, xc, e3⟩ := h.sc.form
  obtain ⟨wa', wc', e4⟩ := h'.wn.form
  obtain ⟨la', lc', e5⟩ := h'.ls.form
  obtain ⟨xa', xc', e6⟩ := h'.sc.form
  subst e1 e2 e3 e4 e5 e6
  obtain ⟨wn, hwn⟩ : ∃ n, n = b.wn.length := ⟨_, rfl⟩
  obtain ⟨ln, hln⟩ : ∃ n, n = b.ls.length := ⟨_, rfl⟩
  obtain ⟨xn, hxn⟩ : ∃ n, n = b.sc.length := ⟨_, rfl⟩
  rw [← hwn, ← hln, ← hxn] at h h' ⊢
  have HE : Hid (∀ W, Below w.heap.size w W → Calls Try.prog 15 #[.agg #[.int .i64 st, .slice wa wn wc, .slice la ln lc, .slice xa xn xc], .agg #[.int .i64 st, .slice wa' wn wc', .slice la' ln lc', .slice xa' xn xc']] W fun e w' => e = .returned (.bool true) ∧ Below W.heap.size W w') := fun W hW => eqLotBook_same st hs hst (h.below hW) (h'.below hW)
  clear h h' hs hst hwn hln hxn
  go_enter Try.func14, Try.ntmps14
  go_wp2_with (fail)
  refine (HE.out _ (by (repeat' (first | (with_reducible exact Below.refl _ _) | (with_reducible assumption) | (with_reducible refine Below.setCell ?_ ?_ _) | (with_reducible refine Below.alloc ?_ ?_ _) | (with_reducible refine below_drewN ?_ _) | (with_reducible refine Below.drew ?_) | (with_reducible exact Nat.le_refl _) | omega | (simp; done) | (simp; omega))))).mono ?_
  rintro e w1 ⟨rfl, hb⟩
  have HB : Hid (Below w.heap.size w w1) := (show Below w.heap.size w _ from by (repeat' (first | (with_reducible exact Below.refl _ _) | (with_reducible assumption) | (with_reducible refine Below.setCell ?_ ?_ _) | (with_reducible refine Below.alloc ?_ ?_ _) | (with_reducible refine below_drewN ?_ _) | (with_reducible refine Below.drew ?_) | (with_reducible exact Nat.le_refl _) | omega | (simp; done) | (simp; omega)))).trans (hb.mono (by simp; omega))
  clear hb HE
  go_wp2
  go_returns
  exact ⟨rfl, HB.out⟩

set_option maxHeartbeats 3200000 in
theorem markBookResult_to (C A st : Int) {w : World} {B Z : Nat} {vw vl vs : Value} {b : Bk} {rs : List Lr} (hs : smBk 1048576 b) (h : PB w B vw vl vs (wvO rs) b rs) (hZ : ∀ q, PBk vw vl vs (wvO rs) rs q → q < Z) :
    Calls Try.prog 19 #[.agg #[.int .i64 C, .int .i64 A, .int .i64 st, vw, vl, vs], .int .i64 1] w fun e w' => e = .returned (.int .i64 (zB b)) ∧ MkB w' B vw vl vs b rs ∧ Chg B Z w w' := by
  obtain ⟨wa, wc, e1⟩ := (OG.rg wdC_len h.wn).form
  obtain ⟨la, lc, e2⟩ := (OG.rg lrC_len h.row).form
  obtain ⟨xa, xc, e3⟩ := h.sc.form
  rw [h.len] at e2
  subst e1 e2 e3
  obtain ⟨wn, hwn⟩ : ∃ n, n = b.wn.length := ⟨_, rfl⟩
  obtain ⟨ln, hln⟩ : ∃ n, n = b.ls.length := ⟨_, rfl⟩
  obtain ⟨xn, hxn⟩ : ∃ n, n = b.sc.length := ⟨_, rfl⟩
  rw [← hwn, ← hln, ← hxn] at h hZ ⊢
  obtain ⟨z, hz⟩ : ∃ z, z = zB b := ⟨_, rfl⟩
  rw [← hz]
  have H : Hid (PB w B (.slice wa wn wc) (.slice la ln lc) (.slice xa xn xc) (wvO rs) b rs ∧ ∀ q, PBk (.slice wa wn wc) (.slice la ln lc) (.slice xa xn xc) (wvO rs) rs q → q < Z) := ⟨h, hZ⟩
  have HM : Hid (∀ W, Below w.heap.size w W → Calls Try.prog 17 #[.agg #[.int .i64 st, .slice wa wn wc, .slice la ln lc, .slice xa xn xc], .int .i64 1] W fun e w' => e = .returned (.int .i64 z) ∧ MkB w' B (.slice wa wn wc) (.slice la ln lc) (.slice xa xn xc) b rs ∧ Tn (PBk (.slice wa wn wc) (.slice la ln lc) (.slice xa xn xc) (wvO rs) rs) W w') := fun W hW => by rw [hz]; exact markLotBook_to st hs (h.below hW)
  clear h hs hwn hln hxn hz hZ
  go_enter Try.func19, Try.ntmps19
  go_wp2_with (fail)
  refine (HM.out _ (by (repeat' (first | (with_reducible exact Below.refl _ _) | (with_reducible assumption) | (with_reducible refine Below.setCell ?_ ?_ _) | (with_reducible refine Below.alloc ?_ ?_ _) | (with_reducible refine below_drewN ?_ _) | (with_reducible refine Below.drew ?_) | (with_reducible exact Nat.le_refl _) | omega | (simp; done) | (simp; omega))))).mono ?_
  rintro e w1 ⟨rfl, hm, ht⟩
  have HB : Hid (MkB w1 B (.slice wa wn wc) (.slice la ln lc) (.slice xa xn xc) b rs ∧ Chg B Z w w1) := by
    refine ⟨hm, ?_⟩
    have t2 : Tn (PBk (.slice wa wn wc) (.slice la ln lc) (.slice xa xn xc) (wvO rs) rs) w (w.alloc (.cells #[.int .i64 C, .int .i64 A, .int .i64 st, .slice wa wn wc, .slice la ln lc, .slice xa xn xc] 33)) := ⟨rfl, rfl, rfl, by simp, fun q hq _ => Below.heap_alloc _ _ _ hq⟩
    exact (t2.trans ht).chg fun q hq => ⟨(H.out.1.blk hq).1, H.out.2 q hq⟩
  clear hm ht HM
  go_wp2
  go_returns
  exact ⟨rfl, HB.out⟩

set_option maxHeartbeats 3200000 in
theorem heldLotBook_to (st : Int) {w : World} {B : Nat} {vw vl vs : Value} {b : Bk} {rs : List Lr} (hs : smBk 1048576 b) (h : MkB w B vw vl vs b rs) :
    Calls Try.prog 52 #[.agg #[.int .i64 st, vw, vl, vs], .int .i64 1] w fun e w' => e = .returned (.int .i64 (zB b)) ∧ Below w.heap.size w w' := by
  have own_f : ∀ {n k : Nat} {t : TypeId} {v : Value} {ys : List Value}, w.ownsRow B t k v n ys → ∃ a c, v = .slice a n c := fun h => by
    rcases h.2 with ⟨rfl, rfl⟩ | ⟨g, cap, cur, rfl, _⟩
    · exact ⟨_, _, rfl⟩
    · exact ⟨_, _, rfl⟩
  obtain ⟨rs', hl1, hl2, hl3, hl4⟩ := h.ls
  obtain ⟨wa, wc, e1⟩ := own_f h.wn
  obtain ⟨la, lc, e2⟩ := (OG.rg lrC_len hl1.row).form
  obtain ⟨xa, xc, e3⟩ := own_f h.sc
  rw [hl1.len] at e2
  subst e1 e2 e3
  obtain ⟨wn, hwn⟩ : ∃ n, n = b.wn.length := ⟨_, rfl⟩
  obtain ⟨ln, hln⟩ : ∃ n, n = (nsB b).length := ⟨_, rfl⟩
  obtain ⟨xn, hxn⟩ : ∃ n, n = b.sc.length := ⟨_, rfl⟩
  obtain ⟨T, hT⟩ : ∃ T, T = zS (nsB b) (nsB b).length := ⟨_, rfl⟩
  obtain ⟨z1, hz1⟩ : ∃ z, z = 1 + 3 * (wn : Int) := ⟨_, rfl⟩
  obtain ⟨z2, hz2⟩ : ∃ z, z = z1 + (T : Int) := ⟨_, rfl⟩
  obtain ⟨z3, hz3⟩ : ∃ z, z = z2 + (xn : Int) := ⟨_, rfl⟩
  have hTb := hs.ns.2 _ (Nat.le_refl _)
  rw [← hT] at hTb
  have hbd : wn ≤ 1048576 ∧ xn ≤ 1048576 := by have := hs.wn; have := hs.sc; omega
  have hzz : 0 ≤ z1 ∧ z1 ≤ 10000000 ∧ 0 ≤ z2 ∧ z2 ≤ 20000000 ∧ ¬ z1 < 0 ∧ ¬ z2 < 0 ∧ ¬ z3 < 0 := by omega
  have HW : Hid (∀ W, Below w.heap.size w W → Calls Try.prog 76 #[.slice wa wn wc, .int .i64 1] W fun e w' => e = .returned (.int .i64 z1) ∧ w' = W) := fun W hW => by
    rw [hz1]; exact heldWindowS_to 1 hbd.1 (by omega) (by omega) (by rw [hwn]; exact ownsRow_keep h.wn fun q hq => hW.block q (World.ownsRow.lt h.wn q hq).2)
  have HL : Hid (∀ W, Below w.heap.size w W → Calls Try.prog 77 #[.slice la ln lc, .int .i64 z1] W fun e w' => e = .returned (.int .i64 z2) ∧ w' = W) := fun W hW => by
    rw [hz2, hT]
    refine heldLotS_to z1 (by rw [nsB_len]; have := hs.ls; omega) ⟨hzz.1, hzz.2.1⟩ hs.ns.1 hs.ns.2 (B := B) (rs := rs') ?_
    rw [hz1, hwn, hln]
    exact hl1.keep fun q hq => hW.block q (hl1.blk hq).2
  have HX : Hid (∀ W, Below w.heap.size w W → Calls Try.prog 78 #[.slice xa xn xc, .int .i64 z2] W fun e w' => e = .returned (.int .i64 z3) ∧ w' = W) := fun W hW => by
    rw [hz3]
    refine heldInt64S_to z2 hbd.2 (by omega) (by omega) (B := B) ?_
    have h9 := h.sc
    rw [← hT, ← hwn, ← hz1, ← hz2, ← hxn] at h9
    exact ownsRow_keep h9 fun q hq => hW.block q (World.ownsRow.lt h9 q hq).2
  rw [← hwn, ← hln, ← hxn, show zB b = z3 by unfold zB; rw [← hwn, ← hT, ← hxn, ← hz1, ← hz2, ← hz3]]
  obtain ⟨k1, k2, k3, k4, k5, k6, k7⟩ := hzz
  clear h hs hl1 hl2 hl3 hl4 hwn hln hxn hT hz1 hz2 hz3 hTb hbd own_f k1 k2 k3 k4
  go_enter Try.func52, Try.ntmps52
  go_wp2_with (fail)
  refine (HW.out _ (by (repeat' (first | (with_reducible exact Below.refl _ _) | (with_reducible assumption) | (with_reducible refine Below.setCell ?_ ?_ _) | (with_reducible refine Below.alloc ?_ ?_ _) | (with_reducible refine below_drewN ?_ _) | (with_reducible refine Below.drew ?_) | (with_reducible exact Nat.le_refl _) | omega | (simp; done) | (simp; omega))))).mono ?_
  rintro e w1 ⟨rfl, hw1⟩
  subst w1
  go_wp2_with (fail)
  refine (HL.out _ (by (repeat' (first | (with_reducible exact Below.refl _ _) | (with_reducible assumption) | (with_reducible refine Below.setCell ?_ ?_ _) | (with_reducible refine Below.alloc ?_ ?_ _) | (with_reducible refine below_drewN ?_ _) | (with_reducible refine Below.drew ?_) | (with_reducible exact Nat.le_refl _) | omega | (simp; done) | (simp; omega))))).mono ?_
  rintro e w1 ⟨rfl, hw1⟩
  subst w1
  go_wp2_with (fail)
  refine (HX.out _ (by (repeat' (first | (with_reducible exact Below.refl _ _) | (with_reducible assumption) | (with_reducible refine Below.setCell ?_ ?_ _) | (with_reducible refine Below.alloc ?_ ?_ _) | (with_reducible refine below_drewN ?_ _) | (with_reducible refine Below.drew ?_) | (with_reducible exact Nat.le_refl _) | omega | (simp; done) | (simp; omega))))).mono ?_
  rintro e w1 ⟨rfl, hw1⟩
  subst w1
  go_wp2
  go_returns
  exact ⟨rfl, by (repeat' (first | (with_reducible exact Below.refl _ _) | (with_reducible assumption) | (with_reducible refine Below.setCell ?_ ?_ _) | (with_reducible refine Below.alloc ?_ ?_ _) | (with_reducible refine below_drewN ?_ _) | (with_reducible refine Below.drew ?_) | (with_reducible exact Nat.le_refl _) | omega | (simp; done) | (simp; omega)))⟩

set_option maxHeartbeats 3200000 in
theorem heldBookResult_to (C A st : Int) {w : World} {B : Nat} {vw vl vs : Value} {b : Bk} {rs : List Lr} (hs : smBk 1048576 b) (h : MkB w B vw vl vs b rs) (hrd : ∃ wa wc la lc xa xc, vw = .slice wa b.wn.length wc ∧ vl = .slice la b.ls.length lc ∧ vs = .slice xa b.sc.length xc) :
    Calls Try.prog 20 #[.agg #[.int .i64 C, .int .i64 A, .int .i64 st, vw, vl, vs], .int .i64 1] w fun e w' => e = .returned (.int .i64 (zB b)) ∧ Below w.heap.size w w' := by
  obtain ⟨wa, wc, la, lc, xa, xc, rfl, rfl, rfl⟩ := hrd
  obtain ⟨wn, hwn⟩ : ∃ n, n = b.wn.length := ⟨_, rfl⟩
  obtain ⟨ln, hln⟩ : ∃ n, n = b.ls.length := ⟨_, rfl⟩
  obtain ⟨xn, hxn⟩ : ∃ n, n = b.sc.length := ⟨_, rfl⟩
  rw [← hwn, ← hln, ← hxn] at h ⊢
  obtain ⟨z, hz⟩ : ∃ z, z = zB b := ⟨_, rfl⟩
  have hz0 : ¬ z < 0 := by rw [hz]; unfold zB; omega
  rw [← hz]
  have HM : Hid (∀ W, Below w.heap.size w W → Calls Try.prog 52 #[.agg #[.int .i64 st, .slice wa wn wc, .slice la ln lc, .slice xa xn xc], .int .i64 1] W fun e w' => e = .returned (.int .i64 z) ∧ Below W.heap.size W w') := fun W hW => by
    rw [hz]
    refine heldLotBook_to st (B := B) (rs := rs) hs (h.keep fun q hq => hW.block q ?_)
    rcases hq with hq | hq | ⟨a, hq⟩
    · exact (World.ownsRow.lt h.wn q hq).2
    · obtain ⟨rs', h1, _⟩ := h.ls
      exact (h1.blk (Or.inl hq)).2
    · obtain ⟨rs', h1, h2, h3, h4⟩ := h.ls
      cases a with
      | s => exact (World.ownsRow.lt h.sc q hq).2
      | w i => exact (h1.blk (Or.inr ⟨.w i, by rw [h2]; exact hq⟩)).2
      | d i => exact (h1.blk (Or.inr ⟨.d i, by rw [h3]; exact hq⟩)).2
  clear h hs hwn hln hxn hz
  go_enter Try.func20, Try.ntmps20
  go_wp2_with (fail)
  refine (HM.out _ (by (repeat' (first | (with_reducible exact Below.refl _ _) | (with_reducible assumption) | (with_reducible refine Below.setCell ?_ ?_ _) | (with_reducible refine Below.alloc ?_ ?_ _) | (with_reducible refine below_drewN ?_ _) | (with_reducible refine Below.drew ?_) | (with_reducible exact Nat.le_refl _) | omega | (simp; done) | (simp; omega))))).mono ?_
  rintro e w1 ⟨rfl, hb⟩
  have HB : Hid (Below w.heap.size w w1) := (show Below w.heap.size w _ from by (repeat' (first | (with_reducible exact Below.refl _ _) | (with_reducible assumption) | (with_reducible refine Below.setCell ?_ ?_ _) | (with_reducible refine Below.alloc ?_ ?_ _) | (with_reducible refine below_drewN ?_ _) | (with_reducible refine Below.drew ?_) | (with_reducible exact Nat.le_refl _) | omega | (simp; done) | (simp; omega)))).trans (hb.mono (by simp))
  clear hb HM
  go_wp2
  go_returns
  exact ⟨rfl, HB.out⟩

end Go.Proofs.Ytcfjanignfbidaa

namespace Go.Proofs.Ytcfjanignfbidaa
open Go.RowKit
set_option linter.unusedVariables false
set_option linter.unusedSimpArgs false

def OBkZ (V : World) (B Z : Nat) (vw vl vs : Value) (b : Bk) : Prop := ∃ rs, PB V B vw vl vs (wvO rs) b rs ∧ ∀ q, PBk vw vl vs (wvO rs) rs q → q < Z
theorem OBkZ.rx {V : World} {B Z : Nat} {vw vl vs : Value} {b : Bk} (h : OBkZ V B Z vw vl vs b) : RdX V vw vl vs b := by
  obtain ⟨rs, h, _⟩ := h; exact h.rx
theorem Ow.bkZ {V V0 : World} {vw vl vs : Value} {b : Bk} (h : OBk V V0.heap.size vw vl vs b) (hb : Below V0.heap.size V0 V) : Ow V0.heap.size V.heap.size (fun V' => OBkZ V' V0.heap.size V.heap.size vw vl vs b) V := by
  obtain ⟨rs, h⟩ := h
  exact ⟨⟨rs, h, h.ltq⟩, fun V' hq => ⟨rs, h.keep fun q hk => hq q (h.blk hk).1 (h.ltq q hk), h.ltq⟩, ⟨hb.size, Nat.le_refl _⟩⟩
theorem markLotBook_lz (st : Int) {w : World} {B Z : Nat} {vw vl vs : Value} {b : Bk} (hs : smBk 1048576 b) (h : OBkZ w B Z vw vl vs b) :
    Calls Try.prog 17 #[.agg #[.int .i64 st, vw, vl, vs], .int .i64 1] w fun e w' => e = .returned (.int .i64 (zB b)) ∧ True ∧ Chg B Z w w' :=
  markLotBook_lw st hs (by obtain ⟨rs, h, _⟩ := h; exact ⟨rs, h⟩) (fun _ => h)
theorem zB_bd {b : Bk} (h : smBk 1048576 b) : 0 ≤ zB b ∧ zB b ≤ 10000000 := by
  have h1 := zS_tS b b.ls.length (Nat.le_refl _)
  have h2 := h.wn; have h3 := h.ls; have h4 := h.sc; have h5 := h.tot
  unfold zB
  rw [nsB_len, h1]
  omega

end Go.Proofs.Ytcfjanignfbidaa
