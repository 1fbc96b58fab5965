/- Proved here: how the laws' package marks books of lots and answers that hold one, and what is held then. -/
import Derived.Test.YtcfjanignfbidaaQmI
import Derived.Test.YtcfjanignfbidaaMkWd
namespace Go.Proofs.Ytcfjanignfbidaa
open Go.RowKit
set_option linter.unusedVariables false
set_option linter.unusedSimpArgs false

/-- How long the lots' lists are. -/
def nsB (b : Bk) : List (Nat × Nat) := b.ls.map fun l => (l.ws.length, l.dn.length)
theorem nsB_len (b : Bk) : (nsB b).length = b.ls.length := by simp [nsB]
theorem nsB_at {b : Bk} {i : Nat} (h : i < (nsB b).length) (h' : i < b.ls.length) : (nsB b)[i] = (b.ls[i].ws.length, b.ls[i].dn.length) := by simp [nsB]
theorem zS_tS (b : Bk) : ∀ n, n ≤ b.ls.length → zS (nsB b) n = 3 * n + tS b.ls n := by
  intro n
  induction n with
  | zero => intro _; rfl
  | succ n ih =>
    intro hn
    rw [zS_at (by rw [nsB_len]; omega), tS_at (by omega), ih (by omega), nsB_at _ (by omega)]
    simp only
    omega
theorem smBk.ns {b : Bk} (h : smBk 1048576 b) : (∀ i (hi : i < (nsB b).length), (nsB b)[i].1 ≤ 1048576 ∧ (nsB b)[i].2 ≤ 1048576) ∧ (∀ i, i ≤ (nsB b).length → zS (nsB b) i ≤ 10000000) := by
  have mono : ∀ n, n ≤ b.ls.length → tS b.ls n ≤ tS b.ls b.ls.length := by
    intro n hn
    have : ∀ k, n + k ≤ b.ls.length → tS b.ls n ≤ tS b.ls (n + k) := by
      intro k
      induction k with
      | zero => intro _; exact Nat.le_refl _
      | succ k ih => intro hk; exact Nat.le_trans (ih (by omega)) (by show _ ≤ tS b.ls (n + k) + _; omega)
    have h9 := this (b.ls.length - n) (by omega)
    rwa [show n + (b.ls.length - n) = b.ls.length by omega] at h9
  refine ⟨fun i hi => ?_, fun i hi => ?_⟩
  · have hi' : i < b.ls.length := by rw [nsB_len] at hi; exact hi
    rw [nsB_at hi hi']
    have := (h.at_ i hi').1
    have := (h.at_ i hi').2.1
    simp only
    omega
  · rw [nsB_len] at hi
    rw [zS_tS b i hi]
    have h1 := mono i hi
    have h2 := h.tot
    have h3 := h.ls
    omega
/-- A marked book. -/
structure MkB (V : World) (B : Nat) (vw vl vs : Value) (b : Bk) (rs : List Lr) : Prop where
  wn : V.ownsRow B 99 3 vw b.wn.length (mkV 1 (b.wn.length * 3))
  ls : ∃ rs', LM V B vl (nsB b) (1 + 3 * (b.wn.length : Int)) (nsB b).length rs' ∧ wvO rs' = wvO rs ∧ dvO rs' = dvO rs ∧ rs'.length = rs.length
  sc : V.ownsRow B 2 1 vs b.sc.length (mkV (1 + 3 * (b.wn.length : Int) + (zS (nsB b) (nsB b).length : Int)) b.sc.length)
theorem PB.lm {V : World} {B : Nat} {vw vl vs : Value} {b : Bk} {rs : List Lr} (h : PB V B vw vl vs (wvO rs) b rs) (z : Int) : LM V B vl (nsB b) z 0 rs := by
  refine ⟨h.row, by rw [nsB_len, h.len], fun i _ _ h0 => by omega, fun i h1 h2 => ?_, fun i h1 h2 => ?_, ?_⟩
  · have hi : i < b.ls.length := by rw [nsB_len] at h2; exact h2
    have := h.ws i hi
    rw [wvO_lt h1] at this
    rw [nsB_at h2 hi]
    exact ⟨_, this, fun h0 => by omega⟩
  · have hi : i < b.ls.length := by rw [nsB_len] at h2; exact h2
    rw [nsB_at h2 hi]
    exact ⟨_, h.dn i h1 hi, fun h0 => by omega⟩
  · intro a c hac g ha hc
    have e : ∀ x : Sx, (slv nilV (wvO rs) (dvO rs) x).ownBlock = some g → (slv vs (wvO rs) (dvO rs) x).ownBlock = some g := fun x hx => by
      cases x with
      | s => cases hx
      | w i => exact hx
      | d i => exact hx
    exact h.ap a c hac g (e a ha) (e c hc)
theorem LBk.pb {vw vl vs : Value} {rs : List Lr} {q : Nat} (h : LBk vl rs q) : PBk vw vl vs (wvO rs) rs q := by
  rcases h with h | ⟨a, h⟩
  · exact Or.inr (Or.inl h)
  · refine Or.inr (Or.inr ⟨a, ?_⟩)
    cases a with
    | s => cases h
    | w i => exact h
    | d i => exact h
/-- The windows' and the scrap's block are none of the lots'. -/
theorem PB.off {V : World} {B : Nat} {vw vl vs : Value} {b : Bk} {rs : List Lr} (h : PB V B vw vl vs (wvO rs) b rs) {q : Nat} (hq : LBk vl rs q) : vw.ownBlock ≠ some q ∧ vs.ownBlock ≠ some q := by
  rcases hq with hq | ⟨a, hq⟩
  · obtain ⟨_, _, cs, e⟩ := rowBlk h.row hq
    refine ⟨fun e2 => ?_, fun e2 => ?_⟩
    · obtain ⟨_, _, ds, e3⟩ := rowBlk h.wn e2; exact kindsR e e3 (by decide)
    · obtain ⟨_, _, ds, e3⟩ := rowBlk h.sc e2; exact kindsR e e3 (by decide)
  · obtain ⟨_, _, cs, e⟩ := (h.lm 0).sb hq
    refine ⟨fun e2 => ?_, fun e2 => ?_⟩
    · obtain ⟨_, _, ds, e3⟩ := rowBlk h.wn e2; exact kindsR e e3 (by decide)
    · have hne : a ≠ .s := fun e => by subst e; cases hq
      refine h.ap .s a (fun e => hne e.symm) q e2 ?_
      cases a with
      | s => cases hq
      | w i => exact hq
      | d i => exact hq
theorem PB.winS {V : World} {B : Nat} {vw vl vs : Value} {wv : Nat → Value} {b : Bk} {rs : List Lr} (h : PB V B vw vl vs wv b rs) {q : Nat} (hq : vw.ownBlock = some q) : vs.ownBlock ≠ some q := fun e => by
  obtain ⟨_, _, cs, e1⟩ := rowBlk h.wn hq
  obtain ⟨_, _, ds, e2⟩ := rowBlk h.sc e
  exact kindsR e1 e2 (by decide)
def zB (b : Bk) : Int := 1 + 3 * (b.wn.length : Int) + (zS (nsB b) (nsB b).length : Int) + (b.sc.length : Int)

set_option maxRecDepth 10000 in
set_option maxHeartbeats 3200000 in
theorem markLotBook_to (st : Int) {w : World} {B : Nat} {vw vl vs : Value} {b : Bk} {rs : List Lr} (hs : smBk 1048576 b) (h : PB w B vw vl vs (wvO rs) b rs) :
    Calls Try.prog 17 #[.agg #[.int .i64 st, vw, vl, vs], .int .i64 1] w fun e w' => e = .returned (.int .i64 (zB b)) ∧ MkB w' B vw vl vs b rs ∧ Tn (PBk vw vl vs (wvO rs) rs) w w' := by
  obtain ⟨wa, wc, e1⟩ := (OG.rg wdC_len h.wn).form
  obtain ⟨la, lc, e2⟩ := (OG.rg lrC_len h.row).form
  obtain ⟨xa, xc, e3⟩ := h.sc.form
  rw [h.len] at e2
  subst e1 e2 e3
  obtain ⟨wn, hwn⟩ : ∃ n, n = b.wn.length := ⟨_, rfl⟩
  obtain ⟨ln, hln⟩ : ∃ n, n = b.ls.length := ⟨_, rfl⟩
  obtain ⟨xn, hxn⟩ : ∃ n, n = b.sc.length := ⟨_, rfl⟩
  obtain ⟨T, hT⟩ : ∃ T, T = zS (nsB b) (nsB b).length := ⟨_, rfl⟩
  obtain ⟨z1, hz1⟩ : ∃ z, z = 1 + 3 * (wn : Int) := ⟨_, rfl⟩
  obtain ⟨z2, hz2⟩ : ∃ z, z = z1 + (T : Int) := ⟨_, rfl⟩
  obtain ⟨z3, hz3⟩ : ∃ z, z = z2 + (xn : Int) := ⟨_, rfl⟩
  have hTb := hs.ns.2 _ (Nat.le_refl _)
  rw [← hT] at hTb
  have hbd : wn ≤ 1048576 ∧ ln ≤ 1048576 ∧ xn ≤ 1048576 := by have := hs.wn; have := hs.ls; have := hs.sc; omega
  rw [← hwn, ← hln, ← hxn] at h ⊢
  rw [show zB b = z3 by unfold zB; rw [← hwn, ← hT, ← hxn, ← hz1, ← hz2, ← hz3]]
  obtain ⟨W0, hW0⟩ : ∃ W, W = w.alloc (.cells #[.int .i64 st, .slice wa wn wc, .slice la ln lc, .slice xa xn xc] 31) := ⟨_, rfl⟩
  have HW0 : Hid (Below w.heap.size w W0 ∧ W0.heap[w.heap.size]? = some (.cells #[.int .i64 st, .slice wa wn wc, .slice la ln lc, .slice xa xn xc] 31)) := by rw [hW0]; exact ⟨by (repeat' (first | (with_reducible exact Below.refl _ _) | (with_reducible assumption) | (with_reducible refine Below.setCell ?_ ?_ _) | (with_reducible refine Below.alloc ?_ ?_ _) | (with_reducible refine below_drewN ?_ _) | (with_reducible refine Below.drew ?_) | (with_reducible exact Nat.le_refl _) | omega | (simp; done) | (simp; omega))), heap_alloc_new _ _⟩
  have H : Hid (PB w B (.slice wa wn wc) (.slice la ln lc) (.slice xa xn xc) (wvO rs) b rs ∧ PB W0 B (.slice wa wn wc) (.slice la ln lc) (.slice xa xn xc) (wvO rs) b rs ∧ smBk 1048576 b ∧ wn = b.wn.length ∧ xn = b.sc.length ∧ T = zS (nsB b) (nsB b).length ∧ z1 = 1 + 3 * (wn : Int) ∧ z2 = z1 + (T : Int) ∧ z3 = z2 + (xn : Int)) := ⟨h, h.below HW0.out.1, hs, hwn, hxn, hT, hz1, hz2, hz3⟩
  have hzz : 0 ≤ z1 ∧ z1 ≤ 10000000 ∧ 0 ≤ z2 ∧ z2 ≤ 20000000 := by omega
  clear h hs hwn hln hxn hT hz1 hz2 hz3
  go_enter Try.func17, Try.ntmps17
  go_wp2_with (fail)
  rw [← hW0]
  clear hW0
  have hw1 : W0.ownsRow B 99 3 (.slice wa wn wc) wn (b.wn.flatMap wdC) := by have := H.out.2.1.wn; unfold OG at this; rw [← H.out.2.2.2.1] at this; exact this
  refine (markWindowS_to 1 hbd.1 (by omega) (by omega) (own_tight hw1) (tight_lt _)).mono ?_
  rintro e W1 ⟨rfl, hm1, hc1⟩
  rw [← H.out.2.2.2.2.2.2.1]
  have T1 : Tn (PBk (.slice wa wn wc) (.slice la ln lc) (.slice xa xn xc) (wvO rs) rs) W0 W1 := Tn.of_chg hc1 fun q hq => Or.inl hq
  have of1 : ∀ q, q < W0.heap.size → (Value.slice wa wn wc).ownBlock ≠ some q → W1.heap[q]? = W0.heap[q]? := fun q h1 h2 => hc1.off h1 h2
  have lm1 : LM W1 B (.slice la ln lc) (nsB b) z1 0 rs := (H.out.2.1.lm z1).keep fun q hq => of1 q ((H.out.2.1.lm 0).blk hq).2 (H.out.2.1.off hq).1
  have HW1 : Hid (W1.ownsRow B 99 3 (.slice wa wn wc) wn (mkV 1 (wn * 3)) ∧ LM W1 B (.slice la ln lc) (nsB b) z1 0 rs ∧ IS W1 B (.slice xa xn xc) b.sc ∧ W1.heap[w.heap.size]? = some (.cells #[.int .i64 st, .slice wa wn wc, .slice la ln lc, .slice xa xn xc] 31) ∧ Tn (PBk (.slice wa wn wc) (.slice la ln lc) (.slice xa xn xc) (wvO rs) rs) W0 W1) := by
    refine ⟨own_back hm1 fun q hq => (World.ownsRow.lt hw1 q hq).1, lm1, H.out.2.1.sc.kept fun q hq => of1 q (IS.lt H.out.2.1.sc q hq).2 fun e => ?_, (of1 _ (ltOf HW0.out.2) fun e => ?_).trans HW0.out.2, T1⟩
    · exact H.out.2.1.winS e hq
    · have := (H.out.1.blk (Or.inl e)).2; omega
  have p2 := cellOf HW1.out.2.2.2.1 2 rfl
  have pl := ltOf HW1.out.2.2.2.1
  clear hm1 hc1 T1 of1 lm1 hw1
  go_wp2_with (fail)
  refine (markLotS_to z1 (by rw [nsB_len]; have := H.out.2.2.1.ls; omega) ⟨hzz.1, hzz.2.1⟩ H.out.2.2.1.ns.1 (H.out.2.2.1.ns.2 _ (Nat.le_refl _)) HW1.out.2.1).mono ?_
  rintro e W2 ⟨rfl, rs', hm2, hsame, ht2⟩
  rw [← H.out.2.2.2.2.2.1, ← H.out.2.2.2.2.2.2.2.1]
  have HW2 : Hid (W2.ownsRow B 99 3 (.slice wa wn wc) wn (mkV 1 (wn * 3)) ∧ (LM W2 B (.slice la ln lc) (nsB b) z1 (nsB b).length rs' ∧ wvO rs' = wvO rs ∧ dvO rs' = dvO rs ∧ rs'.length = rs.length) ∧ IS W2 B (.slice xa xn xc) b.sc ∧ W2.heap[w.heap.size]? = some (.cells #[.int .i64 st, .slice wa wn wc, .slice la ln lc, .slice xa xn xc] 31) ∧ Tn (PBk (.slice wa wn wc) (.slice la ln lc) (.slice xa xn xc) (wvO rs) rs) W0 W2) := by
    refine ⟨ownsRow_keep HW1.out.1 fun q hq => ht2.block q (World.ownsRow.lt HW1.out.1 q hq).2 fun e => (H.out.1.off e).1 hq, ⟨hm2, hsame⟩, HW1.out.2.2.1.kept fun q hq => ht2.block q (IS.lt HW1.out.2.2.1 q hq).2 fun e => (H.out.1.off e).2 hq, (ht2.block _ (ltOf HW1.out.2.2.2.1) fun e => ?_).trans HW1.out.2.2.2.1, HW1.out.2.2.2.2.trans (ht2.mono fun q hq => hq.pb)⟩
    have := ((H.out.1.lm 0).blk e).2; omega
  have p3 := cellOf HW2.out.2.2.2.1 3 rfl
  have pl := ltOf HW2.out.2.2.2.1
  clear hm2 hsame ht2 HW1 p2
  go_wp2_with (fail)
  have hx2 : W2.ownsRow B 2 1 (.slice xa xn xc) xn (b.sc.map (Value.int .i64)) := by have := HW2.out.2.2.1; unfold IS at this; rw [← H.out.2.2.2.2.1] at this; exact this
  refine (markInt64S_to z2 hbd.2.2 (by omega) (by omega) (own_tight hx2) (tight_lt _)).mono ?_
  rintro e W3 ⟨rfl, hm3, hc3⟩
  rw [← H.out.2.2.2.2.2.2.2.2]
  have HF : Hid (MkB W3 B (.slice wa wn wc) (.slice la ln lc) (.slice xa xn xc) b rs ∧ Tn (PBk (.slice wa wn wc) (.slice la ln lc) (.slice xa xn xc) (wvO rs) rs) w W3) := by
    have of3 : ∀ q, q < W2.heap.size → (Value.slice xa xn xc).ownBlock ≠ some q → W3.heap[q]? = W2.heap[q]? := fun q h1 h2 => hc3.off h1 h2
    obtain ⟨e1, e2, e3⟩ : wn = b.wn.length ∧ xn = b.sc.length ∧ T = zS (nsB b) (nsB b).length := ⟨H.out.2.2.2.1, H.out.2.2.2.2.1, H.out.2.2.2.2.2.1⟩
    have ez1 : z1 = 1 + 3 * (b.wn.length : Int) := by rw [H.out.2.2.2.2.2.2.1, e1]
    have ez2 : z2 = 1 + 3 * (b.wn.length : Int) + (zS (nsB b) (nsB b).length : Int) := by rw [H.out.2.2.2.2.2.2.2.1, ez1, e3]
    refine ⟨⟨?_, ⟨rs', ?_, HW2.out.2.1.2⟩, ?_⟩, ?_⟩
    · rw [← e1]
      exact ownsRow_keep HW2.out.1 fun q hq => of3 q (World.ownsRow.lt HW2.out.1 q hq).2 fun e => H.out.1.winS hq e
    · rw [← ez1]
      refine HW2.out.2.1.1.keep fun q hq => of3 q (HW2.out.2.1.1.blk hq).2 fun e => ?_
      have hq' : LBk (.slice la ln lc) rs q := by unfold LBk at hq ⊢; rw [HW2.out.2.1.2.1, HW2.out.2.1.2.2.1] at hq; exact hq
      exact (H.out.1.off hq').2 e
    · rw [← ez2, ← e2]
      exact own_back hm3 fun q hq => (World.ownsRow.lt hx2 q hq).1
    · have t0 : Tn (PBk (.slice wa wn wc) (.slice la ln lc) (.slice xa xn xc) (wvO rs) rs) w W0 := ⟨HW0.out.1.os, HW0.out.1.tape, HW0.out.1.output, HW0.out.1.size, fun q hq _ => HW0.out.1.block q hq⟩
      exact t0.trans (HW2.out.2.2.2.2.trans (Tn.of_chg hc3 fun q hq => Or.inr (Or.inr ⟨.s, hq⟩)))
  clear hm3 hc3 hx2 HW2 p3
  go_wp2
  go_returns
  exact ⟨rfl, HF.out⟩

end Go.Proofs.Ytcfjanignfbidaa
