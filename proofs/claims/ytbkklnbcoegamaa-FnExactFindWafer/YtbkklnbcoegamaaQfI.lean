/- Proved here: FindWafer of the program: fwC, fwV. -/
import Derived.Test.YtbkklnbcoegamaaQfM
import Derived.Test.YtbkklnbcoegamaaQbL
namespace Go.Proofs.Ytbkklnbcoegamaa
open Go.RowKit Go.Maps
set_option linter.unusedVariables false
set_option linter.unusedSimpArgs false

set_option maxRecDepth 10000 in
set_option maxHeartbeats 3200000 in
theorem impl_fw {st : Int} {w : World} {vw vl vs : Value} {b : Bk} {x : Int} (hst : b.st = st) (hx : (Lit.int .i64 x).wf = true) (hs : smBk 1048576 b) (h : RdBk w vw vl vs b) :
    Calls Try.prog 20 #[.agg #[.int .i64 st, vw, vl, vs], .int .i64 x] w fun e w' => e = .returned (.agg #[.int .i64 (fwC b x), .int .i64 (fwV b x)]) ∧ Below w.heap.size w w' := by
  obtain ⟨wa, wc, e1⟩ := h.wn.form
  obtain ⟨la, lc, e2⟩ := h.ls.form
  obtain ⟨xa, xc, e3⟩ := h.sc.form
  subst e1 e2 e3
  obtain ⟨wn, hwn⟩ : ∃ n, n = b.wn.length := ⟨_, rfl⟩
  obtain ⟨ln, hln⟩ : ∃ n, n = b.ls.length := ⟨_, rfl⟩
  obtain ⟨xn, hxn⟩ : ∃ n, n = b.sc.length := ⟨_, rfl⟩
  rw [← hwn, ← hln, ← hxn] at h ⊢
  obtain ⟨K, hK⟩ : ∃ K, K = bkF b := ⟨_, rfl⟩
  obtain ⟨W, hW⟩ : ∃ W, W = (w.alloc (.cells #[.int .i64 st, .slice wa wn wc, .slice la ln lc, .slice xa xn xc] 31)).alloc (.cells #[.int .i64 0, .int .i64 0] 42) := ⟨_, rfl⟩
  have HW : Hid (Below w.heap.size w W ∧ W.heap[w.heap.size]? = some (.cells #[.int .i64 st, .slice wa wn wc, .slice la ln lc, .slice xa xn xc] 31) ∧ W.heap[w.heap.size + 1]? = some (.cells #[.int .i64 0, .int .i64 0] 42)) := by
    rw [hW]
    refine ⟨by (repeat' (first | (with_reducible exact Below.refl _ _) | (with_reducible assumption) | (with_reducible refine Below.setCell ?_ ?_ _) | (with_reducible refine Below.alloc ?_ ?_ _) | (with_reducible refine below_drewN ?_ _) | (with_reducible refine Below.drew ?_) | (with_reducible exact Nat.le_refl _) | omega | (simp; done) | (simp; omega))), (Below.heap_alloc _ _ _ (by simp)).trans (heap_alloc_new w _), ?_⟩
    have := heap_alloc_new (w.alloc (.cells #[.int .i64 st, .slice wa wn wc, .slice la ln lc, .slice xa xn xc] 31)) (.cells #[.int .i64 0, .int .i64 0] 42); simpa using this
  have HB : Hid (Calls Try.prog 53 #[.agg #[.int .i64 st, .slice wa wn wc, .slice la ln lc, .slice xa xn xc]] W fun e w' => e = .returned (.int .i64 K) ∧ Below W.heap.size W w') := by rw [hK]; exact impl_bf hst hs (h.below HW.out.1)
  have HR0 : Hid (RdBk w (.slice wa wn wc) (.slice la ln lc) (.slice xa xn xc) b ∧ K = bkF b ∧ (Lit.int .i64 x).wf = true) := ⟨h, hK, hx⟩
  clear h hs hst hwn hln hxn hK hx
  go_enter Try.func20, Try.ntmps20
  go_wp2_with (fail)
  rw [← hW]
  clear hW
  refine HB.out.mono ?_
  rintro e w1 ⟨rfl, hb1⟩
  have m0 := (hb1.block _ (ltOfQ HW.out.2.1)).trans HW.out.2.1
  have m1 := (hb1.block _ (ltOfQ HW.out.2.2)).trans HW.out.2.2
  have HB1 : Hid (Below w.heap.size w w1 ∧ w1.heap[w.heap.size]? = some (.cells #[.int .i64 st, .slice wa wn wc, .slice la ln lc, .slice xa xn xc] 31) ∧ w1.heap[w.heap.size + 1]? = some (.cells #[.int .i64 0, .int .i64 0] 42)) := ⟨HW.out.1.trans (hb1.mono HW.out.1.size), m0, m1⟩
  have r0 := cellOfQ m1 0 rfl
  have r1 := cellOfQ m1 1 rfl
  have rl := ltOfQ m1
  have rf0 := frozOfQ m1 0
  have rf1 := frozOfQ m1 1
  obtain ⟨p0, p1, p2, p3, pl⟩ : w1.cell? ⟨w.heap.size, 0, none⟩ = some (.int .i64 st) ∧ w1.cell? ⟨w.heap.size, 1, none⟩ = some (.slice wa wn wc) ∧ w1.cell? ⟨w.heap.size, 2, none⟩ = some (.slice la ln lc) ∧ w1.cell? ⟨w.heap.size, 3, none⟩ = some (.slice xa xn xc) ∧ w.heap.size < w1.heap.size := ⟨cellOfQ m0 0 rfl, cellOfQ m0 1 rfl, cellOfQ m0 2 rfl, cellOfQ m0 3 rfl, ltOfQ m0⟩
  clear hb1 HB HW m0 m1
  by_cases hK0 : K = 0
  case neg =>
    have HC : Hid (fwC b x = K ∧ fwV b x = 0) := by
      unfold Hid fwC fwV
      rw [← HR0.out.2.1, if_pos hK0, if_neg hK0]
      exact ⟨rfl, rfl⟩
    have hKb : (K == 0) = false := beq_eq_false_iff_ne.2 hK0
    go_wp2
    try simp only [Exit.inBlock, Exit.then]
    refine bodyPost_ret (by simp [results, Try.results20, go_sem, r0, r1, rl, rf0, rf1]; try rfl) rfl ⟨by rw [HC.out.1, HC.out.2], ?_⟩
    have hb := HB1.out.1
    (repeat' (first | (with_reducible exact Below.refl _ _) | (with_reducible assumption) | (with_reducible refine Below.setCell ?_ ?_ _) | (with_reducible refine Below.alloc ?_ ?_ _) | (with_reducible refine below_drewN ?_ _) | (with_reducible refine Below.drew ?_) | (with_reducible exact Nat.le_refl _) | omega | (simp; done) | (simp; omega)))
  have HG : Hid (GBk b) := bkF_zero (by rw [← HR0.out.2.1]; exact hK0)
  have HWL : Hid (Calls Try.prog 54 #[.agg #[.int .i64 st, .slice wa wn wc, .slice la ln lc, .slice xa xn xc]] w1 fun e w' => ∃ bm : Nat, e = .returned (.tuple #[.map (some bm), .int .i64 (wfC [] (alL b))]) ∧ (wfC [] (alL b) = 0 → IM 2 w' bm 1000 (whF b)) ∧ w1.heap.size ≤ bm ∧ Below w1.heap.size w1 w') := impl_wlo st HG.out.wbk (HR0.out.1.below HB1.out.1)
  subst hK0
  go_wp2_with (fail)
  refine HWL.out.mono ?_
  rintro e w2 ⟨bm, rfl, hi2, hge, hb2⟩
  have hi := hi2 HG.out.wf
  have hl := hi.look_ok (T := 90) wl_ty i6_ty (i6_zero w2) HR0.out.2.2
  obtain ⟨v, hv⟩ : ∃ v, v = (whF b x).getD 0 := ⟨_, rfl⟩
  obtain ⟨o, ho⟩ : ∃ v, v = (whF b x).isSome := ⟨_, rfl⟩
  rw [← hv, ← ho] at hl
  have HC : Hid (fwC b x = (if o = true then 0 else 4) ∧ fwV b x = v ∧ (o = false → v = 0)) := by
    unfold Hid fwC fwV
    rw [← HR0.out.2.1, if_neg (by decide), if_pos rfl, hv, ho]
    exact ⟨rfl, rfl, fun e => by rw [Option.isSome_eq_false_iff.1 e |> Option.isNone_iff_eq_none.1]; rfl⟩
  have m1 := (hb2.block _ (ltOfQ HB1.out.2.2)).trans HB1.out.2.2
  have HB2 : Hid (Below w.heap.size w w2) := HB1.out.1.trans (hb2.mono HB1.out.1.size)
  clear r0 r1 rl rf0 rf1 p0 p1 p2 p3 pl hi2 hi hge hb2 hv ho HWL
  have r0 := cellOfQ m1 0 rfl
  have r1 := cellOfQ m1 1 rfl
  have rl := ltOfQ m1
  have rf0 := frozOfQ m1 0
  have rf1 := frozOfQ m1 1
  clear m1
  cases o
  · have HD : Hid (fwC b x = 4 ∧ fwV b x = 0) := ⟨HC.out.1, by rw [HC.out.2.1]; exact HC.out.2.2 rfl⟩
    go_wp2
    try simp only [Exit.inBlock, Exit.then]
    refine bodyPost_ret (by simp [results, Try.results20, go_sem, r0, r1, rl, rf0, rf1]; try rfl) rfl ⟨by rw [HD.out.1, HD.out.2], ?_⟩
    have hb := HB2.out
    (repeat' (first | (with_reducible exact Below.refl _ _) | (with_reducible assumption) | (with_reducible refine Below.setCell ?_ ?_ _) | (with_reducible refine Below.alloc ?_ ?_ _) | (with_reducible refine below_drewN ?_ _) | (with_reducible refine Below.drew ?_) | (with_reducible exact Nat.le_refl _) | omega | (simp; done) | (simp; omega)))
  · have HD : Hid (fwC b x = 0 ∧ fwV b x = v) := ⟨HC.out.1, HC.out.2.1⟩
    go_wp2
    try simp only [Exit.inBlock, Exit.then]
    refine bodyPost_ret (by simp [results, Try.results20, go_sem, r0, r1, rl, rf0, rf1]; try rfl) rfl ⟨by rw [HD.out.1, HD.out.2], ?_⟩
    have hb := HB2.out
    (repeat' (first | (with_reducible exact Below.refl _ _) | (with_reducible assumption) | (with_reducible refine Below.setCell ?_ ?_ _) | (with_reducible refine Below.alloc ?_ ?_ _) | (with_reducible refine below_drewN ?_ _) | (with_reducible refine Below.drew ?_) | (with_reducible exact Nat.le_refl _) | omega | (simp; done) | (simp; omega)))

end Go.Proofs.Ytbkklnbcoegamaa
