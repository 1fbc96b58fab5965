/- Proved here: HoldLot of the model, by a contract of its copy of a book. -/
import Derived.Test.YtcfjanignfbidaaOgS
import Derived.Test.YtcfjanignfbidaaQwG
namespace Go.Proofs.Ytcfjanignfbidaa
open Go.RowKit Go.Maps
set_option linter.unusedVariables false
set_option linter.unusedSimpArgs false

set_option maxHeartbeats 1600000 in
theorem spec_cd (C : Int) (w : World) : Calls Try.prog 35 #[.int .i64 C] w fun e w' => e = .returned (.agg #[.int .i64 C, .int .i64 0, .int .i64 0, .slice none 0 0, .slice none 0 0, .slice none 0 0]) ∧ Below w.heap.size w w' := by
  go_enter Try.func35, Try.ntmps35
  go_wp2
  try simp only [Exit.inBlock, Exit.then]
  refine bodyPost_ret (by simp [results, Try.results35, go_sem]; try rfl) rfl ⟨rfl, ?_⟩
  (repeat' (first | (with_reducible exact Below.refl _ _) | (with_reducible assumption) | (with_reducible refine Below.setCell ?_ ?_ _) | (with_reducible refine Below.alloc ?_ ?_ _) | (with_reducible refine below_drewN ?_ _) | (with_reducible refine Below.drew ?_) | (with_reducible exact Nat.le_refl _) | omega | (simp; done) | (simp; omega)))
/-- What the model's copy of a book answers. -/
def CpB : Prop := ∀ (st : Int) (w : World) (vw vl vs : Value) (b : Bk), b.st = st → smBk 1048576 b → RdX w vw vl vs b → Calls Try.prog 39 #[.agg #[.int .i64 st, vw, vl, vs]] w fun e w' => ∃ (vq : Value × Value × Value) (rs : List Lr), e = .returned (.agg #[.int .i64 st, vq.1, vq.2.1, vq.2.2]) ∧ PB w' w.heap.size vq.1 vq.2.1 vq.2.2 (wvO rs) b rs ∧ Below w.heap.size w w'
set_option maxRecDepth 10000 in
set_option maxHeartbeats 3200000 in
theorem spec_hl0 (hcp : CpB) {st : Int} {w : World} {vw vl vs : Value} {b : Bk} (id : Int) (q : Bool) (hst : b.st = st) (hs : smBk 1048576 b) (h : RdX w vw vl vs b) :
    Calls Try.prog 25 #[.agg #[.int .i64 st, vw, vl, vs], .int .i64 id, .bool q] w fun e w' => ∃ (vq : Value × Value × Value) (rs : List Lr), e = .returned (.agg #[.int .i64 (bgC b id), .int .i64 0, .int .i64 (hdB b id q).st, vq.1, vq.2.1, vq.2.2]) ∧ PB w' w.heap.size vq.1 vq.2.1 vq.2.2 (wvO rs) (hdB b id q) rs ∧ Below w.heap.size w w' := by
  obtain ⟨wa, wc, e1⟩ := h.wn.form
  obtain ⟨la, lc, e2⟩ := h.ls.rlo.form
  obtain ⟨xa, xc, e3⟩ := h.sc.form
  subst e1 e2 e3
  obtain ⟨wn, hwn⟩ : ∃ n, n = b.wn.length := ⟨_, rfl⟩
  obtain ⟨ln, hln⟩ : ∃ n, n = b.ls.length := ⟨_, rfl⟩
  obtain ⟨xn, hxn⟩ : ∃ n, n = b.sc.length := ⟨_, rfl⟩
  rw [← hwn, ← hln, ← hxn] at h ⊢
  obtain ⟨A, hA⟩ : ∃ K, K = bgA b id := ⟨_, rfl⟩
  obtain ⟨C, hC⟩ : ∃ K, K = bgC b id := ⟨_, rfl⟩
  obtain ⟨RB, hRB⟩ : ∃ K, K = hdB b id q := ⟨_, rfl⟩
  rw [← hC, ← hRB]
  obtain ⟨W, hW⟩ : ∃ W, W = (w.alloc (.cells #[.int .i64 st, .slice wa wn wc, .slice la ln lc, .slice xa xn xc] 31)).alloc (.cells #[.int .i64 0, .int .i64 0, .int .i64 0, .slice none 0 0, .slice none 0 0, .slice none 0 0] 33) := ⟨_, rfl⟩
  have HW : Hid (Below w.heap.size w W ∧ W.heap[w.heap.size]? = some (.cells #[.int .i64 st, .slice wa wn wc, .slice la ln lc, .slice xa xn xc] 31) ∧ W.heap[w.heap.size + 1]? = some (.cells #[.int .i64 0, .int .i64 0, .int .i64 0, .slice none 0 0, .slice none 0 0, .slice none 0 0] 33)) := by
    rw [hW]
    refine ⟨by (repeat' (first | (with_reducible exact Below.refl _ _) | (with_reducible assumption) | (with_reducible refine Below.setCell ?_ ?_ _) | (with_reducible refine Below.alloc ?_ ?_ _) | (with_reducible refine below_drewN ?_ _) | (with_reducible refine Below.drew ?_) | (with_reducible exact Nat.le_refl _) | omega | (simp; done) | (simp; omega))), (Below.heap_alloc _ _ _ (by simp)).trans (heap_alloc_new w _), ?_⟩
    have := heap_alloc_new (w.alloc (.cells #[.int .i64 st, .slice wa wn wc, .slice la ln lc, .slice xa xn xc] 31)) (.cells #[.int .i64 0, .int .i64 0, .int .i64 0, .slice none 0 0, .slice none 0 0, .slice none 0 0] 33); simpa using this
  have HB : Hid (Calls Try.prog 53 #[.agg #[.int .i64 st, .slice wa wn wc, .slice la ln lc, .slice xa xn xc], .int .i64 id] W fun e w' => e = .returned (.tuple #[.int .i64 A, .int .i64 C]) ∧ Below W.heap.size W w') := by rw [hA, hC]; exact spec_beg id hst hs (h.below HW.out.1)
  have HCP : Hid (∀ w', Below w.heap.size w w' → Calls Try.prog 39 #[.agg #[.int .i64 st, .slice wa wn wc, .slice la ln lc, .slice xa xn xc]] w' fun e w2 => ∃ (vq : Value × Value × Value) (rs : List Lr), e = .returned (.agg #[.int .i64 st, vq.1, vq.2.1, vq.2.2]) ∧ PB w2 w'.heap.size vq.1 vq.2.1 vq.2.2 (wvO rs) b rs ∧ Below w'.heap.size w' w2) := fun w' hb => hcp st w' _ _ _ b hst hs (h.below hb)
  have HR0 : Hid (C = bgC b id ∧ RB = hdB b id q ∧ b.st = st ∧ A = bgA b id ∧ ln = b.ls.length) := ⟨hC, hRB, hst, hA, hln⟩
  clear h hs hst hwn hln hxn hC hRB hA hcp
  go_enter Try.func25, Try.ntmps25
  go_wp2_with (fail)
  rw [← hW]
  clear hW
  refine HB.out.mono ?_
  rintro e w1 ⟨rfl, hb1⟩
  have m0 := (hb1.block _ (ltOfQ HW.out.2.1)).trans HW.out.2.1
  have m1 := (hb1.block _ (ltOfQ HW.out.2.2)).trans HW.out.2.2
  have HE : Hid (Below w.heap.size w w1) := HW.out.1.trans (hb1.mono HW.out.1.size)
  have HM : Hid (w1.heap[w.heap.size + 1]? = some (.cells #[.int .i64 0, .int .i64 0, .int .i64 0, .slice none 0 0, .slice none 0 0, .slice none 0 0] 33)) := m1
  obtain ⟨p0, p1, p2, p3, pl⟩ : w1.cell? ⟨w.heap.size, 0, none⟩ = some (.int .i64 st) ∧ w1.cell? ⟨w.heap.size, 1, none⟩ = some (.slice wa wn wc) ∧ w1.cell? ⟨w.heap.size, 2, none⟩ = some (.slice la ln lc) ∧ w1.cell? ⟨w.heap.size, 3, none⟩ = some (.slice xa xn xc) ∧ w.heap.size < w1.heap.size := ⟨cellOfQ m0 0 rfl, cellOfQ m0 1 rfl, cellOfQ m0 2 rfl, cellOfQ m0 3 rfl, ltOfQ m0⟩
  clear hb1 HB HW m0 m1
  by_cases hC0 : C = 0
  case neg =>
    have HR : Hid (RB = bkZ) := by unfold Hid; rw [HR0.out.2.1, hdB, if_pos (by rw [← HR0.out.1]; exact hC0)]
    have hCb : (C == 0) = false := beq_eq_false_iff_ne.2 hC0
    have HCD : Hid (∀ W, Calls Try.prog 35 #[.int .i64 C] W fun e w' => e = .returned (.agg #[.int .i64 C, .int .i64 0, .int .i64 0, .slice none 0 0, .slice none 0 0, .slice none 0 0]) ∧ Below W.heap.size W w') := fun W => spec_cd C W
    clear p0 p1 p2 p3 pl
    go_wp2_with (fail)
    refine (HCD.out _).mono ?_
    rintro e w2 ⟨rfl, hb2⟩
    have m2 := (hb2.block _ (ltOfQ HM.out)).trans HM.out
    have HE2 : Hid (Below w.heap.size w w2) := HE.out.trans (hb2.mono HE.out.size)
    obtain ⟨r0, r1, r2, r3, r4, r5, rl⟩ := six_of m2
    have qf := fun i => frozOf m2 i
    have qf0 := qf 0
    have qf1 := qf 1
    have qf2 := qf 2
    have qf3 := qf 3
    have qf4 := qf 4
    have qf5 := qf 5
    have HE := HE2
    clear qf m2 hb2
    go_wp2
    try simp only [Exit.inBlock, Exit.then]
    refine bodyPost_ret (by simp [results, Try.results25, go_sem, r0, r1, r2, r3, r4, r5, rl, qf0, qf1, qf2, qf3, qf4, qf5]; try rfl) rfl ⟨(nilV, nilV, nilV), [], by rw [HR.out]; rfl, by rw [HR.out]; exact PB.nil _ _, ?_⟩
    have hb := HE.out
    (repeat' (first | (with_reducible exact Below.refl _ _) | (with_reducible assumption) | (with_reducible refine Below.setCell ?_ ?_ _) | (with_reducible refine Below.alloc ?_ ?_ _) | (with_reducible refine below_drewN ?_ _) | (with_reducible refine Below.drew ?_) | (with_reducible exact Nat.le_refl _) | omega | (simp; done) | (simp; omega)))
  have HC0 : Hid (bgC b id = 0) := by unfold Hid; rw [← HR0.out.1]; exact hC0
  subst hC0
  obtain ⟨hG, i, hi, hfi, hid⟩ := bgC_cases HC0.out
  have HR : Hid (RB = hlB b i q) := by unfold Hid; rw [HR0.out.2.1, hdB, if_neg (fun e => e HC0.out), hfi, Int.toNat_natCast]
  have hAi : A = (i : Int) := by rw [HR0.out.2.2.2.1, bgA, if_neg (fun e => e HC0.out)]; exact hfi
  subst hAi
  have HI : Hid (i < b.ls.length) := hi
  have b0 : (0 : Int) ≤ (i : Int) := by omega
  have hin : i < ln := by rw [HR0.out.2.2.2.2]; exact hi
  have b1 : (i : Int) < (ln : Int) := by omega
  clear hG hfi hid hi
  go_wp2_with (fail)
  refine (HCP.out _ HE.out).mono ?_
  rintro e w2 ⟨⟨v1, v2, v3⟩, rs, rfl, hpb, hb2⟩
  simp only at hpb
  have hrl : rs.length = ln := by rw [hpb.len]; exact HR0.out.2.2.2.2.symm
  obtain ⟨wa', wc', ew⟩ := (OG.rg wdC_len hpb.wn).form
  obtain ⟨xa', xc', ex⟩ := hpb.sc.form
  obtain ⟨G, o, cG, el, hGl, hcc⟩ := (OG.rg lrC_len hpb.row).pos (by omega)
  have hrow := hpb.row
  unfold OG at hrow
  obtain ⟨wn', hwn'⟩ : ∃ n, n = b.wn.length := ⟨_, rfl⟩
  obtain ⟨xn', hxn'⟩ : ∃ n, n = b.sc.length := ⟨_, rfl⟩
  rw [← hwn'] at ew
  rw [← hxn'] at ex
  rw [hrl] at el
  subst ew ex el
  have ho : o = 0 := by
    rcases hpb.row.2 with ⟨h1, _⟩ | ⟨g, cap, cur, h1, _⟩
    · cases h1
    · injection h1 with h1; injection h1 with h1; injection h1 with _ h1 _
  subst ho
  have k3 := (lrC_at (hcc i (by omega))).2.2.2.1
  rw [hrl] at hrow
  have kf := World.ownsRow.frozenAt hrow (i * 5 + 3)
  have hG0 := (hpb.blk (Or.inr (Or.inl rfl))).1
  have HP : Hid (PB w2 w1.heap.size (.slice wa' wn' wc') (.slice (some ⟨G, 0, none⟩) ln cG) (.slice xa' xn' xc') (wvO rs) b rs ∧ Below w1.heap.size w1 w2 ∧ w1.heap.size ≤ G) := ⟨hpb, hb2, hG0⟩
  simp only [Nat.zero_add] at k3
  obtain ⟨hd0, hhd⟩ : ∃ x, x = rs[i].hd := ⟨_, rfl⟩
  rw [← hhd] at k3
  obtain ⟨Z, hZ⟩ : ∃ Z, Z = w2.setCell ⟨G, i * 5 + 3, none⟩ (.bool q) := ⟨_, rfl⟩
  have hZs : Z.heap.size = w2.heap.size := by rw [hZ]; simp
  obtain ⟨V, hV⟩ : ∃ V, V = Z.alloc (.cells #[.int .i64 st, .slice wa' wn' wc', .slice (some ⟨G, 0, none⟩) ln cG, .slice xa' xn' xc'] 31) := ⟨_, rfl⟩
  have hbZ : Below Z.heap.size Z V := by rw [hV]; (repeat' (first | (with_reducible exact Below.refl _ _) | (with_reducible assumption) | (with_reducible refine Below.setCell ?_ ?_ _) | (with_reducible refine Below.alloc ?_ ?_ _) | (with_reducible refine below_drewN ?_ _) | (with_reducible refine Below.drew ?_) | (with_reducible exact Nat.le_refl _) | omega | (simp; done) | (simp; omega)))
  have hxZ : V.heap[w2.heap.size]? = some (.cells #[.int .i64 st, .slice wa' wn' wc', .slice (some ⟨G, 0, none⟩) ln cG, .slice xa' xn' xc'] 31) := by rw [hV, ← hZs]; exact heap_alloc_new _ _
  have hm2 := (hb2.block _ (ltOfQ HM.out)).trans HM.out
  have HV : Hid (V.heap[w2.heap.size]? = some (.cells #[.int .i64 st, .slice wa' wn' wc', .slice (some ⟨G, 0, none⟩) ln cG, .slice xa' xn' xc'] 31) ∧ V.heap[w.heap.size + 1]? = some (.cells #[.int .i64 0, .int .i64 0, .int .i64 0, .slice none 0 0, .slice none 0 0, .slice none 0 0] 33) ∧ Below w.heap.size w V ∧ PB V w1.heap.size (.slice wa' wn' wc') (.slice (some ⟨G, 0, none⟩) ln cG) (.slice xa' xn' xc') (wvO (hlR rs i q)) (hlB b i q) (hlR rs i q) ∧ w.heap.size + 1 < w1.heap.size ∧ w.heap.size ≤ w1.heap.size) := by
    have hGs : G < w2.heap.size := hGl
    have h1 := ltOfQ HM.out
    have h2 := HE.out.size
    have h3 := HP.out.2.2
    have h4 := hb2.size
    refine ⟨hxZ, ?_, ?_, ?_, h1, h2⟩
    · rw [hbZ.block _ (by omega), hZ, heap_setCell_other _ _ _ _ (by simp; omega)]
      exact hm2
    · have hb : Below w.heap.size w w2 := HE.out.trans (hb2.mono h2)
      have hb5 : Below w.heap.size w Z := by
        rw [hZ]
        (repeat' (first | (with_reducible exact Below.refl _ _) | (with_reducible assumption) | (with_reducible refine Below.setCell ?_ ?_ _) | (with_reducible refine Below.alloc ?_ ?_ _) | (with_reducible refine below_drewN ?_ _) | (with_reducible refine Below.drew ?_) | (with_reducible exact Nat.le_refl _) | omega | (simp; done) | (simp; omega)))
      exact hb5.trans (hbZ.mono hb5.size)
    · have := HP.out.1.hold HI.out q
      rw [← hZ, ← hlR_wv rs i q] at this
      exact this.below hbZ
  clear hpb hb2 hrow hG0 hhd hrl hxZ hbZ hZs hm2 hcc hwn' hxn' hin HP HCP p0 p1 p2 p3 pl
  go_upto_region 6 with fail
  rw [← hZ, ← hV]
  clear hZ hV k3 kf hGl
  obtain ⟨p0, p1, p2, p3, pl⟩ : V.cell? ⟨w2.heap.size, 0, none⟩ = some (.int .i64 st) ∧ V.cell? ⟨w2.heap.size, 1, none⟩ = some (.slice wa' wn' wc') ∧ V.cell? ⟨w2.heap.size, 2, none⟩ = some (.slice (some ⟨G, 0, none⟩) ln cG) ∧ V.cell? ⟨w2.heap.size, 3, none⟩ = some (.slice xa' xn' xc') ∧ w2.heap.size < V.heap.size := ⟨cellOfQ HV.out.1 0 rfl, cellOfQ HV.out.1 1 rfl, cellOfQ HV.out.1 2 rfl, cellOfQ HV.out.1 3 rfl, ltOfQ HV.out.1⟩
  obtain ⟨r0, r1, r2, r3, r4, r5, rl⟩ := six_of HV.out.2.1
  have qf := fun i => frozOf HV.out.2.1 i
  have qf0 := qf 0
  have qf1 := qf 1
  have qf2 := qf 2
  have qf3 := qf 3
  have qf4 := qf 4
  have qf5 := qf 5
  clear qf
  go_wp2
  try simp only [Exit.inBlock, Exit.then]
  refine bodyPost_ret (by simp [results, Try.results25, go_sem, r0, r1, r2, r3, r4, r5, rl, qf0, qf1, qf2, qf3, qf4, qf5]; try rfl) rfl ⟨(.slice wa' wn' wc', .slice (some ⟨G, 0, none⟩) ln cG, .slice xa' xn' xc'), _, by rw [HR.out]; exact congrArg _ (congrArg _ (by rw [show (hlB b i q).st = st from HR0.out.2.2.1])), by rw [HR.out]; refine PB.low (PB.keep HV.out.2.2.2.1 fun k hk => ?_) HV.out.2.2.2.2.2; have h1 := (HV.out.2.2.2.1.blk hk).1; have h2 := HV.out.2.2.2.2.1; have hoff : ∀ (u : World) o v, (u.setCell ⟨w.heap.size + 1, o, none⟩ v).heap[k]? = u.heap[k]? := fun u o v => heap_setCell_other _ _ _ _ (by simp; omega); rw [hoff, hoff, hoff, hoff, hoff, hoff], ?_⟩
  have hb := HV.out.2.2.1
  (repeat' (first | (with_reducible exact Below.refl _ _) | (with_reducible assumption) | (with_reducible refine Below.setCell ?_ ?_ _) | (with_reducible refine Below.alloc ?_ ?_ _) | (with_reducible refine below_drewN ?_ _) | (with_reducible refine Below.drew ?_) | (with_reducible exact Nat.le_refl _) | omega | (simp; done) | (simp; omega)))

end Go.Proofs.Ytcfjanignfbidaa
