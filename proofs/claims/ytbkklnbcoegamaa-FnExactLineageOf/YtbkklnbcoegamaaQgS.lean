/- Proved here: LineageOf of the model. -/
import Derived.Test.YtbkklnbcoegamaaIxM
import Derived.Test.YtbkklnbcoegamaaQwS
import Derived.Maps.AppendAt
import Derived.Deep.AppendLies
namespace Go.Proofs.Ytbkklnbcoegamaa
open Go.RowKit Go.Maps
set_option linter.unusedVariables false
set_option linter.unusedSimpArgs false

theorem is_oneG {w V : World} {x : Int} (h : V = w.alloc (.cells #[.int .i64 x] 2)) : IS V w.heap.size (.slice (some ⟨w.heap.size, 0, none⟩) 1 1) [x] := by
  subst h
  exact World.ownsRow_lit w #[.int .i64 x] 1 (Nat.le_refl _) (by decide) (by simp)
set_option maxRecDepth 10000 in
set_option maxHeartbeats 3200000 in
theorem spec_ln {st : Int} {w : World} {vw vl vs : Value} {b : Bk} (id : Int) (hst : b.st = st) (hs : smBk 1048576 b) (h : RdX w vw vl vs b) :
    Calls Try.prog 21 #[.agg #[.int .i64 st, vw, vl, vs], .int .i64 id] w fun e w' => ∃ v, e = .returned (.agg #[.int .i64 (bgC b id), v]) ∧ IS w' w.heap.size v (lnL b id) ∧ Below w.heap.size w w' := by
  obtain ⟨i0, hi0, hz0, hz1, hz2⟩ := info_parts info_i64
  obtain ⟨wa, wc, e1⟩ := h.wn.form
  obtain ⟨la, lc, e2⟩ := h.ls.rlo.form
  obtain ⟨xa, xc, e3⟩ := h.sc.form
  subst e1 e2 e3
  obtain ⟨wn, hwn⟩ : ∃ n, n = b.wn.length := ⟨_, rfl⟩
  obtain ⟨ln, hln⟩ : ∃ n, n = b.ls.length := ⟨_, rfl⟩
  obtain ⟨xn, hxn⟩ : ∃ n, n = b.sc.length := ⟨_, rfl⟩
  rw [← hwn, ← hln, ← hxn] at h ⊢
  obtain ⟨A, hA⟩ : ∃ K, K = bgA b id := ⟨_, rfl⟩
  obtain ⟨C, hC⟩ : ∃ K, K = bgC b id := ⟨_, rfl⟩
  obtain ⟨RL, hRL⟩ : ∃ K, K = lnL b id := ⟨_, rfl⟩
  rw [← hC, ← hRL]
  obtain ⟨W, hW⟩ : ∃ W, W = (w.alloc (.cells #[.int .i64 st, .slice wa wn wc, .slice la ln lc, .slice xa xn xc] 31)).alloc (.cells #[.int .i64 0, .slice none 0 0] 48) := ⟨_, rfl⟩
  have HW : Hid (Below w.heap.size w W ∧ W.heap[w.heap.size]? = some (.cells #[.int .i64 st, .slice wa wn wc, .slice la ln lc, .slice xa xn xc] 31) ∧ W.heap[w.heap.size + 1]? = some (.cells #[.int .i64 0, .slice none 0 0] 48)) := by
    rw [hW]
    refine ⟨by (repeat' (first | (with_reducible exact Below.refl _ _) | (with_reducible assumption) | (with_reducible refine Below.setCell ?_ ?_ _) | (with_reducible refine Below.alloc ?_ ?_ _) | (with_reducible refine below_drewN ?_ _) | (with_reducible refine Below.drew ?_) | (with_reducible exact Nat.le_refl _) | omega | (simp; done) | (simp; omega))), (Below.heap_alloc _ _ _ (by simp)).trans (heap_alloc_new w _), ?_⟩
    have := heap_alloc_new (w.alloc (.cells #[.int .i64 st, .slice wa wn wc, .slice la ln lc, .slice xa xn xc] 31)) (.cells #[.int .i64 0, .slice none 0 0] 48); simpa using this
  have HB : Hid (Calls Try.prog 29 #[.agg #[.int .i64 st, .slice wa wn wc, .slice la ln lc, .slice xa xn xc], .int .i64 id] W fun e w' => e = .returned (.tuple #[.int .i64 A, .int .i64 C]) ∧ Below W.heap.size W w') := by rw [hA, hC]; exact spec_beg id hst hs (h.below HW.out.1)
  have HR0 : Hid (RdX w (.slice wa wn wc) (.slice la ln lc) (.slice xa xn xc) b ∧ A = bgA b id ∧ C = bgC b id ∧ RL = lnL b id ∧ ln = b.ls.length) := ⟨h, hA, hC, hRL, hln⟩
  clear h hs hst hwn hln hxn hA hC hRL
  go_enter Try.func21, Try.ntmps21
  go_wp2_with (fail)
  rw [← hW]
  clear hW
  refine HB.out.mono ?_
  rintro e w1 ⟨rfl, hb1⟩
  have m0 := (hb1.block _ (ltOfQ HW.out.2.1)).trans HW.out.2.1
  have m1 := (hb1.block _ (ltOfQ HW.out.2.2)).trans HW.out.2.2
  have HE : Hid (Below w.heap.size w w1) := HW.out.1.trans (hb1.mono HW.out.1.size)
  have HM : Hid (w1.heap[w.heap.size]? = some (.cells #[.int .i64 st, .slice wa wn wc, .slice la ln lc, .slice xa xn xc] 31) ∧ w1.heap[w.heap.size + 1]? = some (.cells #[.int .i64 0, .slice none 0 0] 48)) := ⟨m0, m1⟩
  have r0 := cellOfQ m1 0 rfl
  have r1 := cellOfQ m1 1 rfl
  have rl := ltOfQ m1
  have rf0 := frozOfQ m1 0
  have rf1 := frozOfQ m1 1
  obtain ⟨p0, p1, p2, p3, pl⟩ : w1.cell? ⟨w.heap.size, 0, none⟩ = some (.int .i64 st) ∧ w1.cell? ⟨w.heap.size, 1, none⟩ = some (.slice wa wn wc) ∧ w1.cell? ⟨w.heap.size, 2, none⟩ = some (.slice la ln lc) ∧ w1.cell? ⟨w.heap.size, 3, none⟩ = some (.slice xa xn xc) ∧ w.heap.size < w1.heap.size := ⟨cellOfQ m0 0 rfl, cellOfQ m0 1 rfl, cellOfQ m0 2 rfl, cellOfQ m0 3 rfl, ltOfQ m0⟩
  clear hb1 HB HW m0 m1
  by_cases hC0 : C = 0
  case neg =>
    have HR : Hid (C = C ∧ RL = []) := by
      have e : bgC b id ≠ 0 := by rw [← HR0.out.2.2.1]; exact hC0
      exact ⟨rfl, by rw [HR0.out.2.2.2.1, lnL, if_pos e]⟩
    have hCb : (C == 0) = false := beq_eq_false_iff_ne.2 hC0
    go_wp2
    try simp only [Exit.inBlock, Exit.then]
    refine bodyPost_ret (by simp [results, Try.results21, go_sem, r0, r1, rl, rf0, rf1]; try rfl) rfl ⟨.slice none 0 0, rfl, by rw [HR.out.2]; exact is_nilG _ _, ?_⟩
    have hb := HE.out
    (repeat' (first | (with_reducible exact Below.refl _ _) | (with_reducible assumption) | (with_reducible refine Below.setCell ?_ ?_ _) | (with_reducible refine Below.alloc ?_ ?_ _) | (with_reducible refine below_drewN ?_ _) | (with_reducible refine Below.drew ?_) | (with_reducible exact Nat.le_refl _) | omega | (simp; done) | (simp; omega)))
  have HC0 : Hid (bgC b id = 0) := by unfold Hid; rw [← HR0.out.2.2.1]; exact hC0
  have HS : Hid ((0 : Int) = 0 ∧ True) := ⟨rfl, trivial⟩
  subst hC0
  obtain ⟨hG, i, hi, hfi, hid⟩ := bgC_cases HC0.out
  have HGB : Hid (GBk b) := hG
  have hAi : A = (i : Int) := by rw [HR0.out.2.1, bgA, if_neg (fun e => e HC0.out)]; exact hfi
  subst hAi
  have hln30 : ln ≤ 30 := by rw [HR0.out.2.2.2.2]; exact hG.ls
  have HT : Hid (RL = lnF b.ls 30 i ∧ i < b.ls.length ∧ id = idA b.ls i) := ⟨by rw [HR0.out.2.2.2.1, lnL, if_neg (fun e => e HC0.out), hfi, Int.toNat_natCast], hi, by rw [idA_at hi]; exact hid.symm⟩
  have hi30 : i ≤ 30 := by have := HR0.out.2.2.2.2; omega
  clear hfi hid hi hG
  go_wp2
  obtain ⟨V, hV⟩ : ∃ V, V = w1.alloc (.cells #[.int .i64 id] 2) := ⟨_, rfl⟩
  have HV : Hid (Below w.heap.size w V ∧ Below w1.heap.size w1 V ∧ IS V w1.heap.size (.slice (some ⟨w1.heap.size, 0, none⟩) 1 1) [id]) := by
    have hbb : Below w1.heap.size w1 V := by rw [hV]; (repeat' (first | (with_reducible exact Below.refl _ _) | (with_reducible assumption) | (with_reducible refine Below.setCell ?_ ?_ _) | (with_reducible refine Below.alloc ?_ ?_ _) | (with_reducible refine below_drewN ?_ _) | (with_reducible refine Below.drew ?_) | (with_reducible exact Nat.le_refl _) | omega | (simp; done) | (simp; omega)))
    exact ⟨HE.out.trans (hbb.mono HE.out.size), hbb, is_oneG hV⟩
  rw [← hV]
  clear hV p0 p1 p2 p3 pl r0 r1 rl rf0 rf1
  go_loopw [5, 7] (fun i l wr => ∃ (j ml : Nat) (va : Option Addr) (vc : Nat), j < ln ∧ ml ≤ 31 ∧ i = .int .i64 j ∧ l = .slice va ml vc ∧ Hid (∃ (P : List Int) (f : Nat), j ≤ f ∧ f ≤ 30 ∧ ml + f ≤ 31 ∧ RL = P ++ lnF b.ls f j ∧ ml = P.length + 1 ∧ IS wr w1.heap.size (.slice va ml vc) (P ++ [idA b.ls j]) ∧ Below w1.heap.size w1 wr)) (fun i _ _ => (intOf i).toNat)
  case atStart => exact ⟨i, 1, _, _, by have := HT.out.2.1; have := HR0.out.2.2.2.2; omega, by omega, rfl, rfl, [], 30, by omega, by omega, by omega, by rw [HT.out.1]; rfl, rfl, by rw [← HT.out.2.2]; exact HV.out.2.2, HV.out.2.1⟩
  case round =>
    obtain ⟨j, ml, va, vc, hjn, hml, rfl, rfl, hR⟩ := hrel
    obtain ⟨P, f, hjf, hf, hmf, hTot, hmP, hIS, hBB⟩ := hR.out
    clear hR
    have m0 := (hBB.block _ (ltOfQ HM.out.1)).trans HM.out.1
    have m1 := (hBB.block _ (ltOfQ HM.out.2)).trans HM.out.2
    obtain ⟨p0, p1, p2, p3, pl⟩ : wr.cell? ⟨w.heap.size, 0, none⟩ = some (.int .i64 st) ∧ wr.cell? ⟨w.heap.size, 1, none⟩ = some (.slice wa wn wc) ∧ wr.cell? ⟨w.heap.size, 2, none⟩ = some (.slice la ln lc) ∧ wr.cell? ⟨w.heap.size, 3, none⟩ = some (.slice xa xn xc) ∧ w.heap.size < wr.heap.size := ⟨cellOfQ m0 0 rfl, cellOfQ m0 1 rfl, cellOfQ m0 2 rfl, cellOfQ m0 3 rfl, ltOfQ m0⟩
    have HE2 : Hid (Below w.heap.size w wr) := HE.out.trans (hBB.mono HE.out.size)
    have hjl : j < b.ls.length := by rw [← HR0.out.2.2.2.2]; exact hjn
    have hRL := HR0.out.1.ls.below HE2.out
    obtain ⟨g, o, c2, he, hg, x, hx, _, c0, c1, _, _, _⟩ := hRL.at hjl
    simp only [Value.slice.injEq] at he
    obtain ⟨rfl, hx1, hx2⟩ := he
    clear hx1 hx2
    have hxp : x.pa = paA b.ls j := by rw [paA_at hjl]; exact hx.pa
    obtain ⟨pa, hpa⟩ : ∃ p, p = paA b.ls j := ⟨_, rfl⟩
    rw [hxp, ← hpa] at c1
    have b0 : (0 : Int) ≤ (j : Int) := by omega
    have b1 : (j : Int) < (ln : Int) := by omega
    by_cases hp0 : pa = 0
    · have HQ : Hid (RL = P ++ [idA b.ls j] ∧ IS wr w1.heap.size (.slice va ml vc) (P ++ [idA b.ls j]) ∧ w.heap.size + 1 < w1.heap.size ∧ w.heap.size ≤ w1.heap.size) := ⟨by rw [hTot, lnF_end (by rw [← hpa]; exact hp0)], hIS, ltOfQ HM.out.2, HE.out.size⟩
      have r0 := cellOfQ m1 0 rfl
      have r1 := cellOfQ m1 1 rfl
      have rl := ltOfQ m1
      have rf0 := frozOfQ m1 0
      have rf1 := frozOfQ m1 1
      have HE : Hid (Below w.heap.size w wr) := HE2.out
      subst hp0
      clear hTot hIS hBB m0 m1 hpa hRL hx hxp hmP
      go_wp2
      try simp only [Exit.inBlock, Exit.then]
      refine bodyPost_ret (by simp [results, Try.results21, go_sem, r0, r1, rl, rf0, rf1]; try rfl) rfl ⟨.slice va ml vc, rfl, by rw [HQ.out.1]; exact is_doneG HQ.out.2.1 HQ.out.2.2.1 HQ.out.2.2.2, ?_⟩
      have hb := HE.out
      (repeat' (first | (with_reducible exact Below.refl _ _) | (with_reducible assumption) | (with_reducible refine Below.setCell ?_ ?_ _) | (with_reducible refine Below.alloc ?_ ?_ _) | (with_reducible refine below_drewN ?_ _) | (with_reducible refine Below.drew ?_) | (with_reducible exact Nat.le_refl _) | omega | (simp; done) | (simp; omega)))
    · obtain ⟨p, hpj, hfp, hip⟩ := pa_at HGB.out hjl (by rw [← hpa]; exact hp0)
      rw [← hpa] at hfp hip
      obtain ⟨f2, rfl⟩ : ∃ f2, f = f2 + 1 := ⟨f - 1, by omega⟩
      have hpl : p < b.ls.length := by omega
      obtain ⟨g', o', c2', he, hg', y, hy, _, d0, _, _, _, _⟩ := hRL.at hpl
      simp only [Value.slice.injEq] at he
      obtain ⟨he, hz1, hz2⟩ := he
      clear hz1 hz2
      simp only [Option.some.injEq, Addr.mk.injEq] at he
      obtain ⟨rfl, rfl, hz3⟩ := he
      clear hz3
      have hyi : y.id = pa := by rw [hy.id, ← idA_at hpl]; exact hip
      rw [hyi] at d0
      have HN : Hid (RL = (P ++ [idA b.ls j]) ++ lnF b.ls f2 p ∧ idA b.ls p = pa ∧ p ≤ f2 ∧ f2 ≤ 30 ∧ ml + 1 + f2 ≤ 31 ∧ ml = (P ++ [idA b.ls j]).length) := ⟨by rw [hTot, lnF_next (by rw [← hpa]; exact hp0), ← hpa, hfp, Int.toNat_natCast]; simp, hip, by omega, by omega, by omega, by rw [List.length_append]; exact hmP⟩
      have HF : Hid (∀ W, Below wr.heap.size wr W → Calls Try.prog 55 #[.slice (some ⟨g, o, none⟩) ln lc, .int .i64 j, .int .i64 pa] W fun e w' => e = .returned (.int .i64 (p : Int)) ∧ w' = W) := fun W hW => by
        rw [← hfp]
        exact spec_fd j pa (by omega) (by have := HR0.out.2.2.2.2; omega) (hRL.rlo.below hW)
      have HI : Hid (IS wr w1.heap.size (.slice va ml vc) (P ++ [idA b.ls j]) ∧ Below w1.heap.size w1 wr) := ⟨hIS, hBB⟩
      have hpb : (p : Int) < (ln : Int) := by omega
      have hpb0 : (0 : Int) ≤ (p : Int) := by omega
      have hpne : (pa == 0) = false := beq_eq_false_iff_ne.2 hp0
      clear hTot hIS hBB m0 m1 hpa hRL hx hxp hfp hip hjl hpl hy hyi hmP
      go_wp2
      refine wp_region_float (by kernel_rfl) (fun hS => ?_)
      refine fl_take (i := 0) (d := 27) (v := .pointer (some ⟨w.heap.size, 2, none⟩)) rfl rfl rfl (by kernel_rfl) (by kernel_rfl) (by kernel_rfl) hS ?_ ?_
      · intro w' hk; go_simp
      simp only [Act.put, List.setIfInBounds_toArray, List.set_cons_zero, List.set_cons_succ]
      refine fl_take (i := 1) (d := 28) (v := .slice (some ⟨g, o, none⟩) ln lc) rfl rfl rfl (by kernel_rfl) (by kernel_rfl) (by kernel_rfl) hS ?_ ?_
      · intro w' hk; go_simp
      simp only [Act.put, List.setIfInBounds_toArray, List.set_cons_zero, List.set_cons_succ]
      refine fl_take (i := 2) (d := 29) (v := .int .i64 (j : Int)) rfl rfl rfl (by kernel_rfl) (by kernel_rfl) (by kernel_rfl) hS ?_ ?_
      · intro w' hk; go_simp
      simp only [Act.put, List.setIfInBounds_toArray, List.set_cons_zero, List.set_cons_succ]
      refine fl_take (i := 3) (d := 30) (v := .pointer (some ⟨w.heap.size, 2, none⟩)) rfl rfl rfl (by kernel_rfl) (by kernel_rfl) (by kernel_rfl) hS ?_ ?_
      · intro w' hk; go_simp
      simp only [Act.put, List.setIfInBounds_toArray, List.set_cons_zero, List.set_cons_succ]
      refine fl_take (i := 4) (d := 31) (v := .slice (some ⟨g, o, none⟩) ln lc) rfl rfl rfl (by kernel_rfl) (by kernel_rfl) (by kernel_rfl) hS ?_ ?_
      · intro w' hk; go_simp
      simp only [Act.put, List.setIfInBounds_toArray, List.set_cons_zero, List.set_cons_succ]
      refine fl_take (i := 5) (d := 32) (v := .int .i64 (j : Int)) rfl rfl rfl (by kernel_rfl) (by kernel_rfl) (by kernel_rfl) hS ?_ ?_
      · intro w' hk; go_simp
      simp only [Act.put, List.setIfInBounds_toArray, List.set_cons_zero, List.set_cons_succ]
      refine fl_take (i := 6) (d := 33) (v := .pointer (some ⟨g, o + j * 5, none⟩)) rfl rfl rfl (by kernel_rfl) (by kernel_rfl) (by kernel_rfl) hS ?_ ?_
      · intro w' hk; go_simp
      simp only [Act.put, List.setIfInBounds_toArray, List.set_cons_zero, List.set_cons_succ]
      refine fl_take (i := 7) (d := 34) (v := .pointer (some ⟨g, o + j * 5 + 1, none⟩)) rfl rfl rfl (by kernel_rfl) (by kernel_rfl) (by kernel_rfl) hS ?_ ?_
      · intro w' hk; go_simp
      simp only [Act.put, List.setIfInBounds_toArray, List.set_cons_zero, List.set_cons_succ]
      refine fl_take (i := 8) (d := 35) (v := .int .i64 pa) rfl rfl rfl (by kernel_rfl) (by kernel_rfl) (by kernel_rfl) hS ?_ ?_
      · intro w' hk; go_simp
      simp only [Act.put, List.setIfInBounds_toArray, List.set_cons_zero, List.set_cons_succ]
      refine wpAnyH_all (rs := [9]) (by kernel_rfl) (by simp) ?_
      intro i' hi'
      obtain rfl : i' = 9 := by simpa using hi'
      clear hi'
      refine op_call (d := 36) rfl rfl rfl (by go_simp) ((HF.out _ ((Below.refl _ _).drew)).mono ?_)
      rintro e w5 ⟨rfl, hw5⟩
      have hb5 : Below wr.heap.size wr w5 := by rw [hw5]; exact (Below.refl _ _).drew
      refine ⟨_, rfl, KS.of hb5, ?_⟩
      simp only [Act.put, List.setIfInBounds_toArray, List.set_cons_zero, List.set_cons_succ]
      refine fl_take (i := 10) (d := 5) (v := .int .i64 (p : Int)) rfl rfl rfl (by kernel_rfl) (by kernel_rfl) (by kernel_rfl) (KS.of hb5) ?_ ?_
      · intro w' hk; go_simp
      simp only [Act.put, List.setIfInBounds_toArray, List.set_cons_zero, List.set_cons_succ]
      refine wpAnyH_done (by kernel_rfl) (NoPanic.normal ?_) _
      have s2 := (hb5.cell (p := ⟨w.heap.size, 2, none⟩) pl).trans p2
      have spl : w.heap.size < w5.heap.size := Nat.lt_of_lt_of_le pl hb5.size
      have s0 := (hb5.cell (p := ⟨g, o + p * 5, none⟩) hg).trans d0
      have sg : g < w5.heap.size := Nat.lt_of_lt_of_le hg hb5.size
      obtain ⟨W1, hW1⟩ : ∃ X9, X9 = w5.alloc (.cells #[.int .i64 pa] 2) := ⟨_, rfl⟩
      have HOW : Hid (W1.ownsRow w1.heap.size 2 1 (.slice va ml vc) ml ((P ++ [idA b.ls j]).map (Value.int .i64)) ∧ Below w1.heap.size w1 W1 ∧ w1.heap.size ≤ W1.heap.size ∧ W1 = w5.alloc (.cells #[.int .i64 pa] 2)) := by
        have hb7 : Below w5.heap.size w5 W1 := by rw [hW1]; (repeat' (first | (with_reducible exact Below.refl _ _) | (with_reducible assumption) | (with_reducible refine Below.setCell ?_ ?_ _) | (with_reducible refine Below.alloc ?_ ?_ _) | (with_reducible refine below_drewN ?_ _) | (with_reducible refine Below.drew ?_) | (with_reducible exact Nat.le_refl _) | omega | (simp; done) | (simp; omega)))
        have hb8 : Below wr.heap.size wr W1 := hb5.trans (hb7.mono hb5.size)
        have h9 := HI.out.1.kept fun q hq => hb8.block q (IS.lt HI.out.1 q hq).2
        unfold IS at h9
        rw [← HN.out.2.2.2.2.2] at h9
        have hc9 := HI.out.2.trans (hb8.mono HI.out.2.size)
        exact ⟨h9, hc9, hc9.size, hW1⟩
      clear hw5 hS hb5 HF HI p0 p1 p2 p3 pl c0 c1 d0 hg hg'
      go_wp2_with (at_builtin; go_loud (rw [← hW1]; refine wpList_append_own_at _ rfl _ _ 24 rfl w1.heap.size 2 i0 (.int .i64 0) 1 8 Try.underlying24 hi0 hz0 hz1 hz2 rfl (by decide) (.slice va ml vc) ml _ rfl HOW.out.1 ⟨w5.heap.size, 0, none⟩ 1 1 [.int .i64 pa] rfl rfl (World.news_of_block (cs := #[.int .i64 pa]) (t := 2) (fr := (0, 0)) (by rw [HOW.out.2.2.2]; exact heap_alloc_new w5 _)) (by simp [Value.oneCell']) (by unfold maxLen; omega) (by omega) HOW.out.2.2.1 ?_); intro v6 w7 hown6 hgrow6 _ hloc6; go_loud (obtain ⟨va6, vc6, rfl⟩ := own_formG hown6))
      have R : Hid (∃ (P2 : List Int) (f : Nat), p ≤ f ∧ f ≤ 30 ∧ (ml + 1) + f ≤ 31 ∧ RL = P2 ++ lnF b.ls f p ∧ ml + 1 = P2.length + 1 ∧ IS w7 w1.heap.size (.slice va6 (ml + 1) vc6) (P2 ++ [idA b.ls p]) ∧ Below w1.heap.size w1 w7) := by
        have hlow : ∀ q, (Value.slice va ml vc).ownBlock = some q → w1.heap.size ≤ q := fun q hq => (World.ownsRow.lt HOW.out.1 q hq).1
        have hb9 : Below w1.heap.size W1 w7 := (Below.refl _ _).grown hgrow6 HOW.out.2.2.1 hlow
        refine ⟨P ++ [idA b.ls j], f2, HN.out.2.2.1, HN.out.2.2.2.1, HN.out.2.2.2.2.1, HN.out.1, by rw [← HN.out.2.2.2.2.2], ?_, HOW.out.2.1.trans hb9⟩
        rw [HN.out.2.1]; unfold IS; rw [List.length_append, ← HN.out.2.2.2.2.2, List.map_append]; exact hown6
      have hml2 : ml + 1 ≤ 31 := by have := HN.out.2.2.2.2.1; omega
      clear hown6 hgrow6 hloc6 HOW hW1 s2 spl s0 sg
      go_wp2
      go_roundw
      case rel => exact ⟨p, ml + 1, va6, vc6, by omega, hml2, by go_num, rfl, R.out⟩
      case measure => simp [intOf]; omega

end Go.Proofs.Ytbkklnbcoegamaa
