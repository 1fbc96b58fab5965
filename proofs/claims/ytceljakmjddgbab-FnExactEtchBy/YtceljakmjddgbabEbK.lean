/- Proved here: EtchBy of the program. -/
import Derived.Test.YtceljakmjddgbabEbJ
import Derived.Test.YtceljakmjddgbabAfI
import Derived.Test.YtceljakmjddgbabFiO
import Derived.Test.YtceljakmjddgbabFsG
namespace Go.Proofs.Ytceljakmjddgbab
open Go.RowKit
set_option linter.unusedVariables false
set_option linter.unusedSimpArgs false

theorem eb_at1 (w : World) (a b : Obj) : ((w.alloc a).alloc b).heap[w.heap.size + 1]? = some b := by have := heap_alloc_new (w.alloc a) b; simpa using this
theorem eb_at2 (w : World) (a b c : Obj) : (((w.alloc a).alloc b).alloc c).heap[w.heap.size + 2]? = some c := by have := heap_alloc_new ((w.alloc a).alloc b) c; simpa using this
theorem eb_at3 (w : World) (a b c d : Obj) : ((((w.alloc a).alloc b).alloc c).alloc d).heap[w.heap.size + 3]? = some d := by have := heap_alloc_new (((w.alloc a).alloc b).alloc c) d; simpa using this
theorem eb_at4 (w : World) (a b c d e : Obj) : (((((w.alloc a).alloc b).alloc c).alloc d).alloc e).heap[w.heap.size + 4]? = some e := by have := heap_alloc_new ((((w.alloc a).alloc b).alloc c).alloc d) e; simpa using this
theorem ebC_ok {s : List (List Flm)} {ra : List Int} {t : Int} {mk : List Bool} (h : ebC s ra t mk = 0) : GS s ∧ ra.length = 12 ∧ mk.length = s.length ∧ erF ra = 0 ∧ 0 ≤ t ∧ t ≤ 100000 := by
  unfold ebC at h
  split at h
  · rename_i h1
    split at h
    · rename_i h2
      split at h
      · rename_i h3
        split at h
        · rename_i h4; exact ⟨secF_zero.1 h1, h2.1, h2.2, h3, h4⟩
        · cases h
      · cases h
    · cases h
  · rename_i h1; exact absurd h h1

set_option maxRecDepth 10000 in
set_option maxHeartbeats 12800000 in
theorem impl_etchBy {w : World} {v : Value} {s : List (List Flm)} {xa ma : Option Addr} {xn xc mn mc : Nat} {ra : List Int} {mk : List Bool} (m : Int) (hn : SmF s) (h : RsF w v s) (hx : RdI w (.slice xa xn xc) ra) (hy : RG 1 boC w (.slice ma mn mc) mk) (hxl : xn ≤ 1048576) (hml : mn ≤ 1048576) :
    Calls Try.prog 13 #[.agg #[v], .slice xa xn xc, .int .i64 m, .slice ma mn mc] w fun e w' => ∃ (vq : Value × Value) (vs : List Value), e = .returned (.agg #[.int .i64 (ebC s ra m mk), vq.1, vq.2]) ∧ RoE w' w.heap.size vq.1 vq.2 (etL (ebC s ra m mk) (ebY s ra m mk) s.length) (etG (ebC s ra m mk) (ebY s ra m mk) s.length) vs ∧ Below w.heap.size w w' := by
  obtain ⟨a, c, rfl⟩ := h.form
  obtain ⟨n, hnn⟩ : ∃ n, n = s.length := ⟨_, rfl⟩
  obtain ⟨F, hF0⟩ : ∃ F, F = secF s := ⟨_, rfl⟩
  obtain ⟨A, hA⟩ : ∃ A : Int, A = etX n mn ra m := ⟨_, rfl⟩
  obtain ⟨C, hC⟩ : ∃ C, C = ebC s ra m mk := ⟨_, rfl⟩
  obtain ⟨L, hL⟩ : ∃ L, L = etL C (ebY s ra m mk) n := ⟨_, rfl⟩
  obtain ⟨G, hG⟩ : ∃ G, G = etG C (ebY s ra m mk) n := ⟨_, rfl⟩
  rw [← hnn] at h ⊢
  rw [← hC, ← hL, ← hG]
  have hxn : xn = ra.length := by obtain ⟨_, _, e, _⟩ := hx; injection e
  have hmn : mn = mk.length := by obtain ⟨_, _, e, _⟩ := hy; injection e
  have hnl : n ≤ 1048576 := by have := hn.len; omega
  have HOR : Hid (orL [F, A] = C) := by
    have hE : C = if F = 0 then A else F := by rw [hC, hA, etX, hmn, hnn, ebC, ← hF0]
    unfold Hid; rw [hE]
    simp only [orL]
    by_cases h1 : F = 0
    · rw [if_pos h1, if_pos h1]
      by_cases h2 : A = 0
      · rw [if_pos h2, h2]
      · rw [if_neg h2]
    · rw [if_neg h1, if_neg h1]
  have HXY : Hid (RdI w (.slice xa xn xc) ra ∧ RG 1 boC w (.slice ma mn mc) mk ∧ xn = ra.length ∧ mn = mk.length) := ⟨hx, hy, hxn, hmn⟩
  have HS : Hid (∀ W, Below w.heap.size w W → Calls Try.prog 43 #[.agg #[.slice a n c]] W fun e w' => e = .returned (.int .i64 F) ∧ Below W.heap.size W w') := fun W hW => by rw [hF0]; exact impl_secF hn (h.below hW)
  have HM : Hid (∀ W, Below w.heap.size w W → Calls Try.prog 44 #[.agg #[.slice a n c], .slice xa xn xc, .int .i64 m, .slice ma mn mc] W fun e w' => e = .returned (.int .i64 A) ∧ Below W.heap.size W w') := fun W hW => by rw [hA]; exact impl_etchF m hnl hxl hml (hx.below hW)
  have H : Hid (RsF w (.slice a n c) s ∧ n = s.length ∧ C = ebC s ra m mk ∧ L = etL C (ebY s ra m mk) n ∧ G = etG C (ebY s ra m mk) n) := ⟨h, hnn, hC, hL, hG⟩
  clear h hnn hn hF0 hA hC hL hG hx hy hxn hmn
  obtain ⟨V, hV⟩ : ∃ V, V = ((((w.alloc (.cells #[.slice a n c] 30)).alloc (.cells #[.slice xa xn xc] 25)).alloc (.cells #[.int .i64 m] 2)).alloc (.cells #[.slice ma mn mc] 26)).alloc (.cells #[.int .i64 0, .slice none 0 0, .slice none 0 0] 32) := ⟨_, rfl⟩
  have k0 : V.heap[w.heap.size]? = some (.cells #[.slice a n c] 30) := by rw [hV]; exact (Below.heap_alloc _ _ _ (by simp <;> omega)).trans ((Below.heap_alloc _ _ _ (by simp <;> omega)).trans ((Below.heap_alloc _ _ _ (by simp <;> omega)).trans ((Below.heap_alloc _ _ _ (by simp)).trans (heap_alloc_new w _))))
  have k1 : V.heap[w.heap.size + 1]? = some (.cells #[.slice xa xn xc] 25) := by rw [hV]; exact (Below.heap_alloc _ _ _ (by simp <;> omega)).trans ((Below.heap_alloc _ _ _ (by simp <;> omega)).trans ((Below.heap_alloc _ _ _ (by simp)).trans (eb_at1 w _ _)))
  have k2 : V.heap[w.heap.size + 2]? = some (.cells #[.int .i64 m] 2) := by rw [hV]; exact (Below.heap_alloc _ _ _ (by simp <;> omega)).trans ((Below.heap_alloc _ _ _ (by simp)).trans (eb_at2 w _ _ _))
  have k3 : V.heap[w.heap.size + 3]? = some (.cells #[.slice ma mn mc] 26) := by rw [hV]; exact (Below.heap_alloc _ _ _ (by simp)).trans (eb_at3 w _ _ _ _)
  have k4 : V.heap[w.heap.size + 4]? = some (.cells #[.int .i64 0, .slice none 0 0, .slice none 0 0] 32) := by rw [hV]; exact eb_at4 w _ _ _ _ _
  have hbV : Below w.heap.size w V := by rw [hV]; (repeat' (first | (with_reducible exact Below.refl _ _) | (with_reducible assumption) | (with_reducible refine Below.setCell ?_ ?_ _) | (with_reducible refine Below.alloc ?_ ?_ _) | (with_reducible refine below_drewN ?_ _) | (with_reducible refine Below.drew ?_) | (with_reducible exact Nat.le_refl _) | omega | (simp; done) | (simp; omega)))
  have HV : Hid (Below w.heap.size w V ∧ V.heap[w.heap.size]? = some (.cells #[.slice a n c] 30) ∧ V.heap[w.heap.size + 4]? = some (.cells #[.int .i64 0, .slice none 0 0, .slice none 0 0] 32) ∧ V.heap[w.heap.size + 1]? = some (.cells #[.slice xa xn xc] 25) ∧ V.heap[w.heap.size + 2]? = some (.cells #[.int .i64 m] 2) ∧ V.heap[w.heap.size + 3]? = some (.cells #[.slice ma mn mc] 26)) := ⟨hbV, k0, k4, k1, k2, k3⟩
  have a0 := cellOf k0 0 rfl
  have a1 := ltOf k0
  have b0 := cellOf k1 0 rfl
  have b1 := ltOf k1
  have c0 := cellOf k2 0 rfl
  have c1 := ltOf k2
  have d0 := cellOf k3 0 rfl
  have d1 := ltOf k3
  clear k0 k1 k2 k3 k4 hbV
  go_enter Try.func13, Try.ntmps13
  go_wp2_with (fail)
  rw [← hV]
  clear hV
  refine wp_region_float (by kernel_rfl) (fun hS => ?_)
  refine fl_take (i := 0) (d := 10) (v := .agg #[.slice a n c]) rfl rfl rfl (by kernel_rfl) (by kernel_rfl) (by kernel_rfl) hS ?_ ?_
  · intro w' hk; go_simp
  simp only [Act.put, List.setIfInBounds_toArray, List.set_cons_zero, List.set_cons_succ]
  refine fl_take (i := 2) (d := 12) (v := .agg #[.slice a n c]) rfl rfl rfl (by kernel_rfl) (by kernel_rfl) (by kernel_rfl) hS ?_ ?_
  · intro w' hk; go_simp
  simp only [Act.put, List.setIfInBounds_toArray, List.set_cons_zero, List.set_cons_succ]
  refine fl_take (i := 3) (d := 13) (v := .slice xa xn xc) rfl rfl rfl (by kernel_rfl) (by kernel_rfl) (by kernel_rfl) hS ?_ ?_
  · intro w' hk; go_simp
  simp only [Act.put, List.setIfInBounds_toArray, List.set_cons_zero, List.set_cons_succ]
  refine fl_take (i := 4) (d := 14) (v := .int .i64 m) rfl rfl rfl (by kernel_rfl) (by kernel_rfl) (by kernel_rfl) hS ?_ ?_
  · intro w' hk; go_simp
  simp only [Act.put, List.setIfInBounds_toArray, List.set_cons_zero, List.set_cons_succ]
  refine fl_take (i := 5) (d := 15) (v := .slice ma mn mc) rfl rfl rfl (by kernel_rfl) (by kernel_rfl) (by kernel_rfl) hS ?_ ?_
  · intro w' hk; go_simp
  simp only [Act.put, List.setIfInBounds_toArray, List.set_cons_zero, List.set_cons_succ]
  refine wpAnyH_all (rs := [1]) (by kernel_rfl) (by simp) ?_
  intro i hi
  obtain rfl : i = 1 := by simpa using hi
  clear hi
  refine op_call (d := 11) rfl rfl rfl (by go_simp) ((HS.out _ (HV.out.1.trans (hS.2.mono HV.out.1.size))).mono ?_)
  rintro e y1 ⟨rfl, hb1⟩
  have hk0 : Below V.heap.size V y1 := hS.2.trans (hb1.mono hS.2.size)
  refine ⟨_, rfl, KS.of hk0, ?_⟩
  simp only [Act.put, List.setIfInBounds_toArray, List.set_cons_zero, List.set_cons_succ]
  refine wpAnyH_all (rs := [6]) (by kernel_rfl) (by simp) ?_
  intro i hi
  obtain rfl : i = 6 := by simpa using hi
  clear hi
  refine op_call (d := 16) rfl rfl rfl (by go_simp) ((HM.out _ (HV.out.1.trans (hk0.mono HV.out.1.size))).mono ?_)
  rintro e y2 ⟨rfl, hb2⟩
  have hk1 : Below V.heap.size V y2 := hk0.trans (hb2.mono hk0.size)
  refine ⟨_, rfl, KS.of hk1, ?_⟩
  simp only [Act.put, List.setIfInBounds_toArray, List.set_cons_zero, List.set_cons_succ]
  refine wpAnyH_all (rs := [7]) (by kernel_rfl) (by simp) ?_
  intro i hi
  obtain rfl : i = 7 := by simpa using hi
  clear hi
  refine op_val (d := 17) (v := .slice (some ⟨y2.heap.size, 0, none⟩) 2 2) (w' := y2.alloc (.cells #[.int .i64 F, .int .i64 A] 2)) rfl rfl rfl (by go_simp; try rfl) ?_
  simp only [Act.put, List.setIfInBounds_toArray, List.set_cons_zero, List.set_cons_succ]
  have hn2 := heap_alloc_new y2 (.cells #[.int .i64 F, .int .i64 A] 2)
  have hk2 : Below V.heap.size V (y2.alloc (.cells #[.int .i64 F, .int .i64 A] 2)) := hk1.alloc hk1.size _
  refine ⟨KS.of hk2, ?_⟩
  refine wpAnyH_all (rs := [8]) (by kernel_rfl) (by simp) ?_
  intro i hi
  obtain rfl : i = 8 := by simpa using hi
  clear hi
  have hor := impl_or (w := y2.alloc (.cells #[.int .i64 F, .int .i64 A] 2)) (g := y2.heap.size) (n := 2) (xs := [F, A]) (by omega) rfl (fun j hj => by
    match j, hj with
    | 0, _ => exact cellOf hn2 0 rfl
    | 1, _ => exact cellOf hn2 1 rfl)
  refine op_call (d := 18) rfl rfl rfl (by go_simp) (hor.mono ?_)
  rintro e y3 ⟨rfl, rfl⟩
  rw [HOR.out]
  refine ⟨_, rfl, KS.of hk2, ?_⟩
  simp only [Act.put, List.setIfInBounds_toArray, List.set_cons_zero, List.set_cons_succ]
  refine wpAnyH_all (rs := [9]) (by kernel_rfl) (by simp) ?_
  intro i hi
  obtain rfl : i = 9 := by simpa using hi
  clear hi
  obtain ⟨w1, hw1⟩ : ∃ x, x = y2.alloc (.cells #[.int .i64 F, .int .i64 A] 2) := ⟨_, rfl⟩
  rw [← hw1] at hk2 ⊢
  refine op_val (d := 9) (v := .int .i64 C) (w' := w1) rfl rfl rfl (by go_simp; try rfl) ?_
  simp only [Act.put, List.setIfInBounds_toArray, List.set_cons_zero, List.set_cons_succ]
  refine ⟨KS.of hk2, wpAnyH_done (by kernel_rfl) (NoPanic.normal ?_) _⟩
  have H1 : Hid (Below w.heap.size w w1 ∧ w1.heap[w.heap.size + 1]? = some (.cells #[.slice xa xn xc] 25) ∧ w1.heap[w.heap.size + 4]? = some (.cells #[.int .i64 0, .slice none 0 0, .slice none 0 0] 32)) := ⟨HV.out.1.trans (hk2.mono HV.out.1.size), (hk2.block _ (ltOf HV.out.2.2.2.1)).trans HV.out.2.2.2.1, (hk2.block _ (ltOf HV.out.2.2.1)).trans HV.out.2.2.1⟩
  have H2 : Hid (w1.heap[w.heap.size + 2]? = some (.cells #[.int .i64 m] 2) ∧ w1.heap[w.heap.size + 3]? = some (.cells #[.slice ma mn mc] 26)) := ⟨(hk2.block _ (ltOf HV.out.2.2.2.2.1)).trans HV.out.2.2.2.2.1, (hk2.block _ (ltOf HV.out.2.2.2.2.2)).trans HV.out.2.2.2.2.2⟩
  have s0 := cellOf ((hk2.block _ (ltOf HV.out.2.1)).trans HV.out.2.1) 0 rfl
  have s1 := ltOf ((hk2.block _ (ltOf HV.out.2.1)).trans HV.out.2.1)
  have p0 := cellOf H1.out.2.2 0 rfl
  have p1 := cellOf H1.out.2.2 1 rfl
  have p2 := cellOf H1.out.2.2 2 rfl
  have f0 := frozOf H1.out.2.2 0
  have f1 := frozOf H1.out.2.2 1
  have f2 := frozOf H1.out.2.2 2
  have pl := ltOf H1.out.2.2
  clear hS hb1 hb2 hk0 hk1 hn2 hor hk2 hw1 a0 a1 b0 b1 c0 c1 d0 d1 HS HM HOR
  by_cases hF : C = 0
  · obtain ⟨hg, h12, hmks, herf, hm⟩ := ebC_ok (H.out.2.2.1 ▸ hF)
    have hra := erF_ok herf
    have HLY : Hid (LyOk s (ebY s ra m mk) ∧ GS s) := ⟨eb_ly hg (fun f => (hra f).1) hm.1 mk, hg⟩
    have HST : Hid (StepOk 46 #[.pointer (some ⟨w.heap.size + 3, 0, none⟩), .pointer (some ⟨w.heap.size + 1, 0, none⟩), .pointer (some ⟨w.heap.size + 2, 0, none⟩)] w1 s (ebY s ra m mk)) := by
      refine ⟨fun args V => enter_fn Try.func46 (by kernel_rfl) rfl args V, fun V i ua un uc hV hi hr => ?_, HLY.out.1.st hg⟩
      have hVw : Below w.heap.size w V := H1.out.1.trans (hV.mono H1.out.1.size)
      have x1 := (hV.block _ (ltOf H1.out.2.1)).trans H1.out.2.1
      have x2 := (hV.block _ (ltOf H2.out.1)).trans H2.out.1
      have x3 := (hV.block _ (ltOf H2.out.2)).trans H2.out.2
      have e12 : xn = 12 := by rw [HXY.out.2.2.1, h12]
      have emn : i < mn := by rw [HXY.out.2.2.2, hmks]; exact hi
      have emn2 : mn ≤ 16 := by rw [HXY.out.2.2.2, hmks]; exact hg.len
      obtain ⟨rg, ro, e1, hrg, hrc⟩ := rdI_all (HXY.out.1.below hVw) (show 0 < xn by omega)
      obtain ⟨mg, mo, e2, hmg, hmc⟩ := rdB_at (HXY.out.2.1.below hVw) emn
      rw [e1, e12] at x1
      rw [e2] at x3
      rw [e12] at hrc
      exact impl_etch1 (hg.col i hi) hra hm x3 x1 x2 emn emn2 hmg hmc hrg hrc hr
    have HG : Hid (Calls Try.prog 45 #[.agg #[.slice a n c], .func (.func 46) #[] #[.pointer (some ⟨w.heap.size + 3, 0, none⟩), .pointer (some ⟨w.heap.size + 1, 0, none⟩), .pointer (some ⟨w.heap.size + 2, 0, none⟩)]] w1 fun e w' => ∃ u vs gG, e = .returned (.agg #[.int .i64 0, u, .slice (some ⟨gG, 0, none⟩) 12 12]) ∧ RoF w' w1.heap.size u L vs ∧ IS w' w1.heap.size (.slice (some ⟨gG, 0, none⟩) 12 12) G ∧ Below w1.heap.size w1 w') := by
      have h9 := impl_after hg.len HST.out (H.out.1.below H1.out.1)
      have e1 : L = aftS (ebY s ra m mk) s.length := by rw [H.out.2.2.2.1, etL, if_pos hF, H.out.2.1]
      have e2 : G = goA (ebY s ra m mk) s.length := by rw [H.out.2.2.2.2, etG, if_pos hF, H.out.2.1]
      rw [e1, e2]
      exact h9
    have HLG : Hid (L.length = n ∧ G.length = 12) := by
      refine ⟨by rw [H.out.2.2.2.1, etL, if_pos hF, aftS_len], ?_⟩
      rw [H.out.2.2.2.2, etG, if_pos hF, H.out.2.1]
      exact (books hg HLY.out.1 (Nat.le_refl _) 0).2.2.1
    clear hg hm HST h12 hmks herf hra
    subst hF
    go_wp2_with (fail)
    refine HG.out.mono ?_
    rintro e w2 ⟨u, vs, gG, rfl, hro, hgo, hb2⟩
    obtain ⟨xa, xc, hue⟩ := hro.form
    rw [HLG.out.1] at hue
    subst hue
    have k3 := (hb2.block _ (ltOf H1.out.2.2)).trans H1.out.2.2
    have p0' := cellOf k3 0 rfl
    have p1' := cellOf k3 1 rfl
    have p2' := cellOf k3 2 rfl
    have f0' := frozOf k3 0
    have f1' := frozOf k3 1
    have f2' := frozOf k3 2
    have pl' := ltOf k3
    obtain ⟨W, hW⟩ : ∃ W, W = ((w2.setCell ⟨w.heap.size + 4, 0, none⟩ (.int .i64 0)).setCell ⟨w.heap.size + 4, 1, none⟩ (.slice xa n xc)).setCell ⟨w.heap.size + 4, 2, none⟩ (.slice (some ⟨gG, 0, none⟩) 12 12) := ⟨_, rfl⟩
    have HF : Hid (RoE W w.heap.size (.slice xa n xc) (.slice (some ⟨gG, 0, none⟩) 12 12) L G vs ∧ Below w.heap.size w W) := by
      have ho : ∀ q, w1.heap.size ≤ q → W.heap[q]? = w2.heap[q]? := fun q hq => by
        have := ltOf H1.out.2.2
        rw [hW, heap_setCell_other _ _ _ _ (by simp; omega), heap_setCell_other _ _ _ _ (by simp; omega), heap_setCell_other _ _ _ _ (by simp; omega)]
      refine ⟨⟨(hro.kept (fun q hq => ho q (rowBlk hro.o hq).1) (fun i hi q hq => ho q (rowBlk (hro.bx i hi) hq).1)).low H1.out.1.size, ?_⟩, ?_⟩
      · have h8 := rowLow (IS.kept (w' := W) hgo (fun q hq => ho q (World.ownsRow.lt hgo q hq).1)) H1.out.1.size
        exact h8
      · rw [hW]; have := H1.out.1.trans (hb2.mono H1.out.1.size); (repeat' (first | (with_reducible exact Below.refl _ _) | (with_reducible assumption) | (with_reducible refine Below.setCell ?_ ?_ _) | (with_reducible refine Below.alloc ?_ ?_ _) | (with_reducible refine below_drewN ?_ _) | (with_reducible refine Below.drew ?_) | (with_reducible exact Nat.le_refl _) | omega | (simp; done) | (simp; omega)))
    have HWW : Hid _ := hW
    clear hW hro hgo hb2 k3 p0 p1 p2 f0 f1 f2 pl s0 s1 HG
    go_wp2
    rw [← HWW.out]
    refine bodyPost_ret (by rw [HWW.out]; simp [results, Try.results13, go_sem, p0', p1', p2', pl']; try rfl) rfl ?_
    first | exact ⟨(_, _), vs, rfl, HF.out.1, HF.out.2⟩ | exact ⟨_, _, rfl, ⟨vs, HF.out.1⟩, HF.out.2⟩
  · have HE : Hid (∀ W : World, RoE W w.heap.size (.slice none 0 0) (.slice none 0 0) L G []) := fun W => by
      have e1 : L = [] := by rw [H.out.2.2.2.1, etL, if_neg hF]
      have e2 : G = [] := by rw [H.out.2.2.2.2, etG, if_neg hF]
      rw [e1, e2]; exact ⟨RoF.nil _ _, World.ownsRow_nil _ _ _ _⟩
    have hF' : (C == 0) = false := by simpa using hF
    have HB : Hid (Below w.heap.size w (((w1.setCell ⟨w.heap.size + 4, 0, none⟩ (.int .i64 C)).setCell ⟨w.heap.size + 4, 1, none⟩ (.slice none 0 0)).setCell ⟨w.heap.size + 4, 2, none⟩ (.slice none 0 0))) := by
      have := H1.out.1; unfold Hid; (repeat' (first | (with_reducible exact Below.refl _ _) | (with_reducible assumption) | (with_reducible refine Below.setCell ?_ ?_ _) | (with_reducible refine Below.alloc ?_ ?_ _) | (with_reducible refine below_drewN ?_ _) | (with_reducible refine Below.drew ?_) | (with_reducible exact Nat.le_refl _) | omega | (simp; done) | (simp; omega)))
    go_wp2
    refine bodyPost_ret (by simp [results, Try.results13, go_sem, p0, p1, p2, pl]; try rfl) rfl ?_
    first | exact ⟨(_, _), [], rfl, HE.out _, HB.out⟩ | exact ⟨_, _, rfl, ⟨[], HE.out _⟩, HB.out⟩

end Go.Proofs.Ytceljakmjddgbab
