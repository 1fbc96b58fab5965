/- Proved here: thinRuns and nearGaps of the program. -/
import Derived.Test.YtokdpgabmifdjabTnM
import Derived.Test.YtokdpgabmifdjabSRow
import Derived.Test.YtokdpgabmifdjabSRuns
namespace Go.Proofs.Ytokdpgabmifdjab
open Go.RowKit
set_option linter.unusedVariables false
set_option linter.unusedSimpArgs false

theorem op_skipT {P : Program} {ops : Array Oper} {Q : Exit → Act → World → Prop} {i : Nat} {o : Oper} {a : Act} {w w' : World} {K : Act → World → Prop} (ho : ops[i]? = some o) (hg : o.guard = none)
    (hrun : (execOp a.eval o).run P w = .ok .skip w') (h : K (a.put o.dst undef) w') : wpOp P ops Q i K a w := by
  unfold wpOp
  simp only [ho, wanted_none hg, if_true]
  refine Or.inl ?_
  unfold Oper.wp
  rw [hrun]
  exact h

set_option maxRecDepth 10000 in
set_option maxHeartbeats 3200000 in
theorem impl_thinR {w : World} {v : Value} {s : List Bx} (z : Int) (hn : s.length ≤ 500000) (hf : Fine s) (h : RB w v s) :
    Calls Try.prog 37 #[v, .int .i64 z] w fun e w' => ∃ v', e = .returned v' ∧ BS w' w.heap.size v' (thinT s z s.length) ∧ Below w.heap.size w w' := by
  obtain ⟨a, c, rfl⟩ := h.form
  have H : Hid (RB w (.slice a s.length c) s ∧ Fine s) := ⟨h, hf⟩
  clear h hf
  obtain ⟨i0, hi0, hz0, hz1, hz2⟩ := info_parts info_box
  obtain ⟨n, hnn⟩ : ∃ n, n = s.length := ⟨_, rfl⟩
  have HN : Hid (n = s.length) := hnn
  rw [← hnn] at H hn ⊢
  clear hnn
  go_enter Try.func37, Try.ntmps37
  go_wp2
  go_loopw [5, 10] (fun vo i wr => ∃ k : Nat, k ≤ n ∧ i = .int .i64 k ∧ Hid (BS wr w.heap.size vo (thinT s z k) ∧ Below w.heap.size w wr)) (fun _ i _ => n - (intOf i).toNat)
  case atStart => exact ⟨0, Nat.zero_le _, rfl, BS.nil _ _, Below.refl _ _⟩
  case round =>
    obtain ⟨k, hk, rfl, hR⟩ := hrel
    by_cases hlt : k < n
    · obtain ⟨g, o, c2, he, hg, hj⟩ := (H.out.1.below hR.out.2).pos (by rw [← HN.out]; omega)
      simp only [Value.slice.injEq] at he
      obtain ⟨rfl, hx1, hx2⟩ := he
      clear hx1 hx2
      have hkl : k < s.length := by rw [← HN.out]; exact hlt
      have hok := H.out.2.at hkl
      obtain ⟨c0, c1, c2, c3⟩ := hj k hkl
      obtain ⟨b, hb⟩ : ∃ b, bat s k = b := ⟨_, rfl⟩
      rw [hb] at c0 c1 c2 c3 hok
      unfold okB at hok
      obtain ⟨oa, oc, hof⟩ := hR.out.1.form
      subst hof
      have hlen : (thinT s z k).length ≤ 500000 := Nat.le_trans (thinT_len _ _ _) (by omega)
      have HM : Hid (BS wr w.heap.size (.slice oa (thinT s z k).length oc) (thinT s z k) ∧ Below w.heap.size w wr) := hR.out
      have hsz := hR.out.2.size
      have hw : IntKind.i64.wrap (b.x1 - b.x0) = b.x1 - b.x0 := by rw [IntKind.wrap_i64]; omega
      have b0 : (0 : Int) ≤ (k : Int) := by omega
      have b1 : (k : Int) < (n : Int) := by omega
      clear hj hR hok
      by_cases hd : b.x1 - b.x0 < z
      · have HST : Hid (thinT s z (k + 1) = thinT s z k ++ [b]) := by unfold Hid; rw [thinT, hb, if_pos hd]
        clear hb
        generalize (thinT s z k) = out at HM HST hlen ⊢
        go_wp2_with (at_builtin; refine wpList_append_own _ rfl _ _ 24 rfl w.heap.size 49 i0 (.agg #[.int .i64 0, .int .i64 0, .int .i64 0, .int .i64 0]) 4 32 Try.underlying24 hi0 hz0 hz1 hz2 rfl (by decide) _ _ _ rfl (World.ownsRow.alloc (World.ownsRow.alloc HM.out.1 _) _) ⟨wr.heap.size + 1, 0, none⟩ 1 1 (bcells b) rfl rfl (World.news_of_block (cs := #[.int .i64 b.x0, .int .i64 b.y0, .int .i64 b.x1, .int .i64 b.y1]) (t := 49) (fr := (0, 0)) (two_new wr _ _).2) (by simp [bcells, Value.oneCell']) (by unfold maxLen; omega) (by omega) (by simp; omega) ?_; intro v5 w5 hown5 hgrow5 _)
        have R : Hid (BS w5 w.heap.size v5 (thinT s z (k + 1)) ∧ Below w.heap.size w w5) := by
          unfold Hid
          rw [HST.out]
          exact push_step (w := w) (B := w.heap.size) (World.ownsRow.alloc HM.out.1 _) (Nat.le_refl _) (HM.out.2.alloc hsz _) (by simp; omega) hown5 hgrow5
        clear hown5 hgrow5 HM HST
        go_roundw
        case rel => exact ⟨k + 1, by omega, by go_num, R.out⟩
        case measure => simp [intOf]; omega
      · have HST : Hid (thinT s z (k + 1) = thinT s z k) := by unfold Hid; rw [thinT, hb, if_neg hd, List.append_nil]
        clear hb
        have R : Hid (BS wr w.heap.size (.slice oa (thinT s z k).length oc) (thinT s z (k + 1)) ∧ Below w.heap.size w wr) := by unfold Hid; rw [HST.out]; exact HM.out
        clear HM HST
        go_wp2
        go_roundw
        case rel => exact ⟨k + 1, by omega, by go_num, World.ownsRow.alloc R.out.1 _, R.out.2.alloc hsz _⟩
        case measure => simp [intOf]; omega
    · have M4 : Hid (BS wr w.heap.size u5 (thinT s z n) ∧ Below w.heap.size w wr) := by
        obtain rfl : k = n := by omega
        exact hR.out
      clear hR
      go_wp2
      go_returns
      exact ⟨_, rfl, M4.out.1, M4.out.2⟩

set_option maxRecDepth 10000 in
set_option maxHeartbeats 6400000 in
theorem impl_nearG {w : World} {v : Value} {s : List Bx} (z : Int) (hn : s.length ≤ 500000) (hf : Fine s) (h : RB w v s) :
    Calls Try.prog 40 #[v, .int .i64 z] w fun e w' => ∃ v', e = .returned v' ∧ BS w' w.heap.size v' (gapT s z s.length) ∧ Below w.heap.size w w' := by
  obtain ⟨a0, c, rfl⟩ := h.form
  have H : Hid (RB w (.slice a0 s.length c) s ∧ Fine s) := ⟨h, hf⟩
  clear h hf
  obtain ⟨i0, hi0, hz0, hz1, hz2⟩ := info_parts info_box
  obtain ⟨n, hnn⟩ : ∃ n, n = s.length := ⟨_, rfl⟩
  have HN : Hid (n = s.length) := hnn
  rw [← hnn] at H hn ⊢
  clear hnn
  go_enter Try.func40, Try.ntmps40
  go_wp2
  go_loopw [5, 6] (fun vo i wr => ∃ k : Nat, 1 ≤ k ∧ (k ≤ n ∨ k = 1) ∧ i = .int .i64 k ∧ Hid (BS wr w.heap.size vo (gapT s z k) ∧ Below w.heap.size w wr)) (fun _ i _ => n - (intOf i).toNat)
  case atStart => exact ⟨1, Nat.le_refl _, Or.inr rfl, rfl, by simp [gapT]; exact BS.nil _ _, Below.refl _ _⟩
  case round =>
    obtain ⟨k, hkp, hk, rfl, hR⟩ := hrel
    by_cases hlt : k < n
    · obtain ⟨g, o, c2, he, hg, hj⟩ := (H.out.1.below hR.out.2).pos (by rw [← HN.out]; omega)
      simp only [Value.slice.injEq] at he
      obtain ⟨rfl, hx1, hx2⟩ := he
      clear hx1 hx2
      have hkl : k < s.length := by rw [← HN.out]; exact hlt
      obtain ⟨j, hjj⟩ : ∃ j, j = k - 1 := ⟨_, rfl⟩
      have hjk : (j : Int) = (k : Int) - 1 := by omega
      have hok := H.out.2.at hkl
      have hok1 := H.out.2.at (k := j) (by omega)
      obtain ⟨c0, c1, c2, c3⟩ := hj k hkl
      obtain ⟨d0, d1, d2, d3⟩ := hj j (by omega)
      obtain ⟨b, hb⟩ : ∃ b, bat s k = b := ⟨_, rfl⟩
      obtain ⟨a, ha⟩ : ∃ a, bat s j = a := ⟨_, rfl⟩
      rw [hb] at c0 c1 c2 c3 hok
      rw [ha] at d0 d1 d2 d3 hok1
      unfold okB at hok hok1
      obtain ⟨oa, oc, hof⟩ := hR.out.1.form
      subst hof
      have hlen : (gapT s z k).length ≤ 500000 := Nat.le_trans (gapT_len _ _ _) (by omega)
      have HM : Hid (BS wr w.heap.size (.slice oa (gapT s z k).length oc) (gapT s z k) ∧ Below w.heap.size w wr) := hR.out
      have hsz := hR.out.2.size
      have hw : IntKind.i64.wrap (b.x0 - a.x1) = b.x0 - a.x1 := by rw [IntKind.wrap_i64]; omega
      have hwk : IntKind.i64.wrap ((k : Int) - 1) = (k : Int) - 1 := by rw [IntKind.wrap_i64]; omega
      have b0 : (0 : Int) ≤ (k : Int) := by omega
      have b1 : (k : Int) < (n : Int) := by omega
      have b3 : ¬ ((k : Int) - 1 < 0) := by omega
      have b4 : (k : Int) - 1 < (n : Int) := by omega
      have b5 : ((k : Int) - 1).toNat = j := by omega
      have b6 : ¬ (k : Int) < 1 := by omega
      have b7 : (1 : Int) ≤ (k : Int) := by omega
      have HAB : Hid (bat s (k - 1) = a ∧ bat s k = b) := ⟨by rw [← hjj]; exact ha, hb⟩
      clear hj hR hok hok1 ha hb hjj
      go_wp2_with (fail)
      refine wp_region_float (by kernel_rfl) (fun hS => ?_)
      refine fl_take (i := 0) (d := 15) (v := .slice (some ⟨g, o, none⟩) n c) rfl rfl rfl (by kernel_rfl) (by kernel_rfl) (by kernel_rfl) hS ?_ ?_
      · intro w' hk; go_simp
      simp only [Act.put, List.setIfInBounds_toArray, List.set_cons_zero, List.set_cons_succ]
      refine fl_take (i := 1) (d := 16) (v := .int .i64 k) rfl rfl rfl (by kernel_rfl) (by kernel_rfl) (by kernel_rfl) hS ?_ ?_
      · intro w' hk; go_simp
      simp only [Act.put, List.setIfInBounds_toArray, List.set_cons_zero, List.set_cons_succ]
      refine fl_take (i := 2) (d := 17) (v := .int .i64 ((k : Int) - 1)) rfl rfl rfl (by kernel_rfl) (by kernel_rfl) (by kernel_rfl) hS ?_ ?_
      · intro w' hk; go_simp
      simp only [Act.put, List.setIfInBounds_toArray, List.set_cons_zero, List.set_cons_succ]
      refine fl_take (i := 3) (d := 18) (v := .pointer (some ⟨g, o + j * 4, none⟩)) rfl rfl rfl (by kernel_rfl) (by kernel_rfl) (by kernel_rfl) hS ?_ ?_
      · intro w' hk; go_simp
      simp only [Act.put, List.setIfInBounds_toArray, List.set_cons_zero, List.set_cons_succ]
      refine fl_take (i := 4) (d := 19) (v := .agg #[.int .i64 a.x0, .int .i64 a.y0, .int .i64 a.x1, .int .i64 a.y1]) rfl rfl rfl (by kernel_rfl) (by kernel_rfl) (by kernel_rfl) hS ?_ ?_
      · intro w' hk; go_simp
      simp only [Act.put, List.setIfInBounds_toArray, List.set_cons_zero, List.set_cons_succ]
      refine fl_take (i := 5) (d := 20) (v := .slice (some ⟨g, o, none⟩) n c) rfl rfl rfl (by kernel_rfl) (by kernel_rfl) (by kernel_rfl) hS ?_ ?_
      · intro w' hk; go_simp
      simp only [Act.put, List.setIfInBounds_toArray, List.set_cons_zero, List.set_cons_succ]
      refine fl_take (i := 6) (d := 21) (v := .int .i64 k) rfl rfl rfl (by kernel_rfl) (by kernel_rfl) (by kernel_rfl) hS ?_ ?_
      · intro w' hk; go_simp
      simp only [Act.put, List.setIfInBounds_toArray, List.set_cons_zero, List.set_cons_succ]
      refine fl_take (i := 7) (d := 22) (v := .pointer (some ⟨g, o + k * 4, none⟩)) rfl rfl rfl (by kernel_rfl) (by kernel_rfl) (by kernel_rfl) hS ?_ ?_
      · intro w' hk; go_simp
      simp only [Act.put, List.setIfInBounds_toArray, List.set_cons_zero, List.set_cons_succ]
      refine fl_take (i := 8) (d := 23) (v := .agg #[.int .i64 b.x0, .int .i64 b.y0, .int .i64 b.x1, .int .i64 b.y1]) rfl rfl rfl (by kernel_rfl) (by kernel_rfl) (by kernel_rfl) hS ?_ ?_
      · intro w' hk; go_simp
      simp only [Act.put, List.setIfInBounds_toArray, List.set_cons_zero, List.set_cons_succ]
      refine wpAnyH_all (rs := [9, 10]) (by kernel_rfl) (by simp) ?_
      intro i hi
      rcases (by simpa using hi : i = 9 ∨ i = 10) with rfl | rfl
      · refine op_val (d := 7) (v := .pointer (some ⟨wr.heap.size, 0, none⟩)) (w' := (wr.alloc (.cells #[.int .i64 0, .int .i64 0, .int .i64 0, .int .i64 0] 49)).drew) rfl rfl rfl (by go_simp; try rfl) ?_
        simp only [Act.put, List.setIfInBounds_toArray, List.set_cons_zero, List.set_cons_succ]
        have hk3 : KS wr (wr.alloc (.cells #[.int .i64 0, .int .i64 0, .int .i64 0, .int .i64 0] 49)).drew := KS.of (((Below.refl _ _).alloc (Nat.le_refl _) _).drew)
        refine ⟨hk3, wpAnyH_all (rs := [10]) (by kernel_rfl) (by simp) ?_⟩
        intro i hi
        obtain rfl : i = 10 := by simpa using hi
        refine op_val (d := 8) (v := .pointer (some ⟨wr.heap.size + 1, 0, none⟩)) (w' := ((wr.alloc (.cells #[.int .i64 0, .int .i64 0, .int .i64 0, .int .i64 0] 49)).alloc (.cells #[.int .i64 0, .int .i64 0, .int .i64 0, .int .i64 0] 49)).drew) rfl rfl rfl (by go_simp; try rfl) ?_
        simp only [Act.put, List.setIfInBounds_toArray, List.set_cons_zero, List.set_cons_succ]
        have hk4 : KS wr ((wr.alloc (.cells #[.int .i64 0, .int .i64 0, .int .i64 0, .int .i64 0] 49)).alloc (.cells #[.int .i64 0, .int .i64 0, .int .i64 0, .int .i64 0] 49)).drew := KS.of ((((Below.refl _ _).alloc (Nat.le_refl _) _).alloc (by simp) _).drew)
        refine ⟨hk4, wpAnyH_all (rs := [11]) (by kernel_rfl) (by simp) ?_⟩
        intro i hi
        obtain rfl : i = 11 := by simpa using hi
        refine op_skipT (w' := ((wr.alloc (.cells #[.int .i64 a.x0, .int .i64 a.y0, .int .i64 a.x1, .int .i64 a.y1] 49)).alloc (.cells #[.int .i64 0, .int .i64 0, .int .i64 0, .int .i64 0] 49)).drew) rfl rfl (by go_simp; try rfl) ?_
        simp only [Act.put]
        have hk5 : KS wr ((wr.alloc (.cells #[.int .i64 a.x0, .int .i64 a.y0, .int .i64 a.x1, .int .i64 a.y1] 49)).alloc (.cells #[.int .i64 0, .int .i64 0, .int .i64 0, .int .i64 0] 49)).drew := KS.of ((((Below.refl _ _).alloc (Nat.le_refl _) _).alloc (by simp) _).drew)
        refine ⟨hk5, wpAnyH_all (rs := [12]) (by kernel_rfl) (by simp) ?_⟩
        intro i hi
        obtain rfl : i = 12 := by simpa using hi
        refine op_skipT (w' := ((wr.alloc (.cells #[.int .i64 a.x0, .int .i64 a.y0, .int .i64 a.x1, .int .i64 a.y1] 49)).alloc (.cells #[.int .i64 b.x0, .int .i64 b.y0, .int .i64 b.x1, .int .i64 b.y1] 49)).drew) rfl rfl (by go_simp; try rfl) ?_
        simp only [Act.put]
        have hb6 : Below wr.heap.size wr ((wr.alloc (.cells #[.int .i64 a.x0, .int .i64 a.y0, .int .i64 a.x1, .int .i64 a.y1] 49)).alloc (.cells #[.int .i64 b.x0, .int .i64 b.y0, .int .i64 b.x1, .int .i64 b.y1] 49)).drew := (((Below.refl _ _).alloc (Nat.le_refl _) _).alloc (by simp) _).drew
        refine ⟨KS.of hb6, wpAnyH_done (by kernel_rfl) (NoPanic.normal ?_) _⟩
        obtain ⟨W, hW⟩ : ∃ W, W = ((wr.alloc (.cells #[.int .i64 a.x0, .int .i64 a.y0, .int .i64 a.x1, .int .i64 a.y1] 49)).alloc (.cells #[.int .i64 b.x0, .int .i64 b.y0, .int .i64 b.x1, .int .i64 b.y1] 49)).drew := ⟨_, rfl⟩
        rw [← hW] at hb6 ⊢
        have hblk := two_new wr (.cells #[.int .i64 a.x0, .int .i64 a.y0, .int .i64 a.x1, .int .i64 a.y1] 49) (.cells #[.int .i64 b.x0, .int .i64 b.y0, .int .i64 b.x1, .int .i64 b.y1] 49)
        have e7 : W.heap[wr.heap.size]? = some (.cells #[.int .i64 a.x0, .int .i64 a.y0, .int .i64 a.x1, .int .i64 a.y1] 49) := by rw [hW]; exact hblk.1
        have e8 : W.heap[wr.heap.size + 1]? = some (.cells #[.int .i64 b.x0, .int .i64 b.y0, .int .i64 b.x1, .int .i64 b.y1] 49) := by rw [hW]; exact hblk.2
        have hWs : wr.heap.size + 2 = W.heap.size := by rw [hW]; simp
        have q0 : W.cell? ⟨wr.heap.size, 0, none⟩ = some (.int .i64 a.x0) := by simp [World.cell?, e7]
        have q1 : W.cell? ⟨wr.heap.size, 1, none⟩ = some (.int .i64 a.y0) := by simp [World.cell?, e7]
        have q2 : W.cell? ⟨wr.heap.size, 2, none⟩ = some (.int .i64 a.x1) := by simp [World.cell?, e7]
        have q3 : W.cell? ⟨wr.heap.size, 3, none⟩ = some (.int .i64 a.y1) := by simp [World.cell?, e7]
        have p0 : W.cell? ⟨wr.heap.size + 1, 0, none⟩ = some (.int .i64 b.x0) := by simp [World.cell?, e8]
        have p1 : W.cell? ⟨wr.heap.size + 1, 1, none⟩ = some (.int .i64 b.y0) := by simp [World.cell?, e8]
        have l7 : wr.heap.size < W.heap.size := by omega
        have l8 : wr.heap.size + 1 < W.heap.size := by omega
        have HMW : Hid (BS W w.heap.size (.slice oa (gapT s z k).length oc) (gapT s z k) ∧ Below w.heap.size w W) := ⟨HM.out.1.below hb6, HM.out.2.trans (hb6.mono hsz)⟩
        have hszW : w.heap.size ≤ W.heap.size := by omega
        clear hW hb6 hblk e7 e8 hk3 hk4 hk5 HM hS c0 c1 c2 c3 d0 d1 d2 d3
        by_cases hc : a.y0 = b.y0 ∧ b.x0 - a.x1 < z
        · have HST : Hid (gapT s z (k + 1) = gapT s z k ++ [⟨a.x1, b.y0, b.x0, a.y1⟩]) := by
            unfold Hid; rw [gapT, HAB.out.1, HAB.out.2, if_neg (by omega), gapB, if_pos hc, hc.1]
          obtain ⟨g1, g2⟩ := hc
          generalize (gapT s z k) = out at HMW HST hlen ⊢
          go_wp2_with (at_builtin; refine wpList_append_own _ rfl _ _ 24 rfl w.heap.size 49 i0 (.agg #[.int .i64 0, .int .i64 0, .int .i64 0, .int .i64 0]) 4 32 Try.underlying24 hi0 hz0 hz1 hz2 rfl (by decide) _ _ _ rfl (World.ownsRow.alloc HMW.out.1 _) ⟨W.heap.size, 0, none⟩ 1 1 (bcells ⟨a.x1, b.y0, b.x0, a.y1⟩) rfl rfl (World.news_of_block (cs := #[.int .i64 a.x1, .int .i64 b.y0, .int .i64 b.x0, .int .i64 a.y1]) (t := 49) (fr := (0, 0)) (heap_alloc_new W _)) (by simp [bcells, Value.oneCell']) (by unfold maxLen; omega) (by omega) (by simp; omega) ?_; intro v5 w5 hown5 hgrow5 _)
          have R : Hid (BS w5 w.heap.size v5 (gapT s z (k + 1)) ∧ Below w.heap.size w w5) := by
            unfold Hid
            rw [HST.out]
            exact push_step (w := w) (B := w.heap.size) HMW.out.1 (Nat.le_refl _) HMW.out.2 hszW hown5 hgrow5
          clear hown5 hgrow5 HMW HST
          go_wp2
          go_roundw
          case rel => exact ⟨k + 1, by omega, Or.inl (by omega), by go_num, R.out⟩
          case measure => simp [intOf]; omega
        · have R : Hid (BS W w.heap.size (.slice oa (gapT s z k).length oc) (gapT s z (k + 1)) ∧ Below w.heap.size w W) := by
            have e : gapT s z (k + 1) = gapT s z k := by rw [gapT, HAB.out.1, HAB.out.2, if_neg (by omega), gapB, if_neg hc, List.append_nil]
            unfold Hid; rw [e]; exact HMW.out
          clear HMW
          by_cases g1 : a.y0 = b.y0
          · have g2 : ¬ b.x0 - a.x1 < z := fun e => hc ⟨g1, e⟩
            clear hc
            go_wp2
            go_roundw
            case rel => exact ⟨k + 1, by omega, Or.inl (by omega), by go_num, R.out⟩
            case measure => simp [intOf]; omega
          · clear hc
            go_wp2
            go_roundw
            case rel => exact ⟨k + 1, by omega, Or.inl (by omega), by go_num, R.out⟩
            case measure => simp [intOf]; omega
      · refine op_val (d := 8) (v := .pointer (some ⟨wr.heap.size, 0, none⟩)) (w' := (wr.alloc (.cells #[.int .i64 0, .int .i64 0, .int .i64 0, .int .i64 0] 49)).drew) rfl rfl rfl (by go_simp; try rfl) ?_
        simp only [Act.put, List.setIfInBounds_toArray, List.set_cons_zero, List.set_cons_succ]
        have hk3 : KS wr (wr.alloc (.cells #[.int .i64 0, .int .i64 0, .int .i64 0, .int .i64 0] 49)).drew := KS.of (((Below.refl _ _).alloc (Nat.le_refl _) _).drew)
        refine ⟨hk3, wpAnyH_all (rs := [9]) (by kernel_rfl) (by simp) ?_⟩
        intro i hi
        obtain rfl : i = 9 := by simpa using hi
        refine op_val (d := 7) (v := .pointer (some ⟨wr.heap.size + 1, 0, none⟩)) (w' := ((wr.alloc (.cells #[.int .i64 0, .int .i64 0, .int .i64 0, .int .i64 0] 49)).alloc (.cells #[.int .i64 0, .int .i64 0, .int .i64 0, .int .i64 0] 49)).drew) rfl rfl rfl (by go_simp; try rfl) ?_
        simp only [Act.put, List.setIfInBounds_toArray, List.set_cons_zero, List.set_cons_succ]
        have hk4 : KS wr ((wr.alloc (.cells #[.int .i64 0, .int .i64 0, .int .i64 0, .int .i64 0] 49)).alloc (.cells #[.int .i64 0, .int .i64 0, .int .i64 0, .int .i64 0] 49)).drew := KS.of ((((Below.refl _ _).alloc (Nat.le_refl _) _).alloc (by simp) _).drew)
        refine ⟨hk4, wpAnyH_all (rs := [11]) (by kernel_rfl) (by simp) ?_⟩
        intro i hi
        obtain rfl : i = 11 := by simpa using hi
        refine op_skipT (w' := ((wr.alloc (.cells #[.int .i64 0, .int .i64 0, .int .i64 0, .int .i64 0] 49)).alloc (.cells #[.int .i64 a.x0, .int .i64 a.y0, .int .i64 a.x1, .int .i64 a.y1] 49)).drew) rfl rfl (by go_simp; try rfl) ?_
        simp only [Act.put]
        have hk5 : KS wr ((wr.alloc (.cells #[.int .i64 0, .int .i64 0, .int .i64 0, .int .i64 0] 49)).alloc (.cells #[.int .i64 a.x0, .int .i64 a.y0, .int .i64 a.x1, .int .i64 a.y1] 49)).drew := KS.of ((((Below.refl _ _).alloc (Nat.le_refl _) _).alloc (by simp) _).drew)
        refine ⟨hk5, wpAnyH_all (rs := [12]) (by kernel_rfl) (by simp) ?_⟩
        intro i hi
        obtain rfl : i = 12 := by simpa using hi
        refine op_skipT (w' := ((wr.alloc (.cells #[.int .i64 b.x0, .int .i64 b.y0, .int .i64 b.x1, .int .i64 b.y1] 49)).alloc (.cells #[.int .i64 a.x0, .int .i64 a.y0, .int .i64 a.x1, .int .i64 a.y1] 49)).drew) rfl rfl (by go_simp; try rfl) ?_
        simp only [Act.put]
        have hb6 : Below wr.heap.size wr ((wr.alloc (.cells #[.int .i64 b.x0, .int .i64 b.y0, .int .i64 b.x1, .int .i64 b.y1] 49)).alloc (.cells #[.int .i64 a.x0, .int .i64 a.y0, .int .i64 a.x1, .int .i64 a.y1] 49)).drew := (((Below.refl _ _).alloc (Nat.le_refl _) _).alloc (by simp) _).drew
        refine ⟨KS.of hb6, wpAnyH_done (by kernel_rfl) (NoPanic.normal ?_) _⟩
        obtain ⟨W, hW⟩ : ∃ W, W = ((wr.alloc (.cells #[.int .i64 b.x0, .int .i64 b.y0, .int .i64 b.x1, .int .i64 b.y1] 49)).alloc (.cells #[.int .i64 a.x0, .int .i64 a.y0, .int .i64 a.x1, .int .i64 a.y1] 49)).drew := ⟨_, rfl⟩
        rw [← hW] at hb6 ⊢
        have hblk := two_new wr (.cells #[.int .i64 b.x0, .int .i64 b.y0, .int .i64 b.x1, .int .i64 b.y1] 49) (.cells #[.int .i64 a.x0, .int .i64 a.y0, .int .i64 a.x1, .int .i64 a.y1] 49)
        have e7 : W.heap[wr.heap.size + 1]? = some (.cells #[.int .i64 a.x0, .int .i64 a.y0, .int .i64 a.x1, .int .i64 a.y1] 49) := by rw [hW]; exact hblk.2
        have e8 : W.heap[wr.heap.size]? = some (.cells #[.int .i64 b.x0, .int .i64 b.y0, .int .i64 b.x1, .int .i64 b.y1] 49) := by rw [hW]; exact hblk.1
        have hWs : wr.heap.size + 2 = W.heap.size := by rw [hW]; simp
        have q0 : W.cell? ⟨wr.heap.size + 1, 0, none⟩ = some (.int .i64 a.x0) := by simp [World.cell?, e7]
        have q1 : W.cell? ⟨wr.heap.size + 1, 1, none⟩ = some (.int .i64 a.y0) := by simp [World.cell?, e7]
        have q2 : W.cell? ⟨wr.heap.size + 1, 2, none⟩ = some (.int .i64 a.x1) := by simp [World.cell?, e7]
        have q3 : W.cell? ⟨wr.heap.size + 1, 3, none⟩ = some (.int .i64 a.y1) := by simp [World.cell?, e7]
        have p0 : W.cell? ⟨wr.heap.size, 0, none⟩ = some (.int .i64 b.x0) := by simp [World.cell?, e8]
        have p1 : W.cell? ⟨wr.heap.size, 1, none⟩ = some (.int .i64 b.y0) := by simp [World.cell?, e8]
        have l7 : wr.heap.size + 1 < W.heap.size := by omega
        have l8 : wr.heap.size < W.heap.size := by omega
        have HMW : Hid (BS W w.heap.size (.slice oa (gapT s z k).length oc) (gapT s z k) ∧ Below w.heap.size w W) := ⟨HM.out.1.below hb6, HM.out.2.trans (hb6.mono hsz)⟩
        have hszW : w.heap.size ≤ W.heap.size := by omega
        clear hW hb6 hblk e7 e8 hk3 hk4 hk5 HM hS c0 c1 c2 c3 d0 d1 d2 d3
        by_cases hc : a.y0 = b.y0 ∧ b.x0 - a.x1 < z
        · have HST : Hid (gapT s z (k + 1) = gapT s z k ++ [⟨a.x1, b.y0, b.x0, a.y1⟩]) := by
            unfold Hid; rw [gapT, HAB.out.1, HAB.out.2, if_neg (by omega), gapB, if_pos hc, hc.1]
          obtain ⟨g1, g2⟩ := hc
          generalize (gapT s z k) = out at HMW HST hlen ⊢
          go_wp2_with (at_builtin; refine wpList_append_own _ rfl _ _ 24 rfl w.heap.size 49 i0 (.agg #[.int .i64 0, .int .i64 0, .int .i64 0, .int .i64 0]) 4 32 Try.underlying24 hi0 hz0 hz1 hz2 rfl (by decide) _ _ _ rfl (World.ownsRow.alloc HMW.out.1 _) ⟨W.heap.size, 0, none⟩ 1 1 (bcells ⟨a.x1, b.y0, b.x0, a.y1⟩) rfl rfl (World.news_of_block (cs := #[.int .i64 a.x1, .int .i64 b.y0, .int .i64 b.x0, .int .i64 a.y1]) (t := 49) (fr := (0, 0)) (heap_alloc_new W _)) (by simp [bcells, Value.oneCell']) (by unfold maxLen; omega) (by omega) (by simp; omega) ?_; intro v5 w5 hown5 hgrow5 _)
          have R : Hid (BS w5 w.heap.size v5 (gapT s z (k + 1)) ∧ Below w.heap.size w w5) := by
            unfold Hid
            rw [HST.out]
            exact push_step (w := w) (B := w.heap.size) HMW.out.1 (Nat.le_refl _) HMW.out.2 hszW hown5 hgrow5
          clear hown5 hgrow5 HMW HST
          go_wp2
          go_roundw
          case rel => exact ⟨k + 1, by omega, Or.inl (by omega), by go_num, R.out⟩
          case measure => simp [intOf]; omega
        · have R : Hid (BS W w.heap.size (.slice oa (gapT s z k).length oc) (gapT s z (k + 1)) ∧ Below w.heap.size w W) := by
            have e : gapT s z (k + 1) = gapT s z k := by rw [gapT, HAB.out.1, HAB.out.2, if_neg (by omega), gapB, if_neg hc, List.append_nil]
            unfold Hid; rw [e]; exact HMW.out
          clear HMW
          by_cases g1 : a.y0 = b.y0
          · have g2 : ¬ b.x0 - a.x1 < z := fun e => hc ⟨g1, e⟩
            clear hc
            go_wp2
            go_roundw
            case rel => exact ⟨k + 1, by omega, Or.inl (by omega), by go_num, R.out⟩
            case measure => simp [intOf]; omega
          · clear hc
            go_wp2
            go_roundw
            case rel => exact ⟨k + 1, by omega, Or.inl (by omega), by go_num, R.out⟩
            case measure => simp [intOf]; omega
    · have M4 : Hid (BS wr w.heap.size u5 (gapT s z n) ∧ Below w.heap.size w wr) := by
        have hR' := hR.out
        rcases hk with hk | hk
        · obtain rfl : k = n := by omega
          exact hR'
        · subst hk
          rcases (by omega : n = 0 ∨ n = 1) with h0 | h0
          · subst h0
            have e : gapT s z 1 = gapT s z 0 := by simp [gapT]
            rw [e] at hR'; exact hR'
          · subst h0; exact hR'
      clear hR
      go_wp2
      go_returns
      exact ⟨_, rfl, M4.out.1, M4.out.2⟩

end Go.Proofs.Ytokdpgabmifdjab
