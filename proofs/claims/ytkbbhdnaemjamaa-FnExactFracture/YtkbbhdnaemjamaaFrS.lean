/- Proved here: Fracture of the model. -/
import Derived.Test.YtkbbhdnaemjamaaFrJ
import Derived.BigQuiet
namespace Go.Proofs.Ytkbbhdnaemjamaa
open Go.RowKit
set_option linter.unusedVariables false
set_option linter.unusedSimpArgs false

set_option maxHeartbeats 400000 in
theorem spec_minP (a b : Int) (w : World) : Calls Try.prog 43 #[.int .i64 a, .int .i64 b] w fun e w' => e = .returned (.int .i64 (minP a b)) ∧ w' = w := by
  unfold minP
  by_cases h : a < b
  · rw [if_pos h]
    go_enter Try.func43, Try.ntmps43
    go_wp2
    go_returns
    exact ⟨rfl, rfl⟩
  · rw [if_neg h]
    go_enter Try.func43, Try.ntmps43
    go_wp2
    go_returns
    exact ⟨rfl, rfl⟩
theorem FV.push {w wr w1 : World} {vo v' : Value} {out : List Bx} {b : Bx} {ob : Obj} (h : FV w wr vo out) (ho : w1.ownsRow (w.heap.size + 1) 34 4 v' (out.length + 1) (bflat out ++ bcells b)) (hg : (wr.alloc ob).grownBy w1 vo.ownBlock) : FV w w1 v' (out ++ [b]) := by
  have hz := h.sz
  have hne : ∀ k, k < w.heap.size + 1 → some k ≠ vo.ownBlock := fun k hk e => by have := (World.ownsRow.lt h.o k e.symm).1; omega
  have ha := Below.heap_alloc wr
  refine ⟨?_, (hg.block _ (by simp; omega) (hne _ (by omega))).trans ((Below.heap_alloc wr _ _ (by omega)).trans h.r), ?_, by have := hg.size; simp at this; omega⟩
  · unfold BS
    rw [bflat_append, List.length_append]
    have e : bflat [b] = bcells b := by simp [bflat]
    rw [e]; exact ho
  · exact (h.bl.alloc h.bl.size ob).trans ⟨hg.os, hg.tape, hg.output, hg.size, fun k hk => hg.block k (by simp; omega) (hne k (by omega))⟩

set_option maxRecDepth 10000 in
set_option maxHeartbeats 16000000 in
theorem spec_frac (m : Int) {w : World} {v : Value} {s : List Bx} (h : RB w v s) :
    Calls Try.prog 17 #[v, .int .i64 m] w fun e w' => ∃ vs, e = .returned (.agg #[.int .i64 (frC s m), vs]) ∧ BS w' w.heap.size vs (frL s m) ∧ Below w.heap.size w w' := by
  obtain ⟨a, c, rfl⟩ := h.form
  obtain ⟨n, hnn⟩ : ∃ n, n = s.length := ⟨_, rfl⟩
  rw [← hnn] at h ⊢
  have H : Hid (RB w (.slice a n c) s ∧ n = s.length) := ⟨h, hnn⟩
  clear h hnn
  obtain ⟨i0, hi0, hz0', hz1, hz2⟩ := info_parts info_box
  obtain ⟨z, hz⟩ : ∃ z, z = shapeK s := ⟨_, rfl⟩
  obtain ⟨C, hC⟩ : ∃ C, C = frC s m := ⟨_, rfl⟩
  have HZ : Hid (z = shapeK s ∧ C = frC s m) := ⟨hz, hC⟩
  have HSH : Hid (∀ W : World, Below w.heap.size w W → Calls Try.prog 42 #[.slice a n c] W fun e w' => e = .returned (.int .i64 z) ∧ Below W.heap.size W w') := fun W hW => by rw [hz]; exact spec_shape (H.out.1.below hW)
  rw [← hC]
  clear hz hC
  go_enter Try.func17, Try.ntmps17
  go_wp2_with (fail)
  refine (HSH.out _ ((Below.refl _ _).alloc (Nat.le_refl _) _)).mono ?_
  rintro e w1 ⟨rfl, hb1⟩
  obtain ⟨hk1, hlt1, hB1⟩ := res_kf hb1
  have HK1 : Hid (w1.heap[w.heap.size]? = some (.cells #[.int .i64 0, .slice none 0 0] 43) ∧ Below w.heap.size w w1 ∧ w.heap.size < w1.heap.size) := ⟨hk1, hB1, hlt1⟩
  clear hb1 hk1 hB1 HSH hlt1
  by_cases hz0 : z = 0
  case neg =>
    have HE : Hid (C = z ∧ frL s m = []) := by
      have e : frC s m = z := by rw [frC, if_neg (by rw [← HZ.out.1]; exact hz0), HZ.out.1]
      exact ⟨HZ.out.2.trans e, by rw [frL, if_neg (by rw [e]; exact hz0)]⟩
    obtain ⟨r0, r1, f0, f1, hlt2⟩ := two_cf HK1.out.1
    go_wp2
    refine bodyPost_ret (by simp [results, Try.results17, go_sem, r0, r1, hlt2]; rfl) rfl ⟨.slice none 0 0, ?_, ?_, ?_⟩
    · rw [HE.out.1]
    · rw [HE.out.2]; exact BS.nil _ _
    · have hb := HK1.out.2.1
      (repeat' (first | (with_reducible exact Below.refl _ _) | (with_reducible assumption) | (with_reducible refine Below.setCell ?_ ?_ _) | (with_reducible refine Below.alloc ?_ ?_ _) | (with_reducible refine below_drewN ?_ _) | (with_reducible refine Below.drew ?_) | (with_reducible exact Nat.le_refl _) | omega | (simp; done) | (simp; omega)))
  have hsz : shapeK s = 0 := by rw [← HZ.out.1]; exact hz0
  have hbz := boxesK_zero (frK_zero hsz)
  have HL : Hid (s.length ≤ 150 ∧ ∀ b ∈ s, OkB b) := ⟨hbz.1, hbz.2⟩
  have HS0 : Hid (shapeK s = 0) := hsz
  have hn150 : n ≤ 150 := by rw [H.out.2]; exact HL.out.1
  obtain ⟨r, hr⟩ : ∃ r, r = decide (1 ≤ m ∧ m ≤ 1000) := ⟨_, rfl⟩
  have HIN : Hid (∀ W, Calls Try.prog 35 #[.int .i64 m, .int .i64 1, .int .i64 1000] W fun e w' => e = .returned (.bool r) ∧ w' = W) := spec_ins m 1 1000 r hr
  have HRR : Hid _ := hr
  clear hsz hbz hr
  subst hz0
  go_wp2_with (fail)
  refine (HIN.out _).mono ?_
  rintro e w2 ⟨rfl, hw2⟩
  subst w2
  cases r with
  | false =>
    have HE : Hid (C = 3 ∧ frL s m = []) := by
      have e : frC s m = 3 := by rw [frC, if_pos HS0.out, if_neg (by simpa using HRR.out)]
      exact ⟨HZ.out.2.trans e, by rw [frL, if_neg (by rw [e]; omega)]⟩
    obtain ⟨r0, r1, f0, f1, hlt2⟩ := two_cf HK1.out.1
    go_wp2
    refine bodyPost_ret (by simp [results, Try.results17, go_sem, r0, r1, hlt2]; rfl) rfl ⟨.slice none 0 0, ?_, ?_, ?_⟩
    · rw [HE.out.1]
    · rw [HE.out.2]; exact BS.nil _ _
    · have hb := HK1.out.2.1
      (repeat' (first | (with_reducible exact Below.refl _ _) | (with_reducible assumption) | (with_reducible refine Below.setCell ?_ ?_ _) | (with_reducible refine Below.alloc ?_ ?_ _) | (with_reducible refine below_drewN ?_ _) | (with_reducible refine Below.drew ?_) | (with_reducible exact Nat.le_refl _) | omega | (simp; done) | (simp; omega)))
  | true =>
    have HM : Hid (1 ≤ m ∧ m ≤ 1000) := by unfold Hid; simpa using HRR.out
    have hm := HM.out
    have HC0 : Hid (frC s m = if 150 < frN s m then 2 else 0) := by unfold Hid; rw [frC, if_pos HS0.out, if_pos HM.out]
    go_wp2
    go_loopw [6, 7] (fun q i wr => ∃ k : Nat, k ≤ n ∧ i = .int .i64 k ∧ q = .int .i64 ((frN (s.take k) m : Nat) : Int) ∧ Hid (Below w1.heap.size w1 wr)) (fun _ i _ => n - (intOf i).toNat)
    case atStart => exact ⟨0, Nat.zero_le _, rfl, rfl, Below.refl _ _⟩
    case round =>
      obtain ⟨k, hk, rfl, rfl, hR⟩ := hrel
      have hsz1 : w.heap.size ≤ w1.heap.size := HK1.out.2.1.size
      by_cases hlt : k < n
      · have hkl : k < s.length := by rw [← H.out.2]; exact hlt
        have HBR : Hid (Below w.heap.size w wr) := HK1.out.2.1.trans (hR.out.mono hsz1)
        obtain ⟨g, o, c2, he, hg, hj⟩ := (H.out.1.below HBR.out).pos (by rw [← H.out.2]; omega)
        simp only [Value.slice.injEq] at he
        obtain ⟨rfl, hx1, hx2⟩ := he
        clear hx1 hx2
        obtain ⟨c0, c1, c2, c3⟩ := hj k hkl
        obtain ⟨b, hb⟩ : ∃ b, b = bat s k := ⟨_, rfl⟩
        rw [← hb] at c0 c1 c2 c3
        have hok : OkB b := by rw [hb, bat_get hkl]; exact HL.out.2 _ (List.getElem_mem hkl)
        unfold OkB at hok
        have h1 := cntP_le (lo := b.x0) (hi := b.x1) (m := m) HM.out.1 hok.1 (by omega)
        have h2 := cntP_le (lo := b.y0) (hi := b.y1) (m := m) HM.out.1 hok.2.1 (by omega)
        have h3 := cnt2 h1 h2
        have h4 : frN (s.take k) m ≤ 150 * 400000000 := Nat.le_trans (frN_le (s.take k) m HM.out.1 (fun c hc => HL.out.2 c (List.mem_of_mem_take hc))) (Nat.mul_le_mul_right _ (by simp; omega))
        have q1 : (b.x1 - b.x0 + m - 1).tdiv m = ((cntP b.x0 b.x1 m : Nat) : Int) := cntP_tdiv HM.out.1 hok.1
        have q2 : (b.y1 - b.y0 + m - 1).tdiv m = ((cntP b.y0 b.y1 m : Nat) : Int) := cntP_tdiv HM.out.1 hok.2.1
        have HST : Hid (frN (s.take (k + 1)) m = frN (s.take k) m + cntP b.x0 b.x1 m * cntP b.y0 b.y1 m) := by unfold Hid; rw [frN_take hkl, ← hb]
        have a1 : IntKind.i64.wrap (b.x1 - b.x0) = b.x1 - b.x0 := by rw [IntKind.wrap_i64]; omega
        have a2 : IntKind.i64.wrap (b.y1 - b.y0) = b.y1 - b.y0 := by rw [IntKind.wrap_i64]; omega
        have a3 : IntKind.i64.wrap (b.x1 - b.x0 + m) = b.x1 - b.x0 + m := by rw [IntKind.wrap_i64]; omega
        have a4 : IntKind.i64.wrap (b.y1 - b.y0 + m) = b.y1 - b.y0 + m := by rw [IntKind.wrap_i64]; omega
        have a5 : IntKind.i64.wrap (b.x1 - b.x0 + m - 1) = b.x1 - b.x0 + m - 1 := by rw [IntKind.wrap_i64]; omega
        have a6 : IntKind.i64.wrap (b.y1 - b.y0 + m - 1) = b.y1 - b.y0 + m - 1 := by rw [IntKind.wrap_i64]; omega
        generalize cntP b.x0 b.x1 m = p1 at h1 h3 q1 HST
        generalize cntP b.y0 b.y1 m = p2 at h2 h3 q2 HST
        generalize frN (s.take k) m = f0 at h4 HST ⊢
        have a7 : IntKind.i64.wrap (p1 : Int) = (p1 : Int) := by rw [IntKind.wrap_i64]; omega
        have a8 : IntKind.i64.wrap (p2 : Int) = (p2 : Int) := by rw [IntKind.wrap_i64]; omega
        have hmul : (p1 : Int) * (p2 : Int) = ((p1 * p2 : Nat) : Int) := by simp
        have hw3 : IntKind.i64.wrap ((p1 : Int) * (p2 : Int)) = ((p1 * p2 : Nat) : Int) := by rw [hmul, IntKind.wrap_i64]; omega
        have hw4 : IntKind.i64.wrap ((f0 : Int) + ((p1 * p2 : Nat) : Int)) = ((f0 + p1 * p2 : Nat) : Int) := by rw [IntKind.wrap_i64]; omega
        have HSI : Hid (((frN (s.take (k + 1)) m : Nat) : Int) = ((f0 + p1 * p2 : Nat) : Int)) := by unfold Hid; rw [HST.out]
        generalize p1 * p2 = p3 at hw3 hw4 HSI
        have hm0 : ¬ m = 0 := by omega
        have hm1 : (m == 0) = false := by simp; omega
        have hm2 : (m == -1) = false := by simp; omega
        clear hb hj hok h1 h2 h3 h4 hmul HST hm
        have b0 : (0 : Int) ≤ (k : Int) := by omega
        have b1 : (k : Int) < (n : Int) := by omega
        go_wp2_with (fail)
        (refine wp_region_und (by kernel_rfl) (by kernel_rfl) (fun hund => ?_); (repeat (go_big_quiet_step (fail))); with_reducible refine wpQuiet_nil ?_; clear hund; intro W1 hb1; obtain ⟨hc1, hf1⟩ := bcell hb1)
        have HB : Hid (Below w1.heap.size w1 W1) := hR.out.trans (hb1.mono hR.out.size)
        clear hb1 hc1 hf1 c0 c1 c2 c3 a1 a2 a3 a4 a5 a6
        go_wp2
        go_roundw
        case rel => exact ⟨k + 1, by omega, by go_num, by rw [HSI.out]; simp, HB.out⟩
        case measure => simp [intOf]; omega
      · obtain ⟨N, hN⟩ : ∃ N, N = frN s m := ⟨_, rfl⟩
        have e : frN (s.take k) m = N := by rw [List.take_of_length_le (by rw [← H.out.2]; omega), hN]
        have HN : Hid (N = frN s m) := hN
        rw [e]
        have HK3 : Hid (FV w wr (.slice none 0 0) []) := ⟨BS.nil _ _, (hR.out.block _ HK1.out.2.2).trans HK1.out.1, HK1.out.2.1.trans (hR.out.mono hsz1), by have := hR.out.size; have := HK1.out.2.2; omega⟩
        clear hR HK1 hN e hsz1
        by_cases h150 : (150 : Int) < (N : Int)
        · have HE : Hid (C = 2 ∧ frL s m = []) := by
            have e : frC s m = 2 := by rw [HC0.out, if_pos (by rw [← HN.out]; omega)]
            exact ⟨HZ.out.2.trans e, by rw [frL, if_neg (by rw [e]; omega)]⟩
          obtain ⟨r0, r1, f0, f1, hlt2⟩ := two_cf HK3.out.r
          go_wp2
          refine bodyPost_ret (by simp [results, Try.results17, go_sem, r0, r1, hlt2]; rfl) rfl ⟨.slice none 0 0, ?_, ?_, ?_⟩
          · rw [HE.out.1]
          · rw [HE.out.2]; exact BS.nil _ _
          · have hb := HK3.out.bl
            (repeat' (first | (with_reducible exact Below.refl _ _) | (with_reducible assumption) | (with_reducible refine Below.setCell ?_ ?_ _) | (with_reducible refine Below.alloc ?_ ?_ _) | (with_reducible refine below_drewN ?_ _) | (with_reducible refine Below.drew ?_) | (with_reducible exact Nat.le_refl _) | omega | (simp; done) | (simp; omega)))
        have HE : Hid (C = 0 ∧ frL s m = pcsL s m ∧ frN s m ≤ 150) := by
          have e : frC s m = 0 := by rw [HC0.out, if_neg (by rw [← HN.out]; omega)]
          exact ⟨HZ.out.2.trans e, by rw [frL, if_pos e], by rw [← HN.out]; omega⟩
        have hszr := HK3.out.sz
        have HK4 : Hid (FV w (wr.alloc (.cells #[] 34)) (.slice (some ⟨wr.heap.size, 0, none⟩) 0 0) []) := by
          have h2 := HK3.out.next ((Below.refl _ _).alloc (Nat.le_refl _) (.cells #[] 34))
          exact ⟨BS.lit0 _ _ HK3.out.sz, h2.r, h2.bl, h2.sz⟩
        clear HK3 HRR HIN
        go_wp2
        clear hlt hk h150
        go_loopw [8, 9] (fun vo i wr => ∃ k : Nat, k ≤ n ∧ i = .int .i64 k ∧ Hid (FV w wr vo (pcsL (s.take k) m))) (fun _ i _ => n - (intOf i).toNat)
        case atStart => exact ⟨0, Nat.zero_le _, rfl, HK4.out⟩
        case round =>
          clear HK4 hszr
          obtain ⟨k, hk, rfl, hR⟩ := hrel
          by_cases hlt : k < n
          · obtain ⟨g, o, c2, he, hg0, hj⟩ := H.out.1.pos (by rw [← H.out.2]; omega)
            injection he with e1 e2 e3
            clear e2
            subst e1 e3
            have hkl : k < s.length := by rw [← H.out.2]; exact hlt
            have hj' : w.cell? ⟨g, o + k * 4, none⟩ = some (.int .i64 (bat s k).x0) ∧ w.cell? ⟨g, o + k * 4 + 1, none⟩ = some (.int .i64 (bat s k).y0) ∧ w.cell? ⟨g, o + k * 4 + 2, none⟩ = some (.int .i64 (bat s k).x1) ∧ w.cell? ⟨g, o + k * 4 + 3, none⟩ = some (.int .i64 (bat s k).y1) := by obtain ⟨x0, x1, x2, x3⟩ := hj k hkl; exact ⟨x0, x1, x2, x3⟩
            obtain ⟨b, hb⟩ : ∃ b, b = bat s k := ⟨_, rfl⟩
            rw [← hb] at hj'
            have HCB : Hid (∀ W : World, Below w.heap.size w W → W.cell? ⟨g, o + k * 4, none⟩ = some (.int .i64 b.x0) ∧ W.cell? ⟨g, o + k * 4 + 1, none⟩ = some (.int .i64 b.y0) ∧ W.cell? ⟨g, o + k * 4 + 2, none⟩ = some (.int .i64 b.x1) ∧ W.cell? ⟨g, o + k * 4 + 3, none⟩ = some (.int .i64 b.y1)) := fun W hW => by
              rw [hW.cell (p := ⟨g, o + k * 4, none⟩) hg0, hW.cell (p := ⟨g, o + k * 4 + 1, none⟩) hg0, hW.cell (p := ⟨g, o + k * 4 + 2, none⟩) hg0, hW.cell (p := ⟨g, o + k * 4 + 3, none⟩) hg0]
              exact hj'
            have HOK : Hid (OkB b) := by unfold Hid; rw [hb, bat_get hkl]; exact HL.out.2 _ (List.getElem_mem hkl)
            have HST : Hid (pcsL (s.take (k + 1)) m = pcsL (s.take k) m ++ pcsP b m) := by unfold Hid; rw [pcsL_take hkl, ← hb]
            have HLE : Hid ((pcsL (s.take k) m).length + cntP b.x0 b.x1 m * cntP b.y0 b.y1 m ≤ 1000) := by
              have h1 := frN_take hkl m
              rw [← hb] at h1
              have h2 := frN_take_le s (k + 1) m
              unfold Hid
              rw [pcsL_len]
              have := HE.out.2.2
              omega
            generalize pcsL (s.take k) m = pre at hR HST HLE
            clear hb hj hj' hk
            have b0 : (0 : Int) ≤ (k : Int) := by omega
            have b1 : (k : Int) < (n : Int) := by omega
            obtain ⟨c0, c1, c2, c3⟩ := HCB.out _ hR.out.bl
            have hgw : g < wr.heap.size := Nat.lt_of_lt_of_le hg0 hR.out.bl.size
            go_wp2
            clear c0 c1 c2 c3 hgw
            go_loopw [8, 10] (fun v y wr => ∃ j : Nat, j ≤ cntP b.y0 b.y1 m ∧ y = .int .i64 (b.y0 + j * m) ∧ Hid (FV w wr v (pre ++ rowsP b m j))) (fun _ y _ => (b.y1 + 1000 - intOf y).toNat)
            case atStart => exact ⟨0, Nat.zero_le _, by simp, by have := hR.out; unfold Hid; simpa [rowsP] using this⟩
            case round =>
              clear hR
              obtain ⟨j, hj, rfl, hR⟩ := hrel
              obtain ⟨c0, c1, c2, c3⟩ := HCB.out _ hR.out.bl
              have hgw : g < wr.heap.size := Nat.lt_of_lt_of_le hg0 hR.out.bl.size
              have hst := step_in HM.out.1 HM.out.2 HOK.out.2.1 hj
              by_cases hly : b.y0 + j * m < b.y1
              · have hjc : j < cntP b.y0 b.y1 m := (cntP_lt HM.out.1 HOK.out.2.1 j).1 hly
                obtain ⟨y, hy⟩ : ∃ y, y = b.y0 + j * m := ⟨_, rfl⟩
                rw [← hy] at hly hst ⊢
                have HY : Hid (y = b.y0 + j * m ∧ j < cntP b.y0 b.y1 m) := ⟨hy, hjc⟩
                have HBY : Hid (-10000 ≤ y ∧ y < 10000) := ⟨by have := HOK.out; unfold OkB at this; omega, by have := HOK.out; unfold OkB at this; omega⟩
                have hwy : IntKind.i64.wrap (y + m) = y + m := by have := HBY.out; rw [IntKind.wrap_i64]; omega
                have HSY : Hid (y + m = b.y0 + ((j + 1 : Nat) : Int) * m) := by unfold Hid; rw [step_next, hy]
                clear hy hst hjc hj
                go_wp2
                clear c0 c1 c2 c3 hgw
                go_loopw [8, 11] (fun v x wr => ∃ i : Nat, i ≤ cntP b.x0 b.x1 m ∧ x = .int .i64 (b.x0 + i * m) ∧ Hid (FV w wr v (pre ++ rowsP b m j ++ rowP b m y i))) (fun _ x _ => (b.x1 + 1000 - intOf x).toNat)
                case atStart => exact ⟨0, Nat.zero_le _, by simp, by have := hR.out; unfold Hid; simpa [rowP] using this⟩
                case round =>
                clear hR
                obtain ⟨i, hi, rfl, hQ⟩ := hrel
                obtain ⟨c0, c1, c2, c3⟩ := HCB.out _ hQ.out.bl
                have hg : g < wr.heap.size := Nat.lt_of_lt_of_le hg0 hQ.out.bl.size
                have hsx := step_in HM.out.1 HM.out.2 HOK.out.1 hi
                by_cases hlx : b.x0 + i * m < b.x1
                case neg =>
                  have e : i = cntP b.x0 b.x1 m := by
                    rcases Nat.lt_or_ge i (cntP b.x0 b.x1 m) with h | h
                    · exact absurd ((cntP_lt HM.out.1 HOK.out.1 i).2 h) hlx
                    · omega
                  generalize b.x0 + i * m = x at hlx hsx ⊢
                  have R : Hid (FV w wr u8 (pre ++ rowsP b m (j + 1))) := by
                    have h1 := hQ.out
                    rw [e] at h1
                    unfold Hid
                    rw [rowsP_succ, ← HY.out.1, ← List.append_assoc]
                    exact h1
                  clear hQ hsx
                  go_wp2
                  go_roundw
                  case rel => exact ⟨j + 1, HY.out.2, by rw [← HSY.out], R.out⟩
                  case measure => have := HBY.out; simp [intOf]; omega
                have hic : i < cntP b.x0 b.x1 m := (cntP_lt HM.out.1 HOK.out.1 i).1 hlx
                obtain ⟨x, hx⟩ : ∃ x, x = b.x0 + i * m := ⟨_, rfl⟩
                rw [← hx] at hlx hsx ⊢
                have HBX : Hid (-10000 ≤ x ∧ x < 10000) := ⟨by have := HOK.out; unfold OkB at this; omega, by have := HOK.out; unfold OkB at this; omega⟩
                have hwx : IntKind.i64.wrap (x + m) = x + m := by have := HBX.out; rw [IntKind.wrap_i64]; omega
                obtain ⟨X1, hX1⟩ : ∃ X1, X1 = minP (x + m) b.x1 := ⟨_, rfl⟩
                obtain ⟨Y1, hY1⟩ : ∃ Y1, Y1 = minP (y + m) b.y1 := ⟨_, rfl⟩
                have HMX : Hid (∀ W, Calls Try.prog 43 #[.int .i64 (x + m), .int .i64 b.x1] W fun e w' => e = .returned (.int .i64 X1) ∧ w' = W) := fun W => by rw [hX1]; exact spec_minP _ _ W
                have HMY : Hid (∀ W, Calls Try.prog 43 #[.int .i64 (y + m), .int .i64 b.y1] W fun e w' => e = .returned (.int .i64 Y1) ∧ w' = W) := fun W => by rw [hY1]; exact spec_minP _ _ W
                have HSX : Hid (x + m = b.x0 + ((i + 1 : Nat) : Int) * m ∧ i < cntP b.x0 b.x1 m ∧ pre ++ rowsP b m j ++ rowP b m y (i + 1) = (pre ++ rowsP b m j ++ rowP b m y i) ++ [⟨x, y, X1, Y1⟩]) := by
                  refine ⟨by rw [step_next, hx], hic, ?_⟩
                  rw [rowP_succ, hX1, hY1, hx, List.append_assoc _ (rowP b m y i)]
                have hll : (pre ++ rowsP b m j ++ rowP b m y i).length ≤ 1000 := by
                  rw [List.length_append, List.length_append, rowsP_len, rowP_len]
                  have := rows_in HY.out.2 (Nat.le_of_lt hic)
                  have := HLE.out
                  omega
                obtain ⟨oa, oc, hof⟩ := hQ.out.o.form
                subst hof
                have HM4 : Hid (FV w wr (.slice oa (pre ++ rowsP b m j ++ rowP b m y i).length oc) (pre ++ rowsP b m j ++ rowP b m y i)) := hQ.out
                have hsz := hQ.out.sz
                clear hx hsx hic hQ hi hX1 hY1
                generalize pre ++ rowsP b m j ++ rowP b m y i = out at HM4 HSX hll ⊢
                go_wp2_with (fail)
                obtain ⟨row, hrow0⟩ : ∃ row, row = (Value.slice oa out.length oc).ownBlock := ⟨_, rfl⟩
                have hgr : ¬ some g = row := by
                  rw [hrow0]; intro e
                  have h1 := (World.ownsRow.lt HM4.out.o g e.symm).1
                  omega
                have HROW : Hid (row = (Value.slice oa out.length oc).ownBlock) := hrow0
                clear hrow0
                have hS0 := KB.start wr row
                refine wp_region_holds (S := KB wr row) (by kernel_rfl) hS0 (fun hS => ?_)
                refine fl_takeS (i := 0) (d := 103) (v := .slice oa out.length oc) rfl rfl rfl (by kernel_rfl) (by kernel_rfl) (by kernel_rfl) hS ?_ ?_
                · intro w' hk; unfold KB at hk; go_simp
                simp only [Act.put, List.setIfInBounds_toArray, List.set_cons_zero, List.set_cons_succ]
                refine fl_takeS (i := 1) (d := 104) (v := .int .i64 x) rfl rfl rfl (by kernel_rfl) (by kernel_rfl) (by kernel_rfl) hS ?_ ?_
                · intro w' hk; unfold KB at hk; go_simp
                simp only [Act.put, List.setIfInBounds_toArray, List.set_cons_zero, List.set_cons_succ]
                refine fl_takeS (i := 2) (d := 105) (v := .int .i64 y) rfl rfl rfl (by kernel_rfl) (by kernel_rfl) (by kernel_rfl) hS ?_ ?_
                · intro w' hk; unfold KB at hk; go_simp
                simp only [Act.put, List.setIfInBounds_toArray, List.set_cons_zero, List.set_cons_succ]
                refine fl_takeS (i := 3) (d := 106) (v := .int .i64 x) rfl rfl rfl (by kernel_rfl) (by kernel_rfl) (by kernel_rfl) hS ?_ ?_
                · intro w' hk; unfold KB at hk; go_simp
                simp only [Act.put, List.setIfInBounds_toArray, List.set_cons_zero, List.set_cons_succ]
                refine fl_takeS (i := 4) (d := 107) (v := .int .i64 m) rfl rfl rfl (by kernel_rfl) (by kernel_rfl) (by kernel_rfl) hS ?_ ?_
                · intro w' hk; unfold KB at hk; go_simp
                simp only [Act.put, List.setIfInBounds_toArray, List.set_cons_zero, List.set_cons_succ]
                refine fl_takeS (i := 5) (d := 108) (v := .int .i64 (x + m)) rfl rfl rfl (by kernel_rfl) (by kernel_rfl) (by kernel_rfl) hS ?_ ?_
                · intro w' hk; unfold KB at hk; go_simp
                simp only [Act.put, List.setIfInBounds_toArray, List.set_cons_zero, List.set_cons_succ]
                refine fl_takeS (i := 6) (d := 109) (v := .slice (some ⟨g, o, none⟩) n c) rfl rfl rfl (by kernel_rfl) (by kernel_rfl) (by kernel_rfl) hS ?_ ?_
                · intro w' hk; unfold KB at hk; go_simp
                simp only [Act.put, List.setIfInBounds_toArray, List.set_cons_zero, List.set_cons_succ]
                refine fl_takeS (i := 7) (d := 110) (v := .int .i64 k) rfl rfl rfl (by kernel_rfl) (by kernel_rfl) (by kernel_rfl) hS ?_ ?_
                · intro w' hk; unfold KB at hk; go_simp
                simp only [Act.put, List.setIfInBounds_toArray, List.set_cons_zero, List.set_cons_succ]
                refine fl_takeS (i := 8) (d := 111) (v := .pointer (some ⟨g, o + k * 4, none⟩)) rfl rfl rfl (by kernel_rfl) (by kernel_rfl) (by kernel_rfl) hS ?_ ?_
                · intro w' hk; unfold KB at hk; go_simp
                simp only [Act.put, List.setIfInBounds_toArray, List.set_cons_zero, List.set_cons_succ]
                refine fl_takeS (i := 9) (d := 112) (v := .pointer (some ⟨g, o + k * 4 + 2, none⟩)) rfl rfl rfl (by kernel_rfl) (by kernel_rfl) (by kernel_rfl) hS ?_ ?_
                · intro w' hk; unfold KB at hk; go_simp
                simp only [Act.put, List.setIfInBounds_toArray, List.set_cons_zero, List.set_cons_succ]
                refine fl_takeS (i := 10) (d := 113) (v := .int .i64 b.x1) rfl rfl rfl (by kernel_rfl) (by kernel_rfl) (by kernel_rfl) hS ?_ ?_
                · intro w' hk; unfold KB at hk; go_simp
                simp only [Act.put, List.setIfInBounds_toArray, List.set_cons_zero, List.set_cons_succ]
                refine fl_takeS (i := 12) (d := 115) (v := .int .i64 y) rfl rfl rfl (by kernel_rfl) (by kernel_rfl) (by kernel_rfl) hS ?_ ?_
                · intro w' hk; unfold KB at hk; go_simp
                simp only [Act.put, List.setIfInBounds_toArray, List.set_cons_zero, List.set_cons_succ]
                refine fl_takeS (i := 13) (d := 116) (v := .int .i64 m) rfl rfl rfl (by kernel_rfl) (by kernel_rfl) (by kernel_rfl) hS ?_ ?_
                · intro w' hk; unfold KB at hk; go_simp
                simp only [Act.put, List.setIfInBounds_toArray, List.set_cons_zero, List.set_cons_succ]
                refine fl_takeS (i := 14) (d := 117) (v := .int .i64 (y + m)) rfl rfl rfl (by kernel_rfl) (by kernel_rfl) (by kernel_rfl) hS ?_ ?_
                · intro w' hk; unfold KB at hk; go_simp
                simp only [Act.put, List.setIfInBounds_toArray, List.set_cons_zero, List.set_cons_succ]
                refine fl_takeS (i := 15) (d := 118) (v := .slice (some ⟨g, o, none⟩) n c) rfl rfl rfl (by kernel_rfl) (by kernel_rfl) (by kernel_rfl) hS ?_ ?_
                · intro w' hk; unfold KB at hk; go_simp
                simp only [Act.put, List.setIfInBounds_toArray, List.set_cons_zero, List.set_cons_succ]
                refine fl_takeS (i := 16) (d := 119) (v := .int .i64 k) rfl rfl rfl (by kernel_rfl) (by kernel_rfl) (by kernel_rfl) hS ?_ ?_
                · intro w' hk; unfold KB at hk; go_simp
                simp only [Act.put, List.setIfInBounds_toArray, List.set_cons_zero, List.set_cons_succ]
                refine fl_takeS (i := 17) (d := 120) (v := .pointer (some ⟨g, o + k * 4, none⟩)) rfl rfl rfl (by kernel_rfl) (by kernel_rfl) (by kernel_rfl) hS ?_ ?_
                · intro w' hk; unfold KB at hk; go_simp
                simp only [Act.put, List.setIfInBounds_toArray, List.set_cons_zero, List.set_cons_succ]
                refine fl_takeS (i := 18) (d := 121) (v := .pointer (some ⟨g, o + k * 4 + 3, none⟩)) rfl rfl rfl (by kernel_rfl) (by kernel_rfl) (by kernel_rfl) hS ?_ ?_
                · intro w' hk; unfold KB at hk; go_simp
                simp only [Act.put, List.setIfInBounds_toArray, List.set_cons_zero, List.set_cons_succ]
                refine fl_takeS (i := 19) (d := 122) (v := .int .i64 b.y1) rfl rfl rfl (by kernel_rfl) (by kernel_rfl) (by kernel_rfl) hS ?_ ?_
                · intro w' hk; unfold KB at hk; go_simp
                simp only [Act.put, List.setIfInBounds_toArray, List.set_cons_zero, List.set_cons_succ]
                refine wpAnyH_all (rs := [11]) (by kernel_rfl) (by simp) ?_
                intro i1 hi1
                obtain rfl : i1 = 11 := by simpa using hi1
                refine op_call (d := 114) rfl rfl rfl (by go_simp) ((HMX.out _).mono ?_)
                rintro e w5 ⟨rfl, hw5⟩
                subst w5
                refine ⟨_, rfl, hS0, ?_⟩
                simp only [Act.put, List.setIfInBounds_toArray, List.set_cons_zero, List.set_cons_succ]
                refine wpAnyH_all (rs := [20]) (by kernel_rfl) (by simp) ?_
                intro i2 hi2
                obtain rfl : i2 = 20 := by simpa using hi2
                refine op_call (d := 123) rfl rfl rfl (by go_simp) ((HMY.out _).mono ?_)
                rintro e w5 ⟨rfl, hw5⟩
                subst w5
                refine ⟨_, rfl, hS0, ?_⟩
                simp only [Act.put, List.setIfInBounds_toArray, List.set_cons_zero, List.set_cons_succ]
                refine fl_takeS (i := 21) (d := 124) (v := .agg #[.int .i64 x, .int .i64 y, .int .i64 X1, .int .i64 Y1]) rfl rfl rfl (by kernel_rfl) (by kernel_rfl) (by kernel_rfl) hS ?_ ?_
                · intro w' hk; unfold KB at hk; go_simp
                simp only [Act.put, List.setIfInBounds_toArray, List.set_cons_zero, List.set_cons_succ]
                refine wpAnyH_all (rs := [22]) (by kernel_rfl) (by simp) ?_
                intro i3 hi3
                obtain rfl : i3 = 22 := by simpa using hi3
                refine op_val (d := 125) (v := .slice (some ⟨wr.heap.size, 0, none⟩) 1 1) (w' := (wr.alloc (.cells #[.int .i64 x, .int .i64 y, .int .i64 X1, .int .i64 Y1] 34)).drew) rfl rfl rfl (by go_simp; try rfl) ?_
                simp only [Act.put, List.setIfInBounds_toArray, List.set_cons_zero, List.set_cons_succ]
                have hk3 : KB wr row (wr.alloc (.cells #[.int .i64 x, .int .i64 y, .int .i64 X1, .int .i64 Y1] 34)).drew := KB.of fun b hb _ => Below.heap_alloc wr _ _ hb
                have hnw : ∀ j u, (bcells ⟨x, y, X1, Y1⟩)[j]? = some u → (wr.alloc (.cells #[.int .i64 x, .int .i64 y, .int .i64 X1, .int .i64 Y1] 34)).drew.cell? ((⟨wr.heap.size, 0, none⟩ : Addr).add j) = some u := World.news_of_block (cs := #[.int .i64 x, .int .i64 y, .int .i64 X1, .int .i64 Y1]) (t := 34) (fr := (0, 0)) (heap_alloc_new wr _)
                refine ⟨hk3, wpAnyH_all (rs := [23]) (by kernel_rfl) (by simp) ?_⟩
                intro i4 hi4
                obtain rfl : i4 = 23 := by simpa using hi4
                refine op_append (dd := 126) rfl rfl rfl (.tmp 103) (.tmp 125) 41 rfl (w.heap.size + 1) 34 i0 (.agg #[.int .i64 0, .int .i64 0, .int .i64 0, .int .i64 0]) 4 32 Try.underlying41 hi0 hz0' hz1 hz2 rfl (by decide) (.slice oa out.length oc) out.length (bflat out) rfl ((World.ownsRow.alloc HM4.out.o _).drew) ⟨wr.heap.size, 0, none⟩ 1 1 (bcells ⟨x, y, X1, Y1⟩) rfl rfl hnw (by simp [bcells, Value.oneCell']) (by unfold maxLen; omega) (by omega) (by simp; omega) ?_
                intro v4 w4 hown4 hgrow4 hv4
                have hg4 := undrew hgrow4
                have hp4 := HM4.out.push hown4 hg4
                have hk4 : KB wr row w4 := KB.of fun b hb hr => (hg4.block b (by simp; omega) (by rw [← HROW.out]; exact hr)).trans (Below.heap_alloc wr _ _ hb)
                have R : Hid (FV w w4 v4 (pre ++ rowsP b m j ++ rowP b m y (i + 1))) := by
                  unfold Hid
                  rw [HSX.out.2.2]
                  exact hp4
                simp only [Act.put, List.setIfInBounds_toArray, List.set_cons_zero, List.set_cons_succ]
                refine ⟨hk4, wpAnyH_all (rs := [24]) (by kernel_rfl) (by simp) ?_⟩
                intro i5 hi5
                obtain rfl : i5 = 24 := by simpa using hi5
                refine op_val (d := 8) (v := v4) (w' := w4) rfl rfl rfl (by go_simp) ?_
                simp only [Act.put, List.setIfInBounds_toArray, List.set_cons_zero, List.set_cons_succ]
                refine ⟨hk4, wpAnyH_done (by kernel_rfl) (NoPanic.normal ?_) _⟩
                clear hown4 hgrow4 hv4 hg4 hp4 hnw hk3 hk4 hS HM4 c0 c1 c2 c3
                go_wp2
                go_roundw
                case rel => exact ⟨i + 1, HSX.out.2.1, by rw [← HSX.out.1], R.out⟩
                case measure => have := HBX.out; simp [intOf]; omega
              · have e : j = cntP b.y0 b.y1 m := by
                  rcases Nat.lt_or_ge j (cntP b.y0 b.y1 m) with h | h
                  · exact absurd ((cntP_lt HM.out.1 HOK.out.2.1 j).2 h) hly
                  · omega
                generalize b.y0 + j * m = y at hly hst ⊢
                have R : Hid (FV w wr u8 (pcsL (s.take (k + 1)) m)) := by
                  have h1 := hR.out
                  rw [e] at h1
                  unfold Hid
                  rw [HST.out]
                  exact h1
                clear hR hst
                go_wp2
                go_roundw
                case rel => exact ⟨k + 1, by omega, by go_num, R.out⟩
                case measure => simp [intOf]; omega
          · have M4 : Hid (FV w wr u8 (pcsL s m)) := by
              have := hR.out
              rwa [List.take_of_length_le (by rw [← H.out.2]; omega)] at this
            obtain ⟨oa, oc, hof⟩ := M4.out.o.form
            subst hof
            obtain ⟨r0, r1, f0, f1, hlt2⟩ := two_cf M4.out.r
            clear hR
            go_wp2
            refine bodyPost_ret (by simp [results, Try.results17, go_sem, r0, r1, hlt2]; rfl) rfl ⟨.slice oa (pcsL s m).length oc, ?_, ?_, ?_⟩
            · rw [HE.out.1]
            · rw [HE.out.2.1]
              refine BS.kept (M4.out.o.low (by omega)) fun g hg => ?_
              have := (World.ownsRow.lt M4.out.o g hg).1
              rw [heap_setCell_other _ _ _ _ (by simp; omega), heap_setCell_other _ _ _ _ (by simp; omega)]
            · have hb := M4.out.bl
              (repeat' (first | (with_reducible exact Below.refl _ _) | (with_reducible assumption) | (with_reducible refine Below.setCell ?_ ?_ _) | (with_reducible refine Below.alloc ?_ ?_ _) | (with_reducible refine below_drewN ?_ _) | (with_reducible refine Below.drew ?_) | (with_reducible exact Nat.le_refl _) | omega | (simp; done) | (simp; omega)))

end Go.Proofs.Ytkbbhdnaemjamaa
