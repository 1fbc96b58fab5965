/- Proved here: ShiftScan of the program. -/
import Derived.Test.YtkdpifplhhcpaaaSsF
import Derived.Test.YtkdpifplhhcpaaaCpR
import Derived.Test.YtkdpifplhhcpaaaCeQ
import Derived.Deep.Cut
namespace Go.Proofs.Ytkdpifplhhcpaaa
open Go.RowKit
set_option linter.unusedVariables false
set_option linter.unusedSimpArgs false

theorem info_one23 : (Try.prog.info? 2).map (·.size) = some 1 := by kernel_rfl

set_option maxRecDepth 10000 in
set_option maxHeartbeats 6400000 in
theorem impl_ss {W : World} {vs vt vi : Value} {st tp inn : List Int} (h0 : st.length ≤ 1048576) (hs : RdI W vs st) (h1 : tp.length ≤ 1048576) (ht : RdI W vt tp) (h2 : inn.length ≤ 1048576) (hi : RdI W vi inn) :
    Calls Try.prog 25 #[vs, vt, vi] W fun e w' => ∃ v, e = .returned (.agg #[.int .i64 (scC st tp inn), v]) ∧ IS w' W.heap.size v (scL st tp inn) ∧ Below W.heap.size W w' := by
  obtain ⟨Z, hZ⟩ : ∃ Z, Z = W.alloc (.cells #[.int .i64 0, .slice none 0 0] 45) := ⟨_, rfl⟩
  have HZ : Hid (Below W.heap.size W Z ∧ Z.heap[W.heap.size]? = some (.cells #[.int .i64 0, .slice none 0 0] 45)) := by rw [hZ]; exact ⟨by (repeat' (first | (with_reducible exact Below.refl _ _) | (with_reducible assumption) | (with_reducible refine Below.setCell ?_ ?_ _) | (with_reducible refine Below.alloc ?_ ?_ _) | (with_reducible refine below_drewN ?_ _) | (with_reducible refine Below.drew ?_) | (with_reducible exact Nat.le_refl _) | omega | (simp; done) | (simp; omega))), heap_alloc_new _ _⟩
  have H : Hid (RdI W vs st ∧ RdI W vt tp ∧ RdI W vi inn) := ⟨hs, ht, hi⟩
  obtain ⟨C, hC⟩ : ∃ C, C = scC st tp inn := ⟨_, rfl⟩
  have HF : Hid (Calls Try.prog 53 #[vs, vt, vi] Z fun e w' => e = .returned (.int .i64 C) ∧ Below Z.heap.size Z w') := by
    rw [hC]; exact impl_scf h0 (hs.below HZ.out.1) h1 (ht.below HZ.out.1) h2 (hi.below HZ.out.1)
  have HC : Hid (C = scC st tp inn) := hC
  rw [← hC]
  clear hC hs ht hi h0 h1 h2
  go_enter Try.func25, Try.ntmps25
  go_wp2_with (fail)
  rw [← hZ]
  refine HF.out.mono ?_
  rintro e w1 ⟨rfl, hb1⟩
  have HW : Hid (Below W.heap.size W w1 ∧ w1.heap[W.heap.size]? = some (.cells #[.int .i64 0, .slice none 0 0] 45)) := ⟨HZ.out.1.trans (hb1.mono HZ.out.1.size), by rw [hb1.block _ (ltOfQ HZ.out.2)]; exact HZ.out.2⟩
  clear hb1 HF HZ hZ
  by_cases hC0 : C = 0
  case neg =>
    have hC1 : (C != 0) = true := by simpa using hC0
    have HL : Hid (scL st tp inn = []) := scL_no (by rw [← HC.out]; exact hC0)
    have z0 := cellOfQ HW.out.2 0 rfl
    have z1 := cellOfQ HW.out.2 1 rfl
    have zl := ltOfQ HW.out.2
    have f0 := frozOfQ HW.out.2 0
    have f1 := frozOfQ HW.out.2 1
    have HB : Hid (Below W.heap.size W w1) := HW.out.1
    go_wp2
    try simp only [Exit.inBlock, Exit.then]
    refine bodyPost_ret (by simp [results, Try.results25, go_sem, z0, z1, zl, f0, f1]; try rfl) rfl ⟨_, rfl, by rw [HL.out]; exact ⟨rfl, Or.inl ⟨rfl, rfl⟩⟩, (HB.out.setCell (Nat.le_refl _) _).setCell (Nat.le_refl _) _⟩
  subst hC0
  have HOK : Hid _ := scC_ok HC.out.symm
  have HL : Hid (scL st tp inn = ssL st tp inn) := by unfold Hid; rw [scL, if_pos HC.out.symm]
  have HCL : Hid (Calls Try.prog 54 #[vs] w1 fun e w' => ∃ v', e = .returned v' ∧ IS w' w1.heap.size v' st ∧ Below w1.heap.size w1 w') := cl_row HOK.out.1 (by have := HOK.out.2.1; omega) (H.out.1.below HW.out.1)
  go_wp2_with (fail)
  refine HCL.out.mono ?_
  rintro e w2 ⟨v', rfl, his, hb2⟩
  obtain ⟨ia, ic, hvi⟩ := H.out.2.2.form
  obtain ⟨ta, tc, hvt⟩ := H.out.2.1.form
  subst hvi hvt
  obtain ⟨d, hd⟩ : ∃ d, st.length = d + 1 := ⟨st.length - 1, by have := HOK.out.1; omega⟩
  obtain ⟨m, hm⟩ : ∃ m, m = tp.length := ⟨_, rfl⟩
  obtain ⟨k, hk⟩ : ∃ k, k = inn.length := ⟨_, rfl⟩
  rw [← hm, ← hk] at H ⊢
  obtain ⟨g, c, cur, rfl, hg1, hg2, hnw⟩ := his.nw HOK.out.1 hd.symm
  have hgl : W.heap.size < g := Nat.lt_of_lt_of_le (ltOfQ HW.out.2) hg1
  have HI : Hid (RdI w2 (.slice ia k ic) inn ∧ RdI w2 (.slice ta m tc) tp) := ⟨(H.out.2.2.below HW.out.1).below hb2, (H.out.2.1.below HW.out.1).below hb2⟩
  have HLN : Hid (m = tp.length ∧ k = inn.length ∧ st.length = d + 1) := ⟨hm, hk, hd⟩
  have HV : Hid (Below W.heap.size W w2 ∧ w2.heap[W.heap.size]? = some (.cells #[.int .i64 0, .slice none 0 0] 45) ∧ (∃ cur, NW w2 g (d + 1) c cur (ssL st tp (inn.take 0)))) := ⟨HW.out.1.trans (hb2.mono HW.out.1.size), by rw [hb2.block _ (ltOfQ HW.out.2)]; exact HW.out.2, ⟨cur, hnw⟩⟩
  have hd31 : d ≤ 31 := by have := HOK.out.2.1; omega
  have hm32 : m ≤ 32 := by have := HOK.out.2.2.2.2.2.2; omega
  have hk200 : k ≤ 200 := by have := HOK.out.2.2.1; omega
  have hdc : d + 1 ≤ c := hnw.le
  have hcm : c ≤ 9223372036854775807 := hnw.mx
  clear his hb2 HW HCL hm hk hd hnw hg1 hg2
  by_cases hc1 : c = 1
  · obtain rfl : d = 0 := by omega
    subst hc1
    go_wp2
    go_loopw [25] (fun i wr => ∃ t : Nat, t ≤ k ∧ i = .int .i64 t ∧ Hid (Below W.heap.size W wr ∧ wr.heap[W.heap.size]? = some (.cells #[.int .i64 0, .slice none 0 0] 45) ∧ (∃ cur, NW wr g (0 + 1) 1 cur (ssL st tp (inn.take t))))) (fun i _ => k - (intOf i).toNat)
    case atStart => exact ⟨0, Nat.zero_le _, rfl, HV.out⟩
    case round =>
      clear HV
      obtain ⟨t, ht, rfl, hR⟩ := hrel
      obtain ⟨cur, hnw⟩ := hR.out.2.2
      obtain ⟨l, hl⟩ : ∃ l, l = ssL st tp (inn.take t) := ⟨_, rfl⟩
      rw [← hl] at hnw
      have HNW : Hid (NW wr g (0 + 1) 1 cur l) := hnw
      have HB : Hid (Below W.heap.size W wr ∧ wr.heap[W.heap.size]? = some (.cells #[.int .i64 0, .slice none 0 0] 45)) := ⟨hR.out.1, hR.out.2.1⟩
      by_cases hlt : t < k
      · have hti : t < inn.length := by rw [← HLN.out.2.1]; exact hlt
        obtain ⟨gi, oi, rfl, hgi, i0⟩ := rd_at (H.out.2.2.below HB.out.1) hlt
        have hxb := oo_at HOK.out.2.2.2.2.1 hti
        have HST : Hid (ssL st tp (inn.take (t + 1)) = stN tp l (inn.getD t 0)) := by unfold Hid; rw [ssL_step hti, hl]
        obtain ⟨x, hx⟩ : ∃ x, x = inn.getD t 0 := ⟨_, rfl⟩
        rw [← hx] at i0 hxb HST
        have HBI : Hid (Bits l) := by unfold Hid; rw [hl]; exact ssL_bits (bits_of HOK.out.2.2.2.1) _
        obtain ⟨V2, hV2⟩ : ∃ V2, V2 = wr := ⟨_, rfl⟩
        clear hl hx hti hR hnw
        have b0 : (0 : Int) ≤ (t : Int) := by omega
        have b1 : (t : Int) < (k : Int) := by omega
        go_wp2
        rw [← hV2] at HB HNW hgi i0 ⊢
        clear hV2 i0
        go_loopw [10, 31] (fun f i wr => ∃ (j : Nat) (y : Int), j ≤ m ∧ f = .int .i64 y ∧ i = .int .i64 j ∧ wr = V2 ∧ (y = 0 ∨ y = 1) ∧ Hid (y = (x + smT l (tp.take j)) % 2)) (fun _ i _ => m - (intOf i).toNat)
        case atStart => exact ⟨0, x, Nat.zero_le _, rfl, rfl, rfl, by omega, by unfold Hid; simp [smT]; omega⟩
        case round =>
          obtain ⟨j, y, hj, rfl, rfl, rfl, hy, hY⟩ := hrel
          by_cases hjm : j < m
          · have hjt : j < tp.length := by rw [← HLN.out.1]; exact hjm
            obtain ⟨gt, ot, rfl, hgt, t0⟩ := rd_at (H.out.2.1.below HB.out.1) hjm
            have htb := oo_at HOK.out.2.2.2.2.2.1 hjt
            obtain ⟨v, hv⟩ : ∃ v : Nat, tp.getD j 0 = (v : Int) := ⟨(tp.getD j 0).toNat, by omega⟩
            have HSM : Hid (smT l (tp.take (j + 1)) = smT l (tp.take j) + l.getD v 0) := by unfold Hid; rw [smT_step hjt, hv]; rfl
            rw [hv] at t0 htb
            have hvd : v < 0 + 1 := by have := HLN.out.2.2; omega
            obtain ⟨v0, _⟩ := HNW.out.at hvd
            have hbb := HBI.out v
            obtain ⟨b, hb⟩ : ∃ b, b = l.getD v 0 := ⟨_, rfl⟩
            rw [← hb] at v0 hbb HSM
            clear hb hv hjt htb
            have hbc : b = 0 ∨ b = 1 := by omega
            have b2 : (0 : Int) ≤ (j : Int) := by omega
            have b3 : (j : Int) < (m : Int) := by omega
            have b4 : (0 : Int) ≤ (v : Int) := by omega
            have b5 : (v : Int) < 1 := by omega
            have HY : Hid (∀ z : Int, z = (y + b) % 2 → z = (x + smT l (tp.take (j + 1))) % 2) := fun z hz => by rw [hz, HSM.out, hY.out]; omega
            rcases hy with rfl | rfl
            · rcases hbc with rfl | rfl
              · go_wp2
                go_roundw
                case rel => exact ⟨j + 1, 0, by omega, by first | rfl | trivial, by go_num, by first | rfl | trivial, Or.inl rfl, HY.out 0 rfl⟩
                case measure => simp [intOf]; omega
              · go_wp2
                go_roundw
                case rel => exact ⟨j + 1, 1, by omega, by first | rfl | trivial, by go_num, by first | rfl | trivial, Or.inr rfl, HY.out 1 rfl⟩
                case measure => simp [intOf]; omega
            · rcases hbc with rfl | rfl
              · go_wp2
                go_roundw
                case rel => exact ⟨j + 1, 1, by omega, by first | rfl | trivial, by go_num, by first | rfl | trivial, Or.inr rfl, HY.out 1 rfl⟩
                case measure => simp [intOf]; omega
              · go_wp2
                go_roundw
                case rel => exact ⟨j + 1, 0, by omega, by first | rfl | trivial, by go_num, by first | rfl | trivial, Or.inl rfl, HY.out 0 rfl⟩
                case measure => simp [intOf]; omega
          · obtain rfl : j = m := by omega
            have HY : Hid (y = (x + smT l tp) % 2) := by
              have h9 := hY.out
              rw [List.take_of_length_le (by rw [← HLN.out.1]; exact Nat.le_refl _)] at h9
              exact h9
            clear hY hy
            obtain ⟨X, hX⟩ : ∃ X, X = (l.take 0).map (Value.int .i64) := ⟨_, rfl⟩
            have HX : Hid (X = (l.take 0).map (Value.int .i64) ∧ X.length = 0 ∧ (∀ (i : Nat) u, X[i]? = some u → wr.cell? ((⟨g, 0, none⟩ : Addr).add i) = some u) ∧ (∀ u ∈ X, u.oneCell' = true)) := by
              have hxl : X.length = 0 := by rw [hX]; simp [HNW.out.ln]
              refine ⟨hX, hxl, fun i u hu => ?_, fun u hu => ?_⟩
              · have hid : i < 0 := by
                  rcases Nat.lt_or_ge i 0 with h9 | h9
                  · exact h9
                  · rw [List.getElem?_eq_none (by omega)] at hu; cases hu
                rw [hX, List.getElem?_map, List.getElem?_take, if_pos hid, List.getElem?_eq_getElem (by rw [HNW.out.ln]; omega)] at hu
                have h9 := (HNW.out.at (show i < 0 + 1 by omega)).1
                rw [getD_at (by rw [HNW.out.ln]; omega)] at h9
                rw [show ((⟨g, 0, none⟩ : Addr).add i) = ⟨g, i, none⟩ by simp [Addr.add]; try omega]
                rw [h9]; exact hu
              · rw [hX] at hu; exact ones_int _ u hu
            have HST2 : Hid (ssL st tp (inn.take (t + 1)) = y :: l.take 0) := by
              unfold Hid; rw [HST.out, stN, ← HY.out, HNW.out.ln]; try rfl
            clear hX HST HY
            go_upto_region 14 with (refine wpList_copy_splice rfl (.tmp 43) (.tmp 44) 22 22 rfl 2 Try.underlying22 info_one23 _ (some ⟨g, 0, none⟩) 0 _ (0 + 1) _ rfl rfl g 1 cur 2 HNW.out.hg X (by rw [HX.out.2.1]; exact (Nat.min_eq_right (by omega)).symm) (fun hp => absurd hp (by have h9 := HX.out.2.1; omega)) (by rw [HX.out.2.1, HNW.out.hc]; omega) HX.out.2.2.2 g wr (Below.refl _ _) (Nat.le_refl _) ?_; intro w5 HG5 hB5)
            have HP : Hid (Below W.heap.size W (w5.setCell ⟨g, 0, none⟩ (.int .i64 y)) ∧ (w5.setCell ⟨g, 0, none⟩ (.int .i64 y)).heap[W.heap.size]? = some (.cells #[.int .i64 0, .slice none 0 0] 45) ∧ (∃ cur, NW (w5.setCell ⟨g, 0, none⟩ (.int .i64 y)) g (0 + 1) 1 cur (ssL st tp (inn.take (t + 1))))) := by
              refine ⟨(HB.out.1.trans (hB5.mono (by omega))).setCell (by simp; omega) _, ?_, ?_⟩
              · rw [heap_setCell_other _ _ _ _ (by simp; omega), hB5.block _ hgl]; exact HB.out.2
              · rw [HST2.out]; exact HNW.out.shift y HX.out.1 HG5.out
            have k0 : ∃ u, w5.cell? ⟨g, 0, none⟩ = some u := by
              have h9 := HG5.out
              have h8 : (splice cur 1 X)[0]? ≠ none := by
                intro e
                rw [List.getElem?_eq_none_iff, length_splice _ _ _ (by rw [HX.out.2.1, HNW.out.hc]; omega), HNW.out.hc] at e
                omega
              obtain ⟨u, hu⟩ := Option.ne_none_iff_exists'.1 h8
              exact ⟨u, by simp [World.cell?, h9, hu]⟩
            obtain ⟨u0, k0⟩ := k0
            have kf : w5.frozen? ⟨g, 0, none⟩ = false := by have h9 := HG5.out; simp [World.frozen?, h9]
            have kl : g < w5.heap.size := ltOfQ HG5.out
            clear HG5 hB5 HB HNW HX HST2
            go_wp2
            go_roundw
            case rel => exact ⟨t + 1, by omega, by go_num, HP.out⟩
            case measure => simp [intOf]; omega
      · obtain rfl : t = k := by omega
        have HE : Hid (IS wr W.heap.size (.slice (some ⟨g, 0, none⟩) (0 + 1) 1) (scL st tp inn)) := by
          rw [HL.out]
          have h9 := HNW.out.is (B := W.heap.size) (Nat.le_of_lt hgl)
          rw [hl, List.take_of_length_le (by rw [← HLN.out.2.1]; exact Nat.le_refl _)] at h9
          exact h9
        have z0 := cellOfQ HB.out.2 0 rfl
        have z1 := cellOfQ HB.out.2 1 rfl
        have zl := ltOfQ HB.out.2
        have f0 := frozOfQ HB.out.2 0
        have f1 := frozOfQ HB.out.2 1
        have HB1 : Hid (Below W.heap.size W wr) := HB.out.1
        have HK : Hid (∀ u0 u1, IS ((wr.setCell ⟨W.heap.size, 0, none⟩ u0).setCell ⟨W.heap.size, 1, none⟩ u1) W.heap.size (.slice (some ⟨g, 0, none⟩) (0 + 1) 1) (scL st tp inn)) := fun u0 u1 => HE.out.kept fun q hq => by
          obtain rfl : g = q := by injection hq
          rw [heap_setCell_other _ _ _ _ (by simp; omega), heap_setCell_other _ _ _ _ (by simp; omega)]
        clear hR hnw HNW hl HB
        go_wp2
        try simp only [Exit.inBlock, Exit.then]
        refine bodyPost_ret (by simp [results, Try.results25, go_sem, z0, z1, zl, f0, f1]; try rfl) rfl ⟨_, rfl, HK.out _ _, (HB1.out.setCell (Nat.le_refl _) _).setCell (Nat.le_refl _) _⟩
  · have hc1i : ¬ (c : Int) = 1 := by omega
    go_wp2
    go_loopw [25] (fun i wr => ∃ t : Nat, t ≤ k ∧ i = .int .i64 t ∧ Hid (Below W.heap.size W wr ∧ wr.heap[W.heap.size]? = some (.cells #[.int .i64 0, .slice none 0 0] 45) ∧ (∃ cur, NW wr g (d + 1) c cur (ssL st tp (inn.take t))))) (fun i _ => k - (intOf i).toNat)
    case atStart => exact ⟨0, Nat.zero_le _, rfl, HV.out⟩
    case round =>
      clear HV
      obtain ⟨t, ht, rfl, hR⟩ := hrel
      obtain ⟨cur, hnw⟩ := hR.out.2.2
      obtain ⟨l, hl⟩ : ∃ l, l = ssL st tp (inn.take t) := ⟨_, rfl⟩
      rw [← hl] at hnw
      have HNW : Hid (NW wr g (d + 1) c cur l) := hnw
      have HB : Hid (Below W.heap.size W wr ∧ wr.heap[W.heap.size]? = some (.cells #[.int .i64 0, .slice none 0 0] 45)) := ⟨hR.out.1, hR.out.2.1⟩
      by_cases hlt : t < k
      · have hti : t < inn.length := by rw [← HLN.out.2.1]; exact hlt
        obtain ⟨gi, oi, rfl, hgi, i0⟩ := rd_at (H.out.2.2.below HB.out.1) hlt
        have hxb := oo_at HOK.out.2.2.2.2.1 hti
        have HST : Hid (ssL st tp (inn.take (t + 1)) = stN tp l (inn.getD t 0)) := by unfold Hid; rw [ssL_step hti, hl]
        obtain ⟨x, hx⟩ : ∃ x, x = inn.getD t 0 := ⟨_, rfl⟩
        rw [← hx] at i0 hxb HST
        have HBI : Hid (Bits l) := by unfold Hid; rw [hl]; exact ssL_bits (bits_of HOK.out.2.2.2.1) _
        obtain ⟨V2, hV2⟩ : ∃ V2, V2 = wr := ⟨_, rfl⟩
        clear hl hx hti hR hnw
        have b0 : (0 : Int) ≤ (t : Int) := by omega
        have b1 : (t : Int) < (k : Int) := by omega
        go_wp2
        rw [← hV2] at HB HNW hgi i0 ⊢
        clear hV2 i0
        go_loopw [10, 31] (fun f i wr => ∃ (j : Nat) (y : Int), j ≤ m ∧ f = .int .i64 y ∧ i = .int .i64 j ∧ wr = V2 ∧ (y = 0 ∨ y = 1) ∧ Hid (y = (x + smT l (tp.take j)) % 2)) (fun _ i _ => m - (intOf i).toNat)
        case atStart => exact ⟨0, x, Nat.zero_le _, rfl, rfl, rfl, by omega, by unfold Hid; simp [smT]; omega⟩
        case round =>
          obtain ⟨j, y, hj, rfl, rfl, rfl, hy, hY⟩ := hrel
          by_cases hjm : j < m
          · have hjt : j < tp.length := by rw [← HLN.out.1]; exact hjm
            obtain ⟨gt, ot, rfl, hgt, t0⟩ := rd_at (H.out.2.1.below HB.out.1) hjm
            have htb := oo_at HOK.out.2.2.2.2.2.1 hjt
            obtain ⟨v, hv⟩ : ∃ v : Nat, tp.getD j 0 = (v : Int) := ⟨(tp.getD j 0).toNat, by omega⟩
            have HSM : Hid (smT l (tp.take (j + 1)) = smT l (tp.take j) + l.getD v 0) := by unfold Hid; rw [smT_step hjt, hv]; rfl
            rw [hv] at t0 htb
            have hvd : v < d + 1 := by have := HLN.out.2.2; omega
            obtain ⟨v0, _⟩ := HNW.out.at hvd
            have hbb := HBI.out v
            obtain ⟨b, hb⟩ : ∃ b, b = l.getD v 0 := ⟨_, rfl⟩
            rw [← hb] at v0 hbb HSM
            clear hb hv hjt htb
            have hbc : b = 0 ∨ b = 1 := by omega
            have b2 : (0 : Int) ≤ (j : Int) := by omega
            have b3 : (j : Int) < (m : Int) := by omega
            have b4 : (0 : Int) ≤ (v : Int) := by omega
            have b5 : (v : Int) < (d : Int) + 1 := by omega
            have HY : Hid (∀ z : Int, z = (y + b) % 2 → z = (x + smT l (tp.take (j + 1))) % 2) := fun z hz => by rw [hz, HSM.out, hY.out]; omega
            rcases hy with rfl | rfl
            · rcases hbc with rfl | rfl
              · go_wp2
                go_roundw
                case rel => exact ⟨j + 1, 0, by omega, by first | rfl | trivial, by go_num, by first | rfl | trivial, Or.inl rfl, HY.out 0 rfl⟩
                case measure => simp [intOf]; omega
              · go_wp2
                go_roundw
                case rel => exact ⟨j + 1, 1, by omega, by first | rfl | trivial, by go_num, by first | rfl | trivial, Or.inr rfl, HY.out 1 rfl⟩
                case measure => simp [intOf]; omega
            · rcases hbc with rfl | rfl
              · go_wp2
                go_roundw
                case rel => exact ⟨j + 1, 1, by omega, by first | rfl | trivial, by go_num, by first | rfl | trivial, Or.inr rfl, HY.out 1 rfl⟩
                case measure => simp [intOf]; omega
              · go_wp2
                go_roundw
                case rel => exact ⟨j + 1, 0, by omega, by first | rfl | trivial, by go_num, by first | rfl | trivial, Or.inl rfl, HY.out 0 rfl⟩
                case measure => simp [intOf]; omega
          · obtain rfl : j = m := by omega
            have HY : Hid (y = (x + smT l tp) % 2) := by
              have h9 := hY.out
              rw [List.take_of_length_le (by rw [← HLN.out.1]; exact Nat.le_refl _)] at h9
              exact h9
            clear hY hy
            obtain ⟨X, hX⟩ : ∃ X, X = (l.take d).map (Value.int .i64) := ⟨_, rfl⟩
            have HX : Hid (X = (l.take d).map (Value.int .i64) ∧ X.length = d ∧ (∀ (i : Nat) u, X[i]? = some u → wr.cell? ((⟨g, 0, none⟩ : Addr).add i) = some u) ∧ (∀ u ∈ X, u.oneCell' = true)) := by
              have hxl : X.length = d := by rw [hX]; simp [HNW.out.ln]
              refine ⟨hX, hxl, fun i u hu => ?_, fun u hu => ?_⟩
              · have hid : i < d := by
                  rcases Nat.lt_or_ge i d with h9 | h9
                  · exact h9
                  · rw [List.getElem?_eq_none (by omega)] at hu; cases hu
                rw [hX, List.getElem?_map, List.getElem?_take, if_pos hid, List.getElem?_eq_getElem (by rw [HNW.out.ln]; omega)] at hu
                have h9 := (HNW.out.at (show i < d + 1 by omega)).1
                rw [getD_at (by rw [HNW.out.ln]; omega)] at h9
                rw [show ((⟨g, 0, none⟩ : Addr).add i) = ⟨g, i, none⟩ by simp [Addr.add]; try omega]
                rw [h9]; exact hu
              · rw [hX] at hu; exact ones_int _ u hu
            have HST2 : Hid (ssL st tp (inn.take (t + 1)) = y :: l.take d) := by
              unfold Hid; rw [HST.out, stN, ← HY.out, HNW.out.ln]; rfl
            clear hX HST HY
            go_upto_region 14 with (refine wpList_copy_splice rfl (.tmp 43) (.tmp 44) 22 22 rfl 2 Try.underlying22 info_one23 _ (some ⟨g, 0, none⟩) d _ (d + 1) _ rfl rfl g 1 cur 2 HNW.out.hg X (by rw [HX.out.2.1]; exact (Nat.min_eq_right (by omega)).symm) (fun hp => ⟨rfl, ⟨g, 0, none⟩, rfl, HX.out.2.2.1⟩) (by rw [HX.out.2.1, HNW.out.hc]; omega) HX.out.2.2.2 g wr (Below.refl _ _) (Nat.le_refl _) ?_; intro w5 HG5 hB5)
            have HP : Hid (Below W.heap.size W (w5.setCell ⟨g, 0, none⟩ (.int .i64 y)) ∧ (w5.setCell ⟨g, 0, none⟩ (.int .i64 y)).heap[W.heap.size]? = some (.cells #[.int .i64 0, .slice none 0 0] 45) ∧ (∃ cur, NW (w5.setCell ⟨g, 0, none⟩ (.int .i64 y)) g (d + 1) c cur (ssL st tp (inn.take (t + 1))))) := by
              refine ⟨(HB.out.1.trans (hB5.mono (by omega))).setCell (by simp; omega) _, ?_, ?_⟩
              · rw [heap_setCell_other _ _ _ _ (by simp; omega), hB5.block _ hgl]; exact HB.out.2
              · rw [HST2.out]; exact HNW.out.shift y HX.out.1 HG5.out
            have k0 : ∃ u, w5.cell? ⟨g, 0, none⟩ = some u := by
              have h9 := HG5.out
              have h8 : (splice cur 1 X)[0]? ≠ none := by
                intro e
                rw [List.getElem?_eq_none_iff, length_splice _ _ _ (by rw [HX.out.2.1, HNW.out.hc]; omega), HNW.out.hc] at e
                omega
              obtain ⟨u, hu⟩ := Option.ne_none_iff_exists'.1 h8
              exact ⟨u, by simp [World.cell?, h9, hu]⟩
            obtain ⟨u0, k0⟩ := k0
            have kf : w5.frozen? ⟨g, 0, none⟩ = false := by have h9 := HG5.out; simp [World.frozen?, h9]
            have kl : g < w5.heap.size := ltOfQ HG5.out
            clear HG5 hB5 HB HNW HX HST2
            go_wp2
            go_roundw
            case rel => exact ⟨t + 1, by omega, by go_num, HP.out⟩
            case measure => simp [intOf]; omega
      · obtain rfl : t = k := by omega
        have HE : Hid (IS wr W.heap.size (.slice (some ⟨g, 0, none⟩) (d + 1) c) (scL st tp inn)) := by
          rw [HL.out]
          have h9 := HNW.out.is (B := W.heap.size) (Nat.le_of_lt hgl)
          rw [hl, List.take_of_length_le (by rw [← HLN.out.2.1]; exact Nat.le_refl _)] at h9
          exact h9
        have z0 := cellOfQ HB.out.2 0 rfl
        have z1 := cellOfQ HB.out.2 1 rfl
        have zl := ltOfQ HB.out.2
        have f0 := frozOfQ HB.out.2 0
        have f1 := frozOfQ HB.out.2 1
        have HB1 : Hid (Below W.heap.size W wr) := HB.out.1
        have HK : Hid (∀ u0 u1, IS ((wr.setCell ⟨W.heap.size, 0, none⟩ u0).setCell ⟨W.heap.size, 1, none⟩ u1) W.heap.size (.slice (some ⟨g, 0, none⟩) (d + 1) c) (scL st tp inn)) := fun u0 u1 => HE.out.kept fun q hq => by
          obtain rfl : g = q := by injection hq
          rw [heap_setCell_other _ _ _ _ (by simp; omega), heap_setCell_other _ _ _ _ (by simp; omega)]
        clear hR hnw HNW hl HB
        go_wp2
        try simp only [Exit.inBlock, Exit.then]
        refine bodyPost_ret (by simp [results, Try.results25, go_sem, z0, z1, zl, f0, f1]; try rfl) rfl ⟨_, rfl, HK.out _ _, (HB1.out.setCell (Nat.le_refl _) _).setCell (Nat.le_refl _) _⟩

end Go.Proofs.Ytkdpifplhhcpaaa
