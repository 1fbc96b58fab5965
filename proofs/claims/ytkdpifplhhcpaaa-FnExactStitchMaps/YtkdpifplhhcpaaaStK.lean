/- Proved here: StitchMaps of the program. -/
import Derived.Test.YtkdpifplhhcpaaaStJ
import Derived.Test.YtkdpifplhhcpaaaStC
import Derived.Test.YtkdpifplhhcpaaaCeQ
namespace Go.Proofs.Ytkdpifplhhcpaaa
open Go.RowKit
set_option linter.unusedVariables false
set_option linter.unusedSimpArgs false

theorem RI.boxed {w : World} {B k n : Nat} {v : Value} {L : List (List Int)} {vs : List Value} (h : RI w B v L vs) (hk : k < B) (u0 u1 : Value) : RI ((w.setCell ⟨k, 0, none⟩ u0).setCell ⟨k, 1, none⟩ u1) B v L vs := by
  refine h.kept (fun q hq => ?_) (fun i hi q hq => ?_)
  · have h9 := (rowBlk h.o hq).1
    rw [heap_setCell_other _ _ _ _ (by simp; omega), heap_setCell_other _ _ _ _ (by simp; omega)]
  · have h9 := (rowBlk (h.bx i hi) hq).1
    rw [heap_setCell_other _ _ _ _ (by simp; omega), heap_setCell_other _ _ _ _ (by simp; omega)]

set_option maxRecDepth 10000 in
set_option maxHeartbeats 12800000 in
theorem impl_st {W : World} {va vb : Value} {la lb : List (List Int)} (hna : SmR la) (ha : RdR W va la) (hnb : SmR lb) (hb : RdR W vb lb) :
    Calls Try.prog 35 #[va, vb] W fun e w' => ∃ v vs, e = .returned (.agg #[.int .i64 (stC la lb), v]) ∧ RI w' W.heap.size v (stL la lb) vs ∧ Below W.heap.size W w' := by
  obtain ⟨a, c, rfl⟩ := ha.form
  obtain ⟨b, d, rfl⟩ := hb.form
  obtain ⟨Z, hZ⟩ : ∃ Z, Z = W.alloc (.cells #[.int .i64 0, .slice none 0 0] 55) := ⟨_, rfl⟩
  have HZ : Hid (Below W.heap.size W Z ∧ Z.heap[W.heap.size]? = some (.cells #[.int .i64 0, .slice none 0 0] 55)) := by rw [hZ]; exact ⟨by (repeat' (first | (with_reducible exact Below.refl _ _) | (with_reducible assumption) | (with_reducible refine Below.setCell ?_ ?_ _) | (with_reducible refine Below.alloc ?_ ?_ _) | (with_reducible refine below_drewN ?_ _) | (with_reducible refine Below.drew ?_) | (with_reducible exact Nat.le_refl _) | omega | (simp; done) | (simp; omega))), heap_alloc_new _ _⟩
  obtain ⟨n, hnn⟩ : ∃ n, n = la.length := ⟨_, rfl⟩
  obtain ⟨k, hkk⟩ : ∃ k, k = lb.length := ⟨_, rfl⟩
  rw [← hnn] at ha ⊢
  rw [← hkk] at hb ⊢
  have H : Hid (RdR W (.slice a n c) la ∧ RdR W (.slice b k d) lb ∧ n = la.length ∧ k = lb.length) := ⟨ha, hb, hnn, hkk⟩
  obtain ⟨K, hK⟩ : ∃ K, K = stK la lb := ⟨_, rfl⟩
  obtain ⟨C, hC⟩ : ∃ C, C = stC la lb := ⟨_, rfl⟩
  have HC : Hid (C = (if K ≠ 0 then K else if cfA la lb = true then 7 else 0) ∧ (K = 0 → stK la lb = 0) ∧ C = stC la lb) := ⟨by rw [hC, hK, stC_K], fun h => hK.symm.trans h, hC⟩
  have HF : Hid (Calls Try.prog 60 #[.slice a n c, .slice b k d] Z fun e w' => e = .returned (.int .i64 K) ∧ Below Z.heap.size Z w') := by rw [hK]; exact impl_smfs hna (ha.below HZ.out.1) hnb (hb.below HZ.out.1)
  rw [← hC]
  clear hK hC ha hb hnn hkk hna hnb
  go_enter Try.func35, Try.ntmps35
  go_wp2_with (fail)
  rw [← hZ]
  refine HF.out.mono ?_
  rintro e w1 ⟨rfl, hb1⟩
  have HW : Hid (Below W.heap.size W w1 ∧ w1.heap[W.heap.size]? = some (.cells #[.int .i64 0, .slice none 0 0] 55)) := ⟨HZ.out.1.trans (hb1.mono HZ.out.1.size), by rw [hb1.block _ (ltOfQ HZ.out.2)]; exact HZ.out.2⟩
  clear hb1 HF HZ hZ
  by_cases hK0 : K = 0
  case neg =>
    have h1 : (K != 0) = true := by simpa using hK0
    have HN : Hid (C = K) := by unfold Hid; rw [HC.out.1, if_pos hK0]
    have HL : Hid (stL la lb = []) := stL_no (by rw [← HC.out.2.2, HN.out]; exact hK0)
    have z0 := cellOfQ HW.out.2 0 rfl
    have z1 := cellOfQ HW.out.2 1 rfl
    have zl := ltOfQ HW.out.2
    have f0 := frozOfQ HW.out.2 0
    have f1 := frozOfQ HW.out.2 1
    have HB : Hid (Below W.heap.size W w1) := HW.out.1
    clear HC
    go_wp2
    try simp only [Exit.inBlock, Exit.then]
    refine bodyPost_ret (by simp [results, Try.results35, go_sem, z0, z1, zl, f0, f1]; try rfl) rfl ⟨_, [], by rw [HN.out], by rw [HL.out]; exact RI.nil _ _, (HB.out.setCell (Nat.le_refl _) _).setCell (Nat.le_refl _) _⟩
  have HOK : Hid (GM la ∧ GM lb ∧ la.length = lb.length ∧ (la.getD 0 []).length = (lb.getD 0 []).length) := ⟨smF_ok (stK_ok (HC.out.2.1 hK0)).1, smF_ok (stK_ok (HC.out.2.1 hK0)).2.1, (stK_ok (HC.out.2.1 hK0)).2.2.1, (stK_ok (HC.out.2.1 hK0)).2.2.2⟩
  have HC1 : Hid (C = if cfA la lb = true then 7 else 0) := by unfold Hid; rw [HC.out.1, if_neg (fun h => h hK0)]
  obtain rfl : n = k := by rw [H.out.2.2.1, H.out.2.2.2]; exact HOK.out.2.2.1
  have HC2 : Hid (C = stC la lb) := HC.out.2.2
  subst hK0
  clear HC
  obtain ⟨Wd, hWd⟩ : ∃ Wd, Wd = (la.getD 0 []).length := ⟨_, rfl⟩
  have HWd : Hid (Wd = (la.getD 0 []).length ∧ (∀ j, j < n → (lb.getD j []).length = Wd) ∧ 0 < Wd ∧ Wd ≤ 20) := ⟨hWd, fun j hj => by rw [HOK.out.2.1.row (by rw [← H.out.2.2.2]; exact hj), ← HOK.out.2.2.2, ← hWd], by rw [hWd]; exact HOK.out.1.w0, by rw [hWd]; exact HOK.out.1.w1⟩
  have hn20 : n ≤ 20 := by rw [H.out.2.2.1]; exact HOK.out.1.h1
  have hW20 : Wd ≤ 20 := HWd.out.2.2.2
  have HCP : Hid (Calls Try.prog 61 #[.slice a n c] w1 fun e w' => ∃ g vs, e = .returned (.slice (some ⟨g, 0, none⟩) la.length la.length) ∧ RI w' w1.heap.size (.slice (some ⟨g, 0, none⟩) la.length la.length) la vs ∧ Below w1.heap.size w1 w') := impl_copiedM HOK.out.1 (H.out.1.below HW.out.1)
  clear hWd
  go_wp2_with (fail)
  refine HCP.out.mono ?_
  rintro e w2 ⟨g, vs2, rfl, hri, hb2⟩
  rw [← H.out.2.2.1] at hri ⊢
  obtain ⟨B, hB⟩ : ∃ B, B = w1.heap.size := ⟨_, rfl⟩
  have hWB : W.heap.size < B := by rw [hB]; exact ltOfQ HW.out.2
  have HV : Hid (Below W.heap.size W w2 ∧ w2.heap[W.heap.size]? = some (.cells #[.int .i64 0, .slice none 0 0] 55) ∧ ∃ L vs, GV w2 B g n n Wd L vs ∧ SJ23 la lb L 0 0) := ⟨HW.out.1.trans (hb2.mono HW.out.1.size), by rw [hb2.block _ (ltOfQ HW.out.2)]; exact HW.out.2, la, vs2, ⟨by rw [hB]; exact hri, by rw [H.out.2.2.1, HWd.out.1]; exact HOK.out.1.sh, HWd.out.2.2.1⟩, SJ23.start HOK.out.1⟩
  clear hri hb2 HCP HW hB
  go_wp2
  go_loopw [22] (fun i wr => ∃ t : Nat, t ≤ n ∧ i = .int .i64 t ∧ Hid (Below W.heap.size W wr ∧ wr.heap[W.heap.size]? = some (.cells #[.int .i64 0, .slice none 0 0] 55) ∧ ∃ L vs, GV wr B g n n Wd L vs ∧ SJ23 la lb L t 0)) (fun i _ => n - (intOf i).toNat)
  case atStart => exact ⟨0, Nat.zero_le _, rfl, HV.out⟩
  case round =>
    clear HV
    obtain ⟨t, ht, rfl, hR⟩ := hrel
    by_cases hlt : t < n
    · obtain ⟨gb, ob, ub, un, uc, rfl, hgb, b0', hun, hrd⟩ := H.out.2.1.at hlt
      obtain rfl : un = Wd := by rw [hun]; exact HWd.out.2.1 t hlt
      have HRB : Hid (RdI W (.slice ub un uc) (lb.getD t []) ∧ t < la.length ∧ un = (la.getD 0 []).length) := ⟨hrd, by rw [← H.out.2.2.1]; exact hlt, HWd.out.1⟩
      have c0 := (hR.out.1.cell (p := ⟨gb, ob + t, none⟩) hgb).trans b0'
      have hgbw : gb < wr.heap.size := Nat.lt_of_lt_of_le hgb hR.out.1.size
      have b0 : (0 : Int) ≤ (t : Int) := by omega
      have b1 : (t : Int) < (n : Int) := by omega
      have HV2 : Hid (Below W.heap.size W wr ∧ wr.heap[W.heap.size]? = some (.cells #[.int .i64 0, .slice none 0 0] 55) ∧ ∃ L vs, GV wr B g n n un L vs ∧ SJ23 la lb L t 0) := hR.out
      clear hR hrd hun b0' hgb
      go_wp2
      clear c0 hgbw
      go_loopw [29] (fun i wr => ∃ m : Nat, m ≤ un ∧ i = .int .i64 m ∧ Hid (Below W.heap.size W wr ∧ wr.heap[W.heap.size]? = some (.cells #[.int .i64 0, .slice none 0 0] 55) ∧ ∃ L vs, GV wr B g n n un L vs ∧ SJ23 la lb L t m)) (fun i _ => un - (intOf i).toNat)
      case atStart => exact ⟨0, Nat.zero_le _, rfl, HV2.out⟩
      case round =>
        clear HV2
        obtain ⟨m, hm, rfl, hR⟩ := hrel
        obtain ⟨L, vs, hgv, hsj⟩ := hR.out.2.2
        by_cases hmu : m < un
        · obtain ⟨gr, orr, rfl, hgr, y0'⟩ := rd_at (HRB.out.1.below hR.out.1) hmu
          obtain ⟨gj, cj, hr, r0, hgl, hgjl, hBj, hBg, hne, hcell⟩ := hgv.at hlt
          obtain ⟨x0, xf⟩ := hcell m hmu
          have hmw : m < (la.getD 0 []).length := by rw [← HRB.out.2.2]; exact hmu
          rw [hsj.here HRB.out.2.1 hmw] at x0
          obtain ⟨x, hx⟩ : ∃ x, x = at2 la t m := ⟨_, rfl⟩
          obtain ⟨y, hy⟩ : ∃ y, y = at2 lb t m := ⟨_, rfl⟩
          have y0 : wr.cell? ⟨gr, orr + m, none⟩ = some (.int .i64 y) := by rw [hy]; exact y0'
          rw [← hx] at x0
          have HCF : Hid (cfB (at2 la t m) (at2 lb t m) = cfB x y ∧ (cfB x y = true → cfA la lb = true)) := ⟨by rw [hx, hy], fun h => cfA_true HRB.out.2.1 hmw (by rw [← hx, ← hy]; exact h)⟩
          have HG : Hid (GV wr B g n n un L vs ∧ SJ23 la lb L t m ∧ rat vs t = .slice (some ⟨gj, 0, none⟩) un cj ∧ m < (la.getD 0 []).length ∧ x = at2 la t m ∧ y = at2 lb t m) := ⟨hgv, hsj, hr, hmw, hx, hy⟩
          have HBW : Hid (Below W.heap.size W wr ∧ wr.heap[W.heap.size]? = some (.cells #[.int .i64 0, .slice none 0 0] 55)) := ⟨hR.out.1, hR.out.2.1⟩
          clear hR hgv hsj hcell y0' hx hy hr hmw
          have b2 : (0 : Int) ≤ (m : Int) := by omega
          have b3 : (m : Int) < (un : Int) := by omega
          by_cases hx0 : x = 0
          · have HP : Hid (Below W.heap.size W (wr.setCell ⟨gj, m, none⟩ (.int .i64 y)) ∧ (wr.setCell ⟨gj, m, none⟩ (.int .i64 y)).heap[W.heap.size]? = some (.cells #[.int .i64 0, .slice none 0 0] 55) ∧ ∃ L vs, GV (wr.setCell ⟨gj, m, none⟩ (.int .i64 y)) B g n n un L vs ∧ SJ23 la lb L t (m + 1)) := by
              have h9 : mgI (at2 la t m) (at2 lb t m) = y := by rw [← HG.out.2.2.2.2.1, ← HG.out.2.2.2.2.2, mgI, if_pos hx0]
              have h8 := HG.out.2.1.step HRB.out.2.1 HG.out.2.2.2.1 (by rw [HCF.out.1, cfB, hx0]; rfl)
              rw [h9] at h8
              refine ⟨HBW.out.1.setCell (by simp; omega) _, ?_, _, vs, HG.out.1.set hlt HG.out.2.2.1 m y, h8⟩
              rw [heap_setCell_other _ _ _ _ (by simp; omega)]; exact HBW.out.2
            subst hx0
            clear HG HBW HCF
            go_wp2
            go_roundw
            case rel => exact ⟨m + 1, by omega, by go_num, HP.out⟩
            case measure => simp [intOf]; omega
          have hxb : (x == 0) = false := by simpa using hx0
          by_cases hy0 : y = 0
          · have HP : Hid (Below W.heap.size W wr ∧ wr.heap[W.heap.size]? = some (.cells #[.int .i64 0, .slice none 0 0] 55) ∧ ∃ L vs, GV wr B g n n un L vs ∧ SJ23 la lb L t (m + 1)) := ⟨HBW.out.1, HBW.out.2, L, vs, HG.out.1, HG.out.2.1.same HRB.out.2.1 HG.out.2.2.2.1 (by rw [← HG.out.2.2.2.2.1]; exact hx0) (by rw [HCF.out.1, cfB, hy0]; simp)⟩
            subst hy0
            clear HG HBW HCF
            go_wp2
            go_roundw
            case rel => exact ⟨m + 1, by omega, by go_num, HP.out⟩
            case measure => simp [intOf]; omega
          have hyb : (y != 0) = true := by simpa using hy0
          by_cases hxy : y = x
          · have HP : Hid (Below W.heap.size W wr ∧ wr.heap[W.heap.size]? = some (.cells #[.int .i64 0, .slice none 0 0] 55) ∧ ∃ L vs, GV wr B g n n un L vs ∧ SJ23 la lb L t (m + 1)) := ⟨HBW.out.1, HBW.out.2, L, vs, HG.out.1, HG.out.2.1.same HRB.out.2.1 HG.out.2.2.2.1 (by rw [← HG.out.2.2.2.2.1]; exact hx0) (by rw [HCF.out.1, cfB, hxy]; simp)⟩
            subst hxy
            clear HG HBW HCF
            go_wp2
            go_roundw
            case rel => exact ⟨m + 1, by omega, by go_num, HP.out⟩
            case measure => simp [intOf]; omega
          have hxyb : (y != x) = true := by simpa using hxy
          have HN : Hid (C = 7) := by
            unfold Hid; rw [HC1.out, if_pos (HCF.out.2 (by simp [cfB, hx0, hy0]; exact fun h => hxy h.symm))]
          have HL : Hid (stL la lb = []) := stL_no (by rw [← HC2.out, HN.out]; decide)
          have z0 := cellOfQ HBW.out.2 0 rfl
          have z1 := cellOfQ HBW.out.2 1 rfl
          have zl := ltOfQ HBW.out.2
          have f0 := frozOfQ HBW.out.2 0
          have f1 := frozOfQ HBW.out.2 1
          have HB : Hid (Below W.heap.size W wr) := HBW.out.1
          clear HG HBW HCF
          go_wp2
          try simp only [Exit.inBlock, Exit.then]
          refine bodyPost_ret (by simp [results, Try.results35, go_sem, z0, z1, zl, f0, f1]; try rfl) rfl ⟨_, [], by rw [HN.out], by rw [HL.out]; exact RI.nil _ _, (HB.out.setCell (Nat.le_refl _) _).setCell (Nat.le_refl _) _⟩
        · obtain rfl : m = un := by omega
          have HP : Hid (Below W.heap.size W wr ∧ wr.heap[W.heap.size]? = some (.cells #[.int .i64 0, .slice none 0 0] 55) ∧ ∃ L vs, GV wr B g n n m L vs ∧ SJ23 la lb L (t + 1) 0) := ⟨hR.out.1, hR.out.2.1, L, vs, hgv, by have h9 := hsj; rw [HRB.out.2.2] at h9; exact h9.row⟩
          clear hR hgv hsj
          go_wp2
          go_roundw
          case rel => exact ⟨t + 1, by omega, by go_num, HP.out⟩
          case measure => simp [intOf]; omega
    · obtain ⟨L, vs, hgv, hsj⟩ := hR.out.2.2
      rw [show t = la.length by rw [← H.out.2.2.1]; omega] at hsj
      have HD := hsj.done
      have HN : Hid (C = 0) := by unfold Hid; rw [HC1.out, HD.2, if_neg (by decide)]
      have HLe : Hid (stL la lb = L) := by unfold Hid; rw [stL, if_pos (by rw [← HC2.out]; exact HN.out), HD.1]
      have HRI : Hid (∀ u0 u1, RI ((wr.setCell ⟨W.heap.size, 0, none⟩ u0).setCell ⟨W.heap.size, 1, none⟩ u1) W.heap.size (.slice (some ⟨g, 0, none⟩) n n) (stL la lb) vs) := fun u0 u1 => by rw [HLe.out]; exact (hgv.ri.boxed (n := n) hWB u0 u1).low (Nat.le_of_lt hWB)
      have z0 := cellOfQ hR.out.2.1 0 rfl
      have z1 := cellOfQ hR.out.2.1 1 rfl
      have zl := ltOfQ hR.out.2.1
      have f0 := frozOfQ hR.out.2.1 0
      have f1 := frozOfQ hR.out.2.1 1
      have HB : Hid (Below W.heap.size W wr) := hR.out.1
      clear hR hgv hsj HD
      go_wp2
      try simp only [Exit.inBlock, Exit.then]
      refine bodyPost_ret (by simp [results, Try.results35, go_sem, z0, z1, zl, f0, f1]; try rfl) rfl ⟨_, vs, by rw [HN.out], HRI.out _ _, (HB.out.setCell (Nat.le_refl _) _).setCell (Nat.le_refl _) _⟩

end Go.Proofs.Ytkdpifplhhcpaaa
