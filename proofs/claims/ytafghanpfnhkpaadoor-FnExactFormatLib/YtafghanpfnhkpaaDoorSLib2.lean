/- Proved here: l3Cell and LibFault of the model: clK, libK. -/
import Derived.Test.YtafghanpfnhkpaaDoorSLib
namespace Go.Proofs.YtafghanpfnhkpaaDoor
open Go.RowKit
set_option linter.unusedVariables false
set_option linter.unusedSimpArgs false

/-- The cell's copy in a block of the call's own. -/
structure LC (w wr : World) (r : Rc) : Prop where
  c : wr.heap[w.heap.size]? = some (.cells #[.string r.nm, .slice r.ba r.bn r.bc, .slice r.pa r.pn r.pc] 38)
  bl : Below w.heap.size w wr
theorem LC.next {w wr w' : World} {r : Rc} (h : LC w wr r) (hb : Below wr.heap.size wr w') : LC w w' r :=
  ⟨(hb.block _ (three_at h.c).2.2.2).trans h.c, h.bl.trans (hb.mono h.bl.size)⟩

set_option maxRecDepth 10000 in
set_option maxHeartbeats 6400000 in
theorem spec_cell (a : Option Addr) (m c n : Nat) (s : List Cl) (w : World) (hm : m ≤ 2000000) (hn : n < m) (hns : n < s.length) (h : RK w (.slice a m c) s) (hsm : smC 1048576 s[n]) :
    Calls Tryd.prog 21 #[.slice a m c, .int .i64 (n : Int)] w fun e w' => e = .returned (.int .i64 (clK (ahB s n) s[n])) ∧ Below w.heap.size w w' := by
  have HRK : Hid (RK w (.slice a m c) s) := h
  obtain ⟨rs, hrs, hrel⟩ := h
  have hnr : n < rs.length := by rw [← hrs.len]; exact hn
  obtain ⟨g, o, c2, he, hgl, hj⟩ := hrs.pos (by omega)
  simp only [Value.slice.injEq] at he
  obtain ⟨rfl, hx1, hx2⟩ := he
  clear hx1 hx2
  obtain ⟨c0, c1, c2⟩ := rcC_at (hj n hnr)
  obtain ⟨r, hr⟩ : ∃ r, r = rs[n] := ⟨_, rfl⟩
  rw [← hr] at c0 c1 c2
  have hr1 : Rc1 w r s[n] := by rw [hr]; exact hrel.at_ n hnr hns
  obtain ⟨x, hx⟩ : ∃ x, x = s[n] := ⟨_, rfl⟩
  rw [← hx] at hr1 hsm ⊢
  obtain ⟨K, hK⟩ : ∃ K, K = clK (ahB s n) x := ⟨_, rfl⟩
  rw [← hK]
  have H : Hid (Rc1 w r x ∧ smC 1048576 x ∧ K = clK (ahB s n) x) := ⟨hr1, hsm, hK⟩
  have b0 : (0 : Int) ≤ (n : Int) := by omega
  have b1 : (n : Int) < (m : Int) := by omega
  have hbn : r.bn = x.bs.length := hr1.bs.len
  have hpn : r.pn = x.ps.length := hr1.ps.len
  have HBN : Hid (r.bn = x.bs.length ∧ r.pn = x.ps.length) := ⟨hbn, hpn⟩
  have hbn2 : r.bn ≤ 2000000 := by rw [hbn]; have := hsm.bs; omega
  have hpn2 : r.pn ≤ 2000000 := by rw [hpn]; have := hsm.ps; omega
  have hnmc := fun w => spec_name r.nm w (by rw [hr1.nm]; have := hsm.nm; omega)
  have HFI : Hid (∀ W, Below w.heap.size w W → Calls Tryd.prog 32 #[.slice (some ⟨g, o, none⟩) m c, .int .i64 (n : Int), .string r.nm] W fun e w' => ∃ q, e = .returned (.int .i64 q) ∧ FindR s n r.nm q ∧ w' = W) := fun W hb => spec_find _ m c n s r.nm W hm (by omega) (HRK.out.below hb)
  have HPL : Hid (∀ W p, Below w.heap.size w W → Calls Tryd.prog 34 #[.slice (some ⟨g, o, none⟩) m c, .int .i64 (n : Int), .agg #[.string p.c, .int .i64 p.x, .int .i64 p.y, .int .i64 p.t, .bool p.f, .int .i64 p.nx, .int .i64 p.ny, .int .i64 p.dx, .int .i64 p.dy]] W fun e w' => e = .returned (.int .i64 (plK (ahB s n p.c) p)) ∧ Below W.heap.size W w') := fun W p hb => spec_place _ m c n s p W hm (by omega) (HRK.out.below hb)
  have hL0 : Hid (LC w (w.alloc (.cells #[.string r.nm, .slice r.ba r.bn r.bc, .slice r.pa r.pn r.pc] 38)) r) := ⟨heap_alloc_new _ _, (Below.refl _ _).alloc (Nat.le_refl _) _⟩
  clear hrs hrel hj hr hr1 hx hsm hK hbn hpn HRK
  obtain ⟨z, hz⟩ : ∃ z, z = nameK r.nm := ⟨_, rfl⟩
  have HZ : Hid (z = nameK r.nm) := hz
  rw [← hz] at hnmc
  clear hz
  by_cases hz0 : z = 0
  case neg =>
    have HK : Hid (K = z) := by
      unfold Hid
      rw [H.out.2.2]
      unfold clK
      rw [if_neg (by rw [← H.out.1.nm, ← HZ.out]; exact hz0), ← H.out.1.nm, ← HZ.out]
    go_enter Tryd.func21, Tryd.ntmps21
    go_wp2_with (fail)
    refine (hnmc _).mono ?_
    rintro e w1 ⟨rfl, rfl⟩
    go_wp2
    go_returns
    exact ⟨by rw [HK.out]; rfl, hL0.out.bl⟩
  have HN0 : Hid (nameK x.nm = 0) := by unfold Hid; rw [← H.out.1.nm, ← HZ.out]; exact hz0
  subst hz0
  cases hah : ahB s n r.nm with
  | true =>
    have HK : Hid (K = 1) := by
      unfold Hid
      rw [H.out.2.2]
      unfold clK
      rw [if_pos HN0.out, if_pos (by rw [← H.out.1.nm]; exact hah)]
    have HQ : Hid (∀ q, FindR s n r.nm q → 0 ≤ q) := fun q hq => by
      rcases hq with ⟨_, h2⟩ | ⟨i, rfl, _⟩
      · rw [hah] at h2; cases h2
      · omega
    go_enter Tryd.func21, Tryd.ntmps21
    go_wp2_with (fail)
    refine (hnmc _).mono ?_
    rintro e w1 ⟨rfl, rfl⟩
    go_wp2_with (fail)
    refine (HFI.out _ hL0.out.bl).mono ?_
    rintro e w1 ⟨q, rfl, hq, rfl⟩
    have hq0 := HQ.out q hq
    clear hq
    go_wp2
    go_returns
    exact ⟨by rw [HK.out]; rfl, hL0.out.bl⟩
  | false =>
    have HQ : Hid (∀ q, FindR s n r.nm q → ¬ 0 ≤ q) := fun q hq => by
      rcases hq with ⟨rfl, _⟩ | ⟨i, rfl, h2, _⟩
      · omega
      · rw [hah] at h2; cases h2
    by_cases hmany : 60 < r.bn ∨ 20 < r.pn
    · have HK : Hid (K = 2) := by
        unfold Hid
        rw [H.out.2.2]
        unfold clK
        rw [if_pos HN0.out, if_neg (by rw [← H.out.1.nm, hah]; simp), if_pos (by rw [← HBN.out.1, ← HBN.out.2]; exact hmany)]
      go_enter Tryd.func21, Tryd.ntmps21
      go_wp2_with (fail)
      refine (hnmc _).mono ?_
      rintro e w1 ⟨rfl, rfl⟩
      go_wp2_with (fail)
      refine (HFI.out _ hL0.out.bl).mono ?_
      rintro e w1 ⟨q, rfl, hq, rfl⟩
      have hq0 := HQ.out q hq
      clear hq
      by_cases h60 : (60 : Int) < (r.bn : Int)
      · go_wp2
        go_returns
        exact ⟨by rw [HK.out]; rfl, hL0.out.bl⟩
      · have h20 : (20 : Int) < (r.pn : Int) := by omega
        go_wp2
        go_returns
        exact ⟨by rw [HK.out]; rfl, hL0.out.bl⟩
    · have h60 : ¬ (60 : Int) < (r.bn : Int) := by omega
      have h20 : ¬ (20 : Int) < (r.pn : Int) := by omega
      have HK : Hid (K = if firstOf lbK x.bs = 0 then firstOf (fun p => plK (ahB s n p.c) p) x.ps else firstOf lbK x.bs) := by
        unfold Hid
        rw [H.out.2.2]
        unfold clK
        rw [if_pos HN0.out, if_neg (by rw [← H.out.1.nm, hah]; simp), if_neg (by rw [← HBN.out.1, ← HBN.out.2]; exact hmany)]
      clear hmany hah
      go_enter Tryd.func21, Tryd.ntmps21
      go_wp2_with (fail)
      refine (hnmc _).mono ?_
      rintro e w1 ⟨rfl, rfl⟩
      go_wp2_with (fail)
      refine (HFI.out _ hL0.out.bl).mono ?_
      rintro e w1 ⟨q, rfl, hq, rfl⟩
      have hq0 := HQ.out q hq
      clear hq HFI HQ hnmc
      go_wp2
      go_loopw [7] (fun i wr => ∃ k : Nat, i = .int .i64 k ∧ k ≤ r.bn ∧ Hid (firstOf lbK (x.bs.drop k) = firstOf lbK x.bs ∧ LC w wr r)) (fun i _ => 2000000 - (intOf i).toNat)
      case atStart => exact ⟨0, rfl, Nat.zero_le _, rfl, hL0.out⟩
      case round =>
        clear c0 c1 c2
        obtain ⟨k, rfl, hk, hR⟩ := hrel
        obtain ⟨p0, p1, p2, plt⟩ := three_at hR.out.2.c
        by_cases hlt : k < r.bn
        · have hkx : k < x.bs.length := by rw [← HBN.out.1]; exact hlt
          obtain ⟨bg, bo, bc2, hbe, hbg, hbj⟩ := (H.out.1.bs.below hR.out.2.bl).pos (by omega)
          simp only [Value.slice.injEq] at hbe
          obtain ⟨hba, hx1, hx2⟩ := hbe
          rw [hba] at p1
          obtain ⟨c0, c1, c2, c3, c4⟩ := lbC_at (hbj k hkx)
          obtain ⟨y, hy⟩ : ∃ y, y = x.bs[k] := ⟨_, rfl⟩
          rw [← hy] at c0 c1 c2 c3 c4
          have HY : Hid (k < x.bs.length ∧ lbK x.bs[k] = lbK y) := ⟨hkx, by rw [hy]⟩
          clear hx1 hx2 hbj hy hba
          have d0 : (0 : Int) ≤ (k : Int) := by omega
          have d1 : (k : Int) < (r.bn : Int) := by omega
          by_cases hl : y.l < 0 ∨ 15 < y.l
          · have HK1 : Hid (K = 1) := by
              unfold Hid
              have hh := firstOf_hit HY.out.1 hR.out.1 (by rw [HY.out.2]; unfold lbK; rw [if_pos hl]; omega)
              have h1 : lbK y = 1 := by unfold lbK; rw [if_pos hl]
              rw [HK.out, hh, HY.out.2, h1]
              rfl
            have HB : Hid (Below w.heap.size w wr) := hR.out.2.bl
            clear hR
            by_cases hl0 : y.l < 0
            · go_wp2
              go_returns
              exact ⟨by rw [HK1.out]; rfl, HB.out⟩
            · have hl1 : (15 : Int) < y.l := by omega
              go_wp2
              go_returns
              exact ⟨by rw [HK1.out]; rfl, HB.out⟩
          · have hl0 : ¬ y.l < 0 := by omega
            have hl1 : ¬ (15 : Int) < y.l := by omega
            have HLB : Hid (lbK y = bfK y.b) := by unfold Hid lbK; rw [if_neg hl]
            obtain ⟨t, ht⟩ : ∃ t, t = bfK y.b := ⟨_, rfl⟩
            have hbox := fun w => spec_box y.b w
            rw [← ht] at hbox
            have HT : Hid (t = bfK y.b) := ht
            clear ht hl
            go_wp2_with (fail)
            refine (hbox _).mono ?_
            rintro e w2 ⟨rfl, hb2⟩
            have HL2 : Hid (LC w w2 r) := hR.out.2.next hb2
            obtain ⟨p0', p1', p2', plt'⟩ := three_at HL2.out.c
            clear hb2 p0 p1 p2 c0 c1 c2 c3 c4
            by_cases ht0 : t = 0
            · have HN : Hid (firstOf lbK (x.bs.drop (k + 1)) = firstOf lbK x.bs) := firstOf_miss HY.out.1 hR.out.1 (by rw [HY.out.2, HLB.out, ← HT.out]; exact ht0)
              subst ht0
              clear hR
              go_wp2
              go_roundw
              case rel => exact ⟨k + 1, by go_num, by omega, HN.out, HL2.out⟩
              case measure => simp [intOf]; omega
            · have HK1 : Hid (K = t) := by
                unfold Hid
                have hh := firstOf_hit HY.out.1 hR.out.1 (by rw [HY.out.2, HLB.out, ← HT.out]; exact ht0)
                rw [HK.out, hh, HY.out.2, HLB.out, ← HT.out, if_neg ht0]
              clear hR
              go_wp2
              go_returns
              exact ⟨by rw [HK1.out]; rfl, HL2.out.bl⟩
        · have HK2 : Hid (K = firstOf (fun p => plK (ahB s n p.c) p) x.ps) := by
            unfold Hid
            rw [HK.out, if_pos (firstOf_end (by rw [← HBN.out.1]; omega) hR.out.1)]
          have HL1 : Hid (LC w wr r) := hR.out.2
          clear hR HK
          go_wp2
          obtain ⟨wq, hwq⟩ : ∃ wq, wq = wr := ⟨_, rfl⟩
          rw [← hwq] at HL1 p0 p1 p2 plt ⊢
          clear hwq
          go_loopw [9] (fun i wr => ∃ k : Nat, i = .int .i64 k ∧ k ≤ r.pn ∧ Hid (firstOf (fun p => plK (ahB s n p.c) p) (x.ps.drop k) = firstOf (fun p => plK (ahB s n p.c) p) x.ps ∧ LC w wr r)) (fun i _ => 2000000 - (intOf i).toNat)
          case atStart => exact ⟨0, rfl, Nat.zero_le _, rfl, HL1.out⟩
          case round =>
            clear p0 p1 p2 plt HL1
            obtain ⟨k, rfl, hk, hR⟩ := hrel
            obtain ⟨p0, p1, p2, plt⟩ := three_at hR.out.2.c
            by_cases hlt : k < r.pn
            · have hkx : k < x.ps.length := by rw [← HBN.out.2]; exact hlt
              obtain ⟨bg, bo, bc2, hbe, hbg, hbj⟩ := (H.out.1.ps.below hR.out.2.bl).pos (by omega)
              simp only [Value.slice.injEq] at hbe
              obtain ⟨hba, hx1, hx2⟩ := hbe
              rw [hba] at p2
              obtain ⟨c0, c1, c2, c3, c4, c5, c6, c7, c8⟩ := plC_at (hbj k hkx)
              obtain ⟨y, hy⟩ : ∃ y, y = x.ps[k] := ⟨_, rfl⟩
              rw [← hy] at c0 c1 c2 c3 c4 c5 c6 c7 c8
              have HY : Hid (k < x.ps.length ∧ x.ps[k] = y) := ⟨hkx, by rw [hy]⟩
              clear hx1 hx2 hbj hy hba
              have d0 : (0 : Int) ≤ (k : Int) := by omega
              have d1 : (k : Int) < (r.pn : Int) := by omega
              obtain ⟨t, ht⟩ : ∃ t, t = plK (ahB s n y.c) y := ⟨_, rfl⟩
              have hplc := HPL.out wr y hR.out.2.bl
              rw [← ht] at hplc
              have HPC : Hid (Calls Tryd.prog 34 #[.slice (some ⟨g, o, none⟩) m c, .int .i64 (n : Int), .agg #[.string y.c, .int .i64 y.x, .int .i64 y.y, .int .i64 y.t, .bool y.f, .int .i64 y.nx, .int .i64 y.ny, .int .i64 y.dx, .int .i64 y.dy]] wr fun e w' => e = .returned (.int .i64 t) ∧ Below wr.heap.size wr w') := hplc
              have HT : Hid (t = plK (ahB s n y.c) y) := ht
              clear ht hplc
              go_wp2_with (fail)
              refine HPC.out.mono ?_
              rintro e w2 ⟨rfl, hb2⟩
              have HL2 : Hid (LC w w2 r) := hR.out.2.next hb2
              obtain ⟨p0', p1', p2', plt'⟩ := three_at HL2.out.c
              clear hb2 p0 p1 p2 c0 c1 c2 c3 c4 c5 c6 c7 c8 HPC
              by_cases ht0 : t = 0
              · have HN : Hid (firstOf (fun p => plK (ahB s n p.c) p) (x.ps.drop (k + 1)) = firstOf (fun p => plK (ahB s n p.c) p) x.ps) := firstOf_miss HY.out.1 hR.out.1 (by show plK (ahB s n x.ps[k].c) x.ps[k] = 0; rw [HY.out.2, ← HT.out]; exact ht0)
                subst ht0
                clear hR
                go_wp2
                go_roundw
                case rel => exact ⟨k + 1, by go_num, by omega, HN.out, HL2.out⟩
                case measure => simp [intOf]; omega
              · have HK1 : Hid (K = t) := by
                  unfold Hid
                  have hh := firstOf_hit HY.out.1 hR.out.1 (by show ¬ plK (ahB s n x.ps[k].c) x.ps[k] = 0; rw [HY.out.2, ← HT.out]; exact ht0)
                  rw [HK2.out, hh]
                  show plK (ahB s n x.ps[k].c) x.ps[k] = t
                  rw [HY.out.2, ← HT.out]
                clear hR
                go_wp2
                go_returns
                exact ⟨by rw [HK1.out]; rfl, HL2.out.bl⟩
            · have HK1 : Hid (K = 0) := by
                unfold Hid
                rw [HK2.out, firstOf_end (by rw [← HBN.out.2]; omega) hR.out.1]
              have HB : Hid (Below w.heap.size w wr) := hR.out.2.bl
              clear hR
              go_wp2
              go_returns
              exact ⟨by rw [HK1.out]; rfl, HB.out⟩

set_option maxHeartbeats 1600000 in
theorem spec_lib (a : Option Addr) (m c : Nat) (s : List Cl) (w : World) (hm : m ≤ 2000000) (h : RK w (.slice a m c) s) (hsm : ∀ j (h : j < s.length), smC 1048576 s[j]) :
    Calls Tryd.prog 10 #[.slice a m c] w fun e w' => e = .returned (.int .i64 (libK s)) ∧ Below w.heap.size w w' := by
  have hms : m = s.length := by obtain ⟨rs, hrs, hrel⟩ := h; exact hrs.len.trans hrel.len
  have H : Hid (RK w (.slice a m c) s ∧ m = s.length ∧ ∀ j (h : j < s.length), smC 1048576 s[j]) := ⟨h, hms, hsm⟩
  obtain ⟨K, hK⟩ : ∃ K, K = libK s := ⟨_, rfl⟩
  rw [← hK]
  by_cases h20 : (20 : Int) < (m : Int)
  · have HK : Hid (K = 2) := by unfold Hid; rw [hK]; unfold libK; rw [if_pos (by omega)]
    clear h hsm hms hK
    go_enter Tryd.func10, Tryd.ntmps10
    go_wp2
    go_returns
    exact ⟨by rw [HK.out]; rfl, Below.refl _ _⟩
  · have HK : Hid (K = libR s 0 s.length) := by unfold Hid; rw [hK]; unfold libK; rw [if_neg (by omega)]
    clear h hsm hms hK
    go_enter Tryd.func10, Tryd.ntmps10
    go_wp2
    go_loopw [3] (fun i wr => ∃ k : Nat, i = .int .i64 k ∧ k ≤ m ∧ Hid (libR s k (s.length - k) = K ∧ Below w.heap.size w wr)) (fun i _ => m - (intOf i).toNat)
    case atStart => exact ⟨0, rfl, Nat.zero_le _, HK.out.symm, Below.refl _ _⟩
    case round =>
      obtain ⟨k, rfl, hk, hR⟩ := hrel
      by_cases hlt : k < m
      · have hks : k < s.length := by rw [← H.out.2.1]; exact hlt
        obtain ⟨t, ht⟩ : ∃ t, t = clK (ahB s k) s[k] := ⟨_, rfl⟩
        have hc := spec_cell a m c k s wr hm hlt hks (H.out.1.below hR.out.2) (H.out.2.2 k hks)
        rw [← ht] at hc
        have HC : Hid (Calls Tryd.prog 21 #[.slice a m c, .int .i64 (k : Int)] wr fun e w' => e = .returned (.int .i64 t) ∧ Below wr.heap.size wr w') := hc
        have HT : Hid (t = clK (ahB s k) s[k] ∧ k < s.length) := ⟨ht, hks⟩
        clear hc ht
        have d1 : (k : Int) < (m : Int) := by omega
        go_wp2_with (fail)
        refine HC.out.mono ?_
        rintro e w2 ⟨rfl, hb2⟩
        have HB : Hid (Below w.heap.size w w2) := hR.out.2.trans (hb2.mono hR.out.2.size)
        clear hb2 HC
        by_cases ht0 : t = 0
        · have HN : Hid (libR s (k + 1) (s.length - (k + 1)) = K) := by
            unfold Hid
            rw [← libR_miss HT.out.2 rfl (by rw [← HT.out.1]; exact ht0)]
            exact hR.out.1
          subst ht0
          clear hR
          go_wp2
          go_roundw
          case rel => exact ⟨k + 1, by go_num, by omega, HN.out, HB.out⟩
          case measure => simp [intOf]; omega
        · have HN : Hid (K = t) := by
            unfold Hid
            exact hR.out.1.symm.trans ((libR_hit HT.out.2 rfl (by rw [← HT.out.1]; exact ht0)).trans HT.out.1.symm)
          clear hR
          go_wp2
          go_returns
          exact ⟨by rw [HN.out]; rfl, HB.out⟩
      · have HN : Hid (K = 0 ∧ Below w.heap.size w wr) := ⟨by rw [← hR.out.1]; exact libR_end (by rw [← H.out.2.1]; omega), hR.out.2⟩
        clear hR
        go_wp2
        go_returns
        exact ⟨by rw [HN.out.1]; rfl, HN.out.2⟩

end Go.Proofs.YtafghanpfnhkpaaDoor
