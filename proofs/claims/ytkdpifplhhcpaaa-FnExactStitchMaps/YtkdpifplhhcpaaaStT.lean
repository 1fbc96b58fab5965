/- Proved here: StitchMaps of the model. -/
import Derived.Test.YtkdpifplhhcpaaaStS
import Derived.Test.YtkdpifplhhcpaaaStD
import Derived.Test.YtkdpifplhhcpaaaReg
import Derived.Test.YtkdpifplhhcpaaaCeQ
import Derived.BigQuiet
import Derived.Deep.Cut
namespace Go.Proofs.Ytkdpifplhhcpaaa
open Go.RowKit
set_option linter.unusedVariables false
set_option linter.unusedSimpArgs false

theorem RI.boxedS {w : World} {B k n : Nat} {v : Value} {L : List (List Int)} {vs : List Value} (h : RI w B v L vs) (hk : k < B) (u0 u1 : Value) : RI ((w.setCell ⟨k, 0, none⟩ u0).setCell ⟨k, 1, none⟩ u1) B v L vs := by
  refine h.kept (fun q hq => ?_) (fun i hi q hq => ?_)
  · have h9 := (rowBlk h.o hq).1
    rw [heap_setCell_other _ _ _ _ (by simp; omega), heap_setCell_other _ _ _ _ (by simp; omega)]
  · have h9 := (rowBlk (h.bx i hi) hq).1
    rw [heap_setCell_other _ _ _ _ (by simp; omega), heap_setCell_other _ _ _ _ (by simp; omega)]
set_option maxHeartbeats 800000 in
theorem spec_mx23 (a b : Int) (w : World) : Calls Try.prog 59 #[.int .i64 a, .int .i64 b] w fun e w' => e = .returned (.int .i64 (max a b)) ∧ w' = w := by
  rcases (by omega : b < a ∨ a = b ∨ a < b) with h | h | h
  · rw [show max a b = a by omega]
    go_enter Try.func59, Try.ntmps59
    go_wp2
    go_returns
    exact ⟨rfl, rfl⟩
  · subst h
    rw [show max a a = a by omega]
    go_enter Try.func59, Try.ntmps59
    go_wp2
    go_returns
    exact ⟨rfl, rfl⟩
  · rw [show max a b = b by omega]
    go_enter Try.func59, Try.ntmps59
    go_wp2
    go_returns
    exact ⟨rfl, rfl⟩
theorem stC23 {w : World} {a p : Addr} {u : Value} (h : p.block ≠ a.block) : (w.setCell a u).cell? p = w.cell? p := by
  unfold World.cell?
  rw [heap_setCell_other _ _ _ _ h]

set_option maxRecDepth 10000 in
set_option maxHeartbeats 25600000 in
theorem spec_st {W : World} {va vb : Value} {la lb : List (List Int)} (hna : SmR la) (ha : RdR W va la) (hnb : SmR lb) (hb : RdR W vb lb) :
    Calls Try.prog 33 #[va, vb] W fun e w' => ∃ v vs, e = .returned (.agg #[.int .i64 (stC la lb), v]) ∧ RI w' W.heap.size v (stL la lb) vs ∧ Below W.heap.size W w' := by
  obtain ⟨a, c, rfl⟩ := ha.form
  obtain ⟨b, d, rfl⟩ := hb.form
  obtain ⟨Z, hZ⟩ : ∃ Z, Z = W.alloc (.cells #[.int .i64 0, .slice none 0 0] 55) := ⟨_, rfl⟩
  have HZ : Hid (Below W.heap.size W Z ∧ Z.heap[W.heap.size]? = some (.cells #[.int .i64 0, .slice none 0 0] 55)) := by rw [hZ]; exact ⟨by (repeat' (first | (with_reducible exact Below.refl _ _) | (with_reducible assumption) | (with_reducible refine Below.setCell ?_ ?_ _) | (with_reducible refine Below.alloc ?_ ?_ _) | (with_reducible refine below_drewN ?_ _) | (with_reducible refine Below.drew ?_) | (with_reducible exact Nat.le_refl _) | omega | (simp; done) | (simp; omega))), heap_alloc_new _ _⟩
  obtain ⟨n, hnn⟩ : ∃ n, n = la.length := ⟨_, rfl⟩
  obtain ⟨k, hkk⟩ : ∃ k, k = lb.length := ⟨_, rfl⟩
  rw [← hnn] at ha ⊢
  rw [← hkk] at hb ⊢
  have hn20 : n ≤ 1048576 := by rw [hnn]; exact hna.len
  have hk20 : k ≤ 1048576 := by rw [hkk]; exact hnb.len
  have H : Hid (RdR W (.slice a n c) la ∧ RdR W (.slice b k d) lb ∧ n = la.length ∧ k = lb.length) := ⟨ha, hb, hnn, hkk⟩
  obtain ⟨fa, hfa⟩ : ∃ f, f = smF la := ⟨_, rfl⟩
  obtain ⟨fb, hfb⟩ : ∃ f, f = smF lb := ⟨_, rfl⟩
  obtain ⟨C, hC⟩ : ∃ C, C = stC la lb := ⟨_, rfl⟩
  have HC : Hid (C = (if fa ≠ 0 then fa else if fb ≠ 0 then fb else if n ≠ k ∨ (la.getD 0 []).length ≠ (lb.getD 0 []).length then 1 else if cfA la lb = true then 7 else 0) ∧ C = stC la lb) := ⟨by rw [hC, stC, hfa, hfb, hnn, hkk], hC⟩
  have HFA : Hid (∀ X, Below W.heap.size W X → Calls Try.prog 57 #[.slice a n c] X fun e w' => e = .returned (.int .i64 fa) ∧ Below X.heap.size X w') := fun X hx => by rw [hfa]; exact spec_smf hna (ha.below hx)
  have HFB : Hid (∀ X, Below W.heap.size W X → Calls Try.prog 57 #[.slice b k d] X fun e w' => e = .returned (.int .i64 fb) ∧ Below X.heap.size X w') := fun X hx => by rw [hfb]; exact spec_smf hnb (hb.below hx)
  have HS : Hid (SmR la ∧ SmR lb ∧ (fa = 0 → GM la) ∧ (fb = 0 → GM lb)) := ⟨hna, hnb, fun h => smF_ok (hfa.symm.trans h), fun h => smF_ok (hfb.symm.trans h)⟩
  have HNL : Hid (C ≠ 0 → stL la lb = []) := fun h => stL_no (by rw [← hC]; exact h)
  rw [← hC]
  clear hC hfa hfb ha hb hnn hkk hna hnb
  go_enter Try.func33, Try.ntmps33
  go_wp2_with (fail)
  rw [← hZ]
  refine (HFA.out Z HZ.out.1).mono ?_
  rintro e w1 ⟨rfl, hb1⟩
  have HW : Hid (Below W.heap.size W w1 ∧ w1.heap[W.heap.size]? = some (.cells #[.int .i64 0, .slice none 0 0] 55)) := ⟨HZ.out.1.trans (hb1.mono HZ.out.1.size), by rw [hb1.block _ (ltOfQ HZ.out.2)]; exact HZ.out.2⟩
  clear hb1 HFA HZ hZ
  by_cases hfa : fa = 0
  case neg =>
    have h1 : (fa != 0) = true := by simpa using hfa
    have HN : Hid (C = fa) := by unfold Hid; rw [HC.out.1, if_pos hfa]
    have HL : Hid (stL la lb = []) := HNL.out (by rw [HN.out]; exact hfa)
    have z0 := cellOfQ HW.out.2 0 rfl
    have z1 := cellOfQ HW.out.2 1 rfl
    have zl := ltOfQ HW.out.2
    have f0 := frozOfQ HW.out.2 0
    have f1 := frozOfQ HW.out.2 1
    have HB : Hid (Below W.heap.size W w1) := HW.out.1
    clear HC
    go_wp2
    try simp only [Exit.inBlock, Exit.then]
    refine bodyPost_ret (by simp [results, Try.results33, go_sem, z0, z1, zl, f0, f1]; try rfl) rfl ⟨_, [], by rw [HN.out], by rw [HL.out]; exact RI.nil _ _, (HB.out.setCell (Nat.le_refl _) _).setCell (Nat.le_refl _) _⟩
  have HC1 : Hid (C = if fb ≠ 0 then fb else if n ≠ k ∨ (la.getD 0 []).length ≠ (lb.getD 0 []).length then 1 else if cfA la lb = true then 7 else 0) := by unfold Hid; rw [HC.out.1, if_neg (fun h => h hfa)]
  have HC9 : Hid (C = stC la lb) := HC.out.2
  have HGA : Hid (GM la) := HS.out.2.2.1 hfa
  subst hfa
  clear HC
  go_wp2_with (fail)
  refine (HFB.out w1 HW.out.1).mono ?_
  rintro e w2 ⟨rfl, hb2⟩
  have HW2 : Hid (Below W.heap.size W w2 ∧ w2.heap[W.heap.size]? = some (.cells #[.int .i64 0, .slice none 0 0] 55)) := ⟨HW.out.1.trans (hb2.mono HW.out.1.size), by rw [hb2.block _ (ltOfQ HW.out.2)]; exact HW.out.2⟩
  clear hb2 HFB HW
  by_cases hfb : fb = 0
  case neg =>
    have h1 : (fb != 0) = true := by simpa using hfb
    have HN : Hid (C = fb) := by unfold Hid; rw [HC1.out, if_pos hfb]
    have HL : Hid (stL la lb = []) := HNL.out (by rw [HN.out]; exact hfb)
    have z0 := cellOfQ HW2.out.2 0 rfl
    have z1 := cellOfQ HW2.out.2 1 rfl
    have zl := ltOfQ HW2.out.2
    have f0 := frozOfQ HW2.out.2 0
    have f1 := frozOfQ HW2.out.2 1
    have HB : Hid (Below W.heap.size W w2) := HW2.out.1
    clear HC1
    go_wp2
    try simp only [Exit.inBlock, Exit.then]
    refine bodyPost_ret (by simp [results, Try.results33, go_sem, z0, z1, zl, f0, f1]; try rfl) rfl ⟨_, [], by rw [HN.out], by rw [HL.out]; exact RI.nil _ _, (HB.out.setCell (Nat.le_refl _) _).setCell (Nat.le_refl _) _⟩
  have HC2 : Hid (C = if n ≠ k ∨ (la.getD 0 []).length ≠ (lb.getD 0 []).length then 1 else if cfA la lb = true then 7 else 0) := by unfold Hid; rw [HC1.out, if_neg (fun h => h hfb)]
  have HGB : Hid (GM lb) := HS.out.2.2.2 hfb
  subst hfb
  clear HC1
  have hn0 : 0 < n := by rw [H.out.2.2.1]; exact HGA.out.h0
  have hk0 : 0 < k := by rw [H.out.2.2.2]; exact HGB.out.h0
  obtain ⟨g9, o9, ra, ma, e1, rfl, hg9, r0, hma, _⟩ := (H.out.1.below HW2.out.1).at hn0
  obtain ⟨g9', o9', rb, mb, e1', rfl, hg9', r0', hmb, _⟩ := (H.out.2.1.below HW2.out.1).at hk0
  rw [Nat.add_zero] at r0 r0'
  have hm20 : ma ≤ 1048576 := by rw [hma]; exact HS.out.1.row 0
  have hm20' : mb ≤ 1048576 := by rw [hmb]; exact HS.out.2.1.row 0
  have HMW : Hid (ma = (la.getD 0 []).length ∧ mb = (lb.getD 0 []).length) := ⟨hma, hmb⟩
  rw [← hma, ← hmb] at HC2
  have bn : (0 : Int) < (n : Int) := by omega
  have bk : (0 : Int) < (k : Int) := by omega
  clear hma hmb
  have HBD : Hid (∀ j, Below W.heap.size W (w2.drewN j)) := fun j => below_drewN HW2.out.1 j
  by_cases hnk : n = k
  case neg =>
    have h1 : ¬ (n : Int) = (k : Int) := by omega
    have h1b : ((n : Int) != (k : Int)) = true := by simpa using h1
    have HN : Hid (C = 1) := by unfold Hid; rw [HC2.out, if_pos (Or.inl hnk)]
    have HL : Hid (stL la lb = []) := HNL.out (by rw [HN.out]; decide)
    have z0 := cellOfQ HW2.out.2 0 rfl
    have z1 := cellOfQ HW2.out.2 1 rfl
    have zl := ltOfQ HW2.out.2
    have f0 := frozOfQ HW2.out.2 0
    have f1 := frozOfQ HW2.out.2 1
    clear HC2
    go_wp2
    go_quiet (fail)
    go_wp2
    try simp only [Exit.inBlock, Exit.then]
    refine bodyPost_ret (by simp [results, Try.results33, go_sem, z0, z1, zl, f0, f1]; try rfl) rfl ⟨_, [], by rw [HN.out], by rw [HL.out]; exact RI.nil _ _, (HBD.out _ |>.setCell (Nat.le_refl _) _).setCell (Nat.le_refl _) _⟩
  have hnki : ((n : Int) != (k : Int)) = false := by simp [hnk]
  by_cases hmm : ma = mb
  case neg =>
    have h1 : ¬ (ma : Int) = (mb : Int) := by omega
    have h1b : ((ma : Int) != (mb : Int)) = true := by simpa using h1
    have HN : Hid (C = 1) := by unfold Hid; rw [HC2.out, if_pos (Or.inr hmm)]
    have HL : Hid (stL la lb = []) := HNL.out (by rw [HN.out]; decide)
    have z0 := cellOfQ HW2.out.2 0 rfl
    have z1 := cellOfQ HW2.out.2 1 rfl
    have zl := ltOfQ HW2.out.2
    have f0 := frozOfQ HW2.out.2 0
    have f1 := frozOfQ HW2.out.2 1
    clear HC2
    subst hnk
    go_wp2
    go_quiet (fail)
    go_wp2
    try simp only [Exit.inBlock, Exit.then]
    refine bodyPost_ret (by simp [results, Try.results33, go_sem, z0, z1, zl, f0, f1]; try rfl) rfl ⟨_, [], by rw [HN.out], by rw [HL.out]; exact RI.nil _ _, (HBD.out _ |>.setCell (Nat.le_refl _) _).setCell (Nat.le_refl _) _⟩
  have HC3 : Hid (C = if cfA la lb = true then 7 else 0) := by unfold Hid; rw [HC2.out, if_neg (by omega)]
  have hmmi : ((ma : Int) != (mb : Int)) = false := by simp [hmm]
  subst hnk hmm
  clear HC2
  have HWd : Hid ((∀ j, j < n → (la.getD j []).length = ma ∧ (lb.getD j []).length = ma) ∧ 0 < ma ∧ ma ≤ 20) := ⟨fun j hj => ⟨by rw [HGA.out.row (by rw [← H.out.2.2.1]; exact hj), HMW.out.1], by rw [HGB.out.row (by rw [← H.out.2.2.2]; exact hj), HMW.out.2]⟩, by rw [HMW.out.1]; exact HGA.out.w0, by rw [HMW.out.1]; exact HGA.out.w1⟩
  have hW20 : ma ≤ 20 := HWd.out.2.2
  have hN20 : n ≤ 20 := by rw [H.out.2.2.1]; exact HGA.out.h1
  have HCP : Hid (∀ j, Calls Try.prog 58 #[.slice (some ⟨g9, o9, none⟩) n c] (w2.drewN j) fun e w' => ∃ v' vs, e = .returned v' ∧ RI w' (w2.drewN j).heap.size v' la vs ∧ Below (w2.drewN j).heap.size (w2.drewN j) w') := fun j => spec_copyM HGA.out (H.out.1.below (HBD.out j))
  have HB2 : Hid (∀ j, (w2.drewN j).heap.size = w2.heap.size ∧ (w2.drewN j).heap[W.heap.size]? = w2.heap[W.heap.size]?) := fun j => ⟨rfl, rfl⟩
  go_wp2
  go_quiet (fail)
  go_wp2_with (fail)
  refine (HCP.out _).mono ?_
  rintro e w3 ⟨v', vs3, rfl, hri, hb3⟩
  obtain ⟨g, oc, rfl, hBg0, _, _⟩ := hri.pos (by rw [← H.out.2.2.1]; exact hn0)
  rw [(HB2.out _).1] at hri
  rw [← H.out.2.2.1] at hri ⊢
  obtain ⟨B, hB⟩ : ∃ B, B = w2.heap.size := ⟨_, rfl⟩
  have hWB : W.heap.size < B := by rw [hB]; exact ltOfQ HW2.out.2
  have HV : Hid (Below W.heap.size W w3 ∧ w3.heap[W.heap.size]? = some (.cells #[.int .i64 0, .slice none 0 0] 55) ∧ ∃ L vs, GV w3 B g n oc ma L vs ∧ SJ23 la lb L 0 0) := ⟨(HBD.out _).trans (hb3.mono (HBD.out _).size), by rw [hb3.block _ (ltOfQ HW2.out.2)]; exact HW2.out.2, la, vs3, ⟨by rw [hB]; exact hri, by rw [H.out.2.2.1, HMW.out.1]; exact HGA.out.sh, HWd.out.2.1⟩, SJ23.start HGA.out⟩
  clear hri hb3 HCP HW2 hB HBD HB2 hg9 hg9' r0 r0' hBg0
  go_wp2
  go_loopw [8] (fun i wr => ∃ t : Nat, t ≤ n ∧ i = .int .i64 t ∧ Hid (Below W.heap.size W wr ∧ wr.heap[W.heap.size]? = some (.cells #[.int .i64 0, .slice none 0 0] 55) ∧ ∃ L vs, GV wr B g n oc ma L vs ∧ SJ23 la lb L t 0)) (fun i _ => n - (intOf i).toNat)
  case atStart => exact ⟨0, Nat.zero_le _, rfl, HV.out⟩
  case round =>
    clear HV
    obtain ⟨t, ht, rfl, hR⟩ := hrel
    by_cases hlt : t < n
    · have HV2 : Hid (Below W.heap.size W wr ∧ wr.heap[W.heap.size]? = some (.cells #[.int .i64 0, .slice none 0 0] 55) ∧ ∃ L vs, GV wr B g n oc ma L vs ∧ SJ23 la lb L t 0) := hR.out
      have htl : t < la.length := by rw [← H.out.2.2.1]; exact hlt
      clear hR
      have b0 : (0 : Int) ≤ (t : Int) := by omega
      have b1 : (t : Int) < (n : Int) := by omega
      go_wp2
      go_loopw [9] (fun i wr => ∃ m : Nat, m ≤ ma ∧ i = .int .i64 m ∧ Hid (Below W.heap.size W wr ∧ wr.heap[W.heap.size]? = some (.cells #[.int .i64 0, .slice none 0 0] 55) ∧ ∃ L vs, GV wr B g n oc ma L vs ∧ SJ23 la lb L t m)) (fun i _ => ma - (intOf i).toNat)
      case atStart => exact ⟨0, Nat.zero_le _, rfl, HV2.out⟩
      case round =>
        clear HV2
        obtain ⟨m, hm, rfl, hR⟩ := hrel
        obtain ⟨L, vs, hgv, hsj⟩ := hR.out.2.2
        obtain ⟨qa, qo, ua, un, uc, hea, hga, a0, hun, hrda⟩ := H.out.1.at hlt
        simp only [Option.some.injEq, Addr.mk.injEq, and_true] at hea
        obtain ⟨rfl, rfl⟩ := hea
        obtain rfl : un = ma := by rw [hun]; exact (HWd.out.1 t hlt).1
        have ca := (hR.out.1.cell (p := ⟨g9, o9 + t, none⟩) hga).trans a0
        have hgaw : g9 < wr.heap.size := Nat.lt_of_lt_of_le hga hR.out.1.size
        by_cases hmu : m < un
        · obtain ⟨qb, qo', ub, un', uc', heb, hgb, b0', hun', hrdb⟩ := H.out.2.1.at hlt
          simp only [Option.some.injEq, Addr.mk.injEq, and_true] at heb
          obtain ⟨rfl, rfl⟩ := heb
          obtain rfl : un' = un := by rw [hun']; exact (HWd.out.1 t hlt).2
          have cb := (hR.out.1.cell (p := ⟨g9', o9' + t, none⟩) hgb).trans b0'
          have hgbw : g9' < wr.heap.size := Nat.lt_of_lt_of_le hgb hR.out.1.size
          obtain ⟨gx, ox, rfl, hgx, x0'⟩ := rd_at hrda hmu
          obtain ⟨gy, oy, rfl, hgy, y0'⟩ := rd_at hrdb hmu
          obtain ⟨x, hx⟩ : ∃ x, x = at2 la t m := ⟨_, rfl⟩
          obtain ⟨y, hy⟩ : ∃ y, y = at2 lb t m := ⟨_, rfl⟩
          have x0 : wr.cell? ⟨gx, ox + m, none⟩ = some (.int .i64 x) := by rw [hx]; exact (hR.out.1.cell (p := ⟨gx, ox + m, none⟩) hgx).trans x0'
          have y0 : wr.cell? ⟨gy, oy + m, none⟩ = some (.int .i64 y) := by rw [hy]; exact (hR.out.1.cell (p := ⟨gy, oy + m, none⟩) hgy).trans y0'
          have hgxw : gx < wr.heap.size := Nat.lt_of_lt_of_le hgx hR.out.1.size
          have hgyw : gy < wr.heap.size := Nat.lt_of_lt_of_le hgy hR.out.1.size
          have hmw : m < (la.getD 0 []).length := by rw [← HMW.out.1]; exact hmu
          obtain ⟨gj, cj, hr, r0, hgl, hgjl, hBj, hBg, hne, hcell⟩ := hgv.at hlt
          obtain ⟨z0', zf⟩ := hcell m hmu
          have hLW : Hid (g9 < W.heap.size ∧ g9' < W.heap.size ∧ gx < W.heap.size ∧ gy < W.heap.size) := ⟨hga, hgb, hgx, hgy⟩
          have HCF : Hid (cfB (at2 la t m) (at2 lb t m) = cfB x y ∧ (cfB x y = true → cfA la lb = true)) := ⟨by rw [hx, hy], fun h => cfA_true htl hmw (by rw [← hx, ← hy]; exact h)⟩
          have HG : Hid (GV wr B g n oc un' L vs ∧ SJ23 la lb L t m ∧ rat vs t = .slice (some ⟨gj, 0, none⟩) un' cj ∧ m < (la.getD 0 []).length ∧ x = at2 la t m ∧ y = at2 lb t m ∧ 0 ≤ at2 la t m ∧ 0 ≤ at2 lb t m) := ⟨hgv, hsj, hr, hmw, hx, hy, (HGA.out.at htl hmw).1, (HGB.out.at (by rw [← H.out.2.2.2]; exact hlt) (by rw [← HMW.out.2]; exact hmu)).1⟩
          have HBW : Hid (Below W.heap.size W wr ∧ wr.heap[W.heap.size]? = some (.cells #[.int .i64 0, .slice none 0 0] 55)) := ⟨hR.out.1, hR.out.2.1⟩
          have HBD : Hid (∀ j, Below W.heap.size W (wr.drewN j)) := fun j => below_drewN HBW.out.1 j
          obtain ⟨zz, hzz⟩ : ∃ zz, zz = at2 L t m := ⟨_, rfl⟩
          rw [← hzz] at z0'
          clear hR hgv hsj hcell x0' y0' hx hy hr hmw a0 b0' hrda hrdb hun hun' hga hgb hgx hgy hzz
          have b2 : (0 : Int) ≤ (m : Int) := by omega
          have b3 : (m : Int) < (un' : Int) := by omega
          cases hcf : cfB x y
          case true =>
            have HN : Hid (C = 7) := by unfold Hid; rw [HC3.out, if_pos (HCF.out.2 hcf)]
            have HL : Hid (stL la lb = []) := HNL.out (by rw [HN.out]; decide)
            have h9 : x ≠ 0 ∧ y ≠ 0 ∧ x ≠ y := by simpa [cfB, and_assoc] using hcf
            have g1 : (x != 0) = true := by simpa using h9.1
            have g2 : (y != 0) = true := by simpa using h9.2.1
            have g3 : (x != y) = true := by simpa using h9.2.2
            have z0 := cellOfQ HBW.out.2 0 rfl
            have z1 := cellOfQ HBW.out.2 1 rfl
            have zl := ltOfQ HBW.out.2
            have f0 := frozOfQ HBW.out.2 0
            have f1 := frozOfQ HBW.out.2 1
            clear HG HCF hcf
            go_wp2
            go_quiet (fail)
            go_wp2
            try simp only [Exit.inBlock, Exit.then]
            refine bodyPost_ret (by simp [results, Try.results33, go_sem, z0, z1, zl, f0, f1]; try rfl) rfl ⟨_, [], by rw [HN.out], by rw [HL.out]; exact RI.nil _ _, (HBD.out _ |>.setCell (Nat.le_refl _) _).setCell (Nat.le_refl _) _⟩
          have HPa : Hid (∀ w', (∃ j, w' = wr.drewN j) → (Below W.heap.size W (w'.setCell ⟨gj, m, none⟩ (.int .i64 (max x y))).drew ∧ (w'.setCell ⟨gj, m, none⟩ (.int .i64 (max x y))).drew.heap[W.heap.size]? = some (.cells #[.int .i64 0, .slice none 0 0] 55) ∧ ∃ L vs, GV (w'.setCell ⟨gj, m, none⟩ (.int .i64 (max x y))).drew B g n oc un' L vs ∧ SJ23 la lb L t (m + 1))) := by
            rintro w' ⟨j, rfl⟩
            have h9 : mgI (at2 la t m) (at2 lb t m) = max x y := by rw [mgI_max HG.out.2.2.2.2.2.2.1 HG.out.2.2.2.2.2.2.2 (by rw [HCF.out.1]; exact hcf), ← HG.out.2.2.2.2.1, ← HG.out.2.2.2.2.2.1]
            have h8 := HG.out.2.1.step htl HG.out.2.2.2.1 (by rw [HCF.out.1]; exact hcf)
            rw [h9] at h8
            have hbw : Below wr.heap.size wr (wr.drewN j) := below_drewN (Below.refl _ _) j
            have hgv9 := ((HG.out.1.below hbw).set hlt HG.out.2.2.1 m (max x y)).below (Below.drew (Below.refl _ _))
            refine ⟨Below.drew ((HBD.out j).setCell (by simp; omega) _), ?_, _, vs, hgv9, h8⟩
            rw [show ((wr.drewN j).setCell ⟨gj, m, none⟩ (.int .i64 (max x y))).drew.heap = ((wr.drewN j).setCell ⟨gj, m, none⟩ (.int .i64 (max x y))).heap from rfl, heap_setCell_other _ _ _ _ (by simp; omega), hbw.block _ (ltOfQ HBW.out.2)]; exact HBW.out.2
          have HCL : Hid (∀ w', (∃ j, w' = wr.drewN j) → w'.cell? ⟨g, t, none⟩ = some (.slice (some ⟨gj, 0, none⟩) un' cj) ∧ w'.cell? ⟨g9, o9 + t, none⟩ = some (.slice (some ⟨gx, ox, none⟩) un' uc) ∧ w'.cell? ⟨gx, ox + m, none⟩ = some (.int .i64 x) ∧ w'.cell? ⟨g9', o9' + t, none⟩ = some (.slice (some ⟨gy, oy, none⟩) un' uc') ∧ w'.cell? ⟨gy, oy + m, none⟩ = some (.int .i64 y) ∧ w'.cell? ⟨gj, m, none⟩ = some (.int .i64 zz) ∧ w'.frozen? ⟨gj, m, none⟩ = false ∧ gj < w'.heap.size) := by
            rintro w' ⟨j, rfl⟩
            exact ⟨r0, ca, x0, cb, y0, z0', zf, hgjl⟩
          have HMX : Hid (∀ X, Calls Try.prog 59 #[.int .i64 x, .int .i64 y] X fun e w' => e = .returned (.int .i64 (max x y)) ∧ w' = X) := fun X => spec_mx23 x y X
          have HARM : Hid ((x != 0) = false ∨ ((x != 0) = true ∧ (y != 0) = false) ∨ ((x != 0) = true ∧ (y != 0) = true ∧ (x != y) = false)) := by
            by_cases h1 : x = 0
            · exact Or.inl (by simp [h1])
            · by_cases h2 : y = 0
              · exact Or.inr (Or.inl ⟨by simpa using h1, by simp [h2]⟩)
              · refine Or.inr (Or.inr ⟨by simpa using h1, by simpa using h2, ?_⟩)
                have : x = y := by simpa [cfB, h1, h2] using hcf
                simp [this]
          clear HG HCF hcf
          rcases HARM.out with g1 | ⟨g1, g2⟩ | ⟨g1, g2, g3⟩
          all_goals
            clear HARM
            go_wp2
            go_quiet (fail)
            go_wp2_with (fail)
            obtain ⟨V5, hV5⟩ : ∃ V5, V5 = wr.drewN nq := ⟨_, rfl⟩
            rw [← hV5]
            have HP : Hid _ := HPa.out V5 ⟨nq, hV5⟩
            obtain ⟨s0, s1, s2, s3, s4, s5, s6, sl⟩ := HCL.out V5 ⟨nq, hV5⟩
            clear HPa HCL hV5 r0 ca x0 cb y0 z0' zf
            refine wp_region_holdsA (S := fun w' => w'.cell? ⟨g, t, none⟩ = some (.slice (some ⟨gj, 0, none⟩) un' cj) ∧ w'.cell? ⟨g9, o9 + t, none⟩ = some (.slice (some ⟨gx, ox, none⟩) un' uc) ∧ w'.cell? ⟨gx, ox + m, none⟩ = some (.int .i64 x) ∧ w'.cell? ⟨g9', o9' + t, none⟩ = some (.slice (some ⟨gy, oy, none⟩) un' uc') ∧ w'.cell? ⟨gy, oy + m, none⟩ = some (.int .i64 y)) (by kernel_rfl) ⟨s0, s1, s2, s3, s4⟩ (fun hS => ?_)
            refine fl_takeA (i := 0) (d := 92) (v := .slice (some ⟨g, 0, none⟩) n oc) rfl rfl rfl (by kernel_rfl) (by kernel_rfl) (by kernel_rfl) hS ?_ ?_
            · intro w' hk; obtain ⟨hk0, hk1, hk2, hk3, hk4⟩ := hk; go_simp
            simp only [Act.put, List.setIfInBounds_toArray, List.set_cons_zero, List.set_cons_succ]
            refine fl_takeA (i := 1) (d := 93) (v := .int .i64 t) rfl rfl rfl (by kernel_rfl) (by kernel_rfl) (by kernel_rfl) hS ?_ ?_
            · intro w' hk; obtain ⟨hk0, hk1, hk2, hk3, hk4⟩ := hk; go_simp
            simp only [Act.put, List.setIfInBounds_toArray, List.set_cons_zero, List.set_cons_succ]
            refine fl_takeA (i := 2) (d := 94) (v := .pointer (some ⟨g, t, none⟩)) rfl rfl rfl (by kernel_rfl) (by kernel_rfl) (by kernel_rfl) hS ?_ ?_
            · intro w' hk; obtain ⟨hk0, hk1, hk2, hk3, hk4⟩ := hk; go_simp
            simp only [Act.put, List.setIfInBounds_toArray, List.set_cons_zero, List.set_cons_succ]
            refine fl_takeA (i := 3) (d := 95) (v := .slice (some ⟨gj, 0, none⟩) un' cj) rfl rfl rfl (by kernel_rfl) (by kernel_rfl) (by kernel_rfl) hS ?_ ?_
            · intro w' hk; obtain ⟨hk0, hk1, hk2, hk3, hk4⟩ := hk; go_simp
            simp only [Act.put, List.setIfInBounds_toArray, List.set_cons_zero, List.set_cons_succ]
            refine fl_takeA (i := 4) (d := 96) (v := .int .i64 m) rfl rfl rfl (by kernel_rfl) (by kernel_rfl) (by kernel_rfl) hS ?_ ?_
            · intro w' hk; obtain ⟨hk0, hk1, hk2, hk3, hk4⟩ := hk; go_simp
            simp only [Act.put, List.setIfInBounds_toArray, List.set_cons_zero, List.set_cons_succ]
            refine fl_takeA (i := 5) (d := 97) (v := .slice (some ⟨g9, o9, none⟩) n c) rfl rfl rfl (by kernel_rfl) (by kernel_rfl) (by kernel_rfl) hS ?_ ?_
            · intro w' hk; obtain ⟨hk0, hk1, hk2, hk3, hk4⟩ := hk; go_simp
            simp only [Act.put, List.setIfInBounds_toArray, List.set_cons_zero, List.set_cons_succ]
            refine fl_takeA (i := 6) (d := 98) (v := .int .i64 t) rfl rfl rfl (by kernel_rfl) (by kernel_rfl) (by kernel_rfl) hS ?_ ?_
            · intro w' hk; obtain ⟨hk0, hk1, hk2, hk3, hk4⟩ := hk; go_simp
            simp only [Act.put, List.setIfInBounds_toArray, List.set_cons_zero, List.set_cons_succ]
            refine fl_takeA (i := 7) (d := 99) (v := .pointer (some ⟨g9, o9 + t, none⟩)) rfl rfl rfl (by kernel_rfl) (by kernel_rfl) (by kernel_rfl) hS ?_ ?_
            · intro w' hk; obtain ⟨hk0, hk1, hk2, hk3, hk4⟩ := hk; go_simp
            simp only [Act.put, List.setIfInBounds_toArray, List.set_cons_zero, List.set_cons_succ]
            refine fl_takeA (i := 8) (d := 100) (v := .slice (some ⟨gx, ox, none⟩) un' uc) rfl rfl rfl (by kernel_rfl) (by kernel_rfl) (by kernel_rfl) hS ?_ ?_
            · intro w' hk; obtain ⟨hk0, hk1, hk2, hk3, hk4⟩ := hk; go_simp
            simp only [Act.put, List.setIfInBounds_toArray, List.set_cons_zero, List.set_cons_succ]
            refine fl_takeA (i := 9) (d := 101) (v := .int .i64 m) rfl rfl rfl (by kernel_rfl) (by kernel_rfl) (by kernel_rfl) hS ?_ ?_
            · intro w' hk; obtain ⟨hk0, hk1, hk2, hk3, hk4⟩ := hk; go_simp
            simp only [Act.put, List.setIfInBounds_toArray, List.set_cons_zero, List.set_cons_succ]
            refine fl_takeA (i := 10) (d := 102) (v := .pointer (some ⟨gx, ox + m, none⟩)) rfl rfl rfl (by kernel_rfl) (by kernel_rfl) (by kernel_rfl) hS ?_ ?_
            · intro w' hk; obtain ⟨hk0, hk1, hk2, hk3, hk4⟩ := hk; go_simp
            simp only [Act.put, List.setIfInBounds_toArray, List.set_cons_zero, List.set_cons_succ]
            refine fl_takeA (i := 11) (d := 103) (v := .int .i64 x) rfl rfl rfl (by kernel_rfl) (by kernel_rfl) (by kernel_rfl) hS ?_ ?_
            · intro w' hk; obtain ⟨hk0, hk1, hk2, hk3, hk4⟩ := hk; go_simp
            simp only [Act.put, List.setIfInBounds_toArray, List.set_cons_zero, List.set_cons_succ]
            refine fl_takeA (i := 12) (d := 104) (v := .slice (some ⟨g9', o9', none⟩) n d) rfl rfl rfl (by kernel_rfl) (by kernel_rfl) (by kernel_rfl) hS ?_ ?_
            · intro w' hk; obtain ⟨hk0, hk1, hk2, hk3, hk4⟩ := hk; go_simp
            simp only [Act.put, List.setIfInBounds_toArray, List.set_cons_zero, List.set_cons_succ]
            refine fl_takeA (i := 13) (d := 105) (v := .int .i64 t) rfl rfl rfl (by kernel_rfl) (by kernel_rfl) (by kernel_rfl) hS ?_ ?_
            · intro w' hk; obtain ⟨hk0, hk1, hk2, hk3, hk4⟩ := hk; go_simp
            simp only [Act.put, List.setIfInBounds_toArray, List.set_cons_zero, List.set_cons_succ]
            refine fl_takeA (i := 14) (d := 106) (v := .pointer (some ⟨g9', o9' + t, none⟩)) rfl rfl rfl (by kernel_rfl) (by kernel_rfl) (by kernel_rfl) hS ?_ ?_
            · intro w' hk; obtain ⟨hk0, hk1, hk2, hk3, hk4⟩ := hk; go_simp
            simp only [Act.put, List.setIfInBounds_toArray, List.set_cons_zero, List.set_cons_succ]
            refine fl_takeA (i := 15) (d := 107) (v := .slice (some ⟨gy, oy, none⟩) un' uc') rfl rfl rfl (by kernel_rfl) (by kernel_rfl) (by kernel_rfl) hS ?_ ?_
            · intro w' hk; obtain ⟨hk0, hk1, hk2, hk3, hk4⟩ := hk; go_simp
            simp only [Act.put, List.setIfInBounds_toArray, List.set_cons_zero, List.set_cons_succ]
            refine fl_takeA (i := 16) (d := 108) (v := .int .i64 m) rfl rfl rfl (by kernel_rfl) (by kernel_rfl) (by kernel_rfl) hS ?_ ?_
            · intro w' hk; obtain ⟨hk0, hk1, hk2, hk3, hk4⟩ := hk; go_simp
            simp only [Act.put, List.setIfInBounds_toArray, List.set_cons_zero, List.set_cons_succ]
            refine fl_takeA (i := 17) (d := 109) (v := .pointer (some ⟨gy, oy + m, none⟩)) rfl rfl rfl (by kernel_rfl) (by kernel_rfl) (by kernel_rfl) hS ?_ ?_
            · intro w' hk; obtain ⟨hk0, hk1, hk2, hk3, hk4⟩ := hk; go_simp
            simp only [Act.put, List.setIfInBounds_toArray, List.set_cons_zero, List.set_cons_succ]
            refine fl_takeA (i := 18) (d := 110) (v := .int .i64 y) rfl rfl rfl (by kernel_rfl) (by kernel_rfl) (by kernel_rfl) hS ?_ ?_
            · intro w' hk; obtain ⟨hk0, hk1, hk2, hk3, hk4⟩ := hk; go_simp
            simp only [Act.put, List.setIfInBounds_toArray, List.set_cons_zero, List.set_cons_succ]
            refine wpAnyH_all (rs := [19]) (by kernel_rfl) (by simp) ?_
            intro i hi; obtain rfl := List.mem_singleton.1 hi; clear hi
            refine op_call (d := 111) rfl rfl rfl (by go_simp) ((HMX.out _).mono ?_)
            rintro e w5 ⟨rfl, rfl⟩
            obtain ⟨z, hz⟩ : ∃ z, z = max x y := ⟨_, rfl⟩
            rw [← hz]
            refine ⟨_, rfl, hS, ?_⟩
            simp only [Act.put, List.setIfInBounds_toArray, List.set_cons_zero, List.set_cons_succ]
            refine wpAnyH_all (rs := [20]) (by kernel_rfl) (by simp) ?_
            intro i hi; obtain rfl := List.mem_singleton.1 hi; clear hi
            refine op_val (d := 112) (v := .pointer (some ⟨gj, m, none⟩)) (w' := V5.drew) rfl rfl rfl (by go_simp; try rfl) ?_
            simp only [Act.put, List.setIfInBounds_toArray, List.set_cons_zero, List.set_cons_succ]
            refine ⟨hS, wpAnyH_all (rs := [21]) (by kernel_rfl) (by simp) ?_⟩
            intro i hi; obtain rfl := List.mem_singleton.1 hi; clear hi
            have d0' : V5.drew.cell? ⟨gj, m, none⟩ = some (.int .i64 zz) := s5
            have d1' : V5.drew.frozen? ⟨gj, m, none⟩ = false := s6
            have hgkl' : gj < V5.drew.heap.size := sl
            refine op_skipN rfl rfl (w' := V5.drew.setCell ⟨gj, m, none⟩ (.int .i64 z)) (by go_simp; try rfl) ?_
            refine ⟨⟨?_, ?_, ?_, ?_, ?_⟩, wpAnyH_done (by kernel_rfl) (NoPanic.normal ?_) _⟩
            · rw [stC23 (by simp; exact fun h => hne h.symm)]; exact s0
            · rw [stC23 (by have h9 := hLW.out.1; simp; omega)]; exact s1
            · rw [stC23 (by have h9 := hLW.out.2.2.1; simp; omega)]; exact s2
            · rw [stC23 (by have h9 := hLW.out.2.1; simp; omega)]; exact s3
            · rw [stC23 (by have h9 := hLW.out.2.2.2; simp; omega)]; exact s4
            clear d0' d1' hgkl' hS s0 s1 s2 s3 s4 s5 s6 sl
            go_wp2
            go_roundw
            case rel => exact ⟨m + 1, by omega, by go_num, HP.out⟩
            case measure => simp [intOf]; omega
        · obtain rfl : m = un := by omega
          have HP : Hid (Below W.heap.size W wr ∧ wr.heap[W.heap.size]? = some (.cells #[.int .i64 0, .slice none 0 0] 55) ∧ ∃ L vs, GV wr B g n oc m L vs ∧ SJ23 la lb L (t + 1) 0) := ⟨hR.out.1, hR.out.2.1, L, vs, hgv, by have h9 := hsj; rw [HMW.out.1] at h9; exact h9.row⟩
          clear hR hgv hsj
          go_wp2
          go_roundw
          case rel => exact ⟨t + 1, by omega, by go_num, HP.out⟩
          case measure => simp [intOf]; omega
    · obtain ⟨L, vs, hgv, hsj⟩ := hR.out.2.2
      rw [show t = la.length by rw [← H.out.2.2.1]; omega] at hsj
      have HD := hsj.done
      have HN : Hid (C = 0) := by unfold Hid; rw [HC3.out, HD.2, if_neg (by decide)]
      have HLe : Hid (stL la lb = L) := by unfold Hid; rw [stL, if_pos (by rw [← HC9.out]; exact HN.out), HD.1]
      have HRI : Hid (∀ u0 u1, RI ((wr.setCell ⟨W.heap.size, 0, none⟩ u0).setCell ⟨W.heap.size, 1, none⟩ u1) W.heap.size (.slice (some ⟨g, 0, none⟩) n oc) (stL la lb) vs) := fun u0 u1 => by rw [HLe.out]; exact (hgv.ri.boxedS (n := n) hWB u0 u1).low (Nat.le_of_lt hWB)
      have z0 := cellOfQ hR.out.2.1 0 rfl
      have z1 := cellOfQ hR.out.2.1 1 rfl
      have zl := ltOfQ hR.out.2.1
      have f0 := frozOfQ hR.out.2.1 0
      have f1 := frozOfQ hR.out.2.1 1
      have HB : Hid (Below W.heap.size W wr) := hR.out.1
      clear hR hgv hsj HD
      go_wp2
      try simp only [Exit.inBlock, Exit.then]
      refine bodyPost_ret (by simp [results, Try.results33, go_sem, z0, z1, zl, f0, f1]; try rfl) rfl ⟨_, vs, by rw [HN.out], HRI.out _ _, (HB.out.setCell (Nat.le_refl _) _).setCell (Nat.le_refl _) _⟩

end Go.Proofs.Ytkdpifplhhcpaaa
