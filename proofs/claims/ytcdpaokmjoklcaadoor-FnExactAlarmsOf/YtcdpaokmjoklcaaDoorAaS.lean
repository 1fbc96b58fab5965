/- Proved here: AlarmsOf of the model: aaC, aaL. -/
import Derived.Test.YtcdpaokmjoklcaaDoorAaU
import Derived.Test.YtcdpaokmjoklcaaDoorCuT
import Derived.Test.YtcdpaokmjoklcaaDoorChS
import Derived.Test.YtcdpaokmjoklcaaDoorInS
import Derived.Deep.DeepCutAuto
namespace Go.Proofs.YtcdpaokmjoklcaaDoor
open Go.RowKit
set_option linter.unusedVariables false
set_option linter.unusedSimpArgs false

theorem AlT.next {w wr wr' : World} {o : Obj} {lo : Nat} {v : Value} {cur : List Alm} (h : AlT w wr o lo v cur) (hb : Below wr.heap.size wr wr') : AlT w wr' o lo v cur :=
  ⟨h.bl.trans (hb.mono h.bl.size), (hb.block _ (ltOf h.bx)).trans h.bx, ownsRow_keep h.su fun g hg => hb.block g (OG.lt h.su g hg).2, h.lo1, Nat.le_trans h.lo2 hb.size⟩
theorem spec_up (sg R : Int) (i j : Nat) {w : World} {v : Value} {dl : List Int} (hj : j < 6) (hR : R = (j : Int) + 1) (hs : 1 ≤ sg ∧ sg ≤ 100000) (hi0 : i < dl.length) (hn : dl.length ≤ 1000) (h : RdI w v dl) :
    Calls Tryd.prog 16 #[.int .i64 R, v, .int .i64 i, .int .i64 sg] w fun e w' => e = .returned (.bool (upB (fun j => dl.getD j 0) sg i j)) ∧ Below w.heap.size w w' := by
  rcases (by omega : j = 0 ∨ j = 1 ∨ j = 2 ∨ j = 3 ∨ j = 4 ∨ j = 5) with rfl | rfl | rfl | rfl | rfl | rfl
  · obtain rfl : R = 1 := by omega
    exact spec_u0 sg i hs hi0 hn h
  · obtain rfl : R = 2 := by omega
    exact spec_u1 sg i hs hi0 hn h
  · obtain rfl : R = 3 := by omega
    exact spec_u2 sg i hs hi0 hn h
  · obtain rfl : R = 4 := by omega
    exact spec_u3 sg i hs hi0 hn h
  · obtain rfl : R = 5 := by omega
    exact spec_u4 sg i hs hi0 hn h
  · obtain rfl : R = 6 := by omega
    exact spec_u5 sg i hs hi0 hn h

set_option maxRecDepth 10000 in
set_option maxHeartbeats 12800000 in
theorem spec_aa (ce sg : Int) {w : World} {v : Value} {s : List Int} (hn : s.length ≤ 1048576) (h : RdI w v s) :
    Calls Tryd.prog 4 #[v, .int .i64 ce, .int .i64 sg] w fun e w' => ∃ v, e = .returned (.agg #[.int .i64 (aaC ce sg s), v]) ∧ OG 38 2 alC w' w.heap.size v (aaL ce sg s) ∧ Below w.heap.size w w' := by
  obtain ⟨i0, hi, hz0, hz1, hz2⟩ := info_parts info_Alarm
  obtain ⟨j0, ji, jz0, jz1, jz2⟩ := info_parts info_i64
  obtain ⟨a, c, rfl⟩ := h.form
  obtain ⟨n, hnn⟩ : ∃ n, n = s.length := ⟨_, rfl⟩
  obtain ⟨C, hC⟩ : ∃ C, C = aaC ce sg s := ⟨_, rfl⟩
  obtain ⟨LL, hLL⟩ : ∃ L, L = aaL ce sg s := ⟨_, rfl⟩
  obtain ⟨Fa, hFa⟩ : ∃ F, F = chF s := ⟨_, rfl⟩
  rw [← hnn] at hn h ⊢
  rw [← hC, ← hLL]
  obtain ⟨q0, hq0⟩ : ∃ b, b = decide (-1000000 ≤ ce ∧ ce ≤ 1000000) := ⟨_, rfl⟩
  obtain ⟨q1, hq1⟩ : ∃ b, b = decide (1 ≤ sg ∧ sg ≤ 100000) := ⟨_, rfl⟩
  have HC : Hid (C = (if Fa = 0 then (if q0 && q1 then 0 else 3) else Fa) ∧ LL = if C = 0 then alA (alH ce sg s) s.length else []) := by
    refine ⟨?_, by rw [hLL, hC]; rfl⟩
    rw [hC, aaC, hFa, hq0, hq1]; simp only [Bool.and_eq_true, decide_eq_true_eq]
  have HF : Hid (∀ W, Below w.heap.size w W → Calls Tryd.prog 12 #[.slice a n c] W fun e w' => e = .returned (.int .i64 Fa) ∧ w' = W) := fun W hW => by rw [hFa]; exact spec_ch (by omega) (h.below hW)
  have H0 : Hid (∀ W, Calls Tryd.prog 13 #[.int .i64 ce] W fun e w' => e = .returned (.bool (!q0)) ∧ w' = W) := spec_out ce q0 hq0
  have H1 : Hid (∀ W, Calls Tryd.prog 14 #[.int .i64 sg, .int .i64 1, .int .i64 100000] W fun e w' => e = .returned (.bool q1) ∧ w' = W) := fun W => by rw [hq1]; exact spec_in10 sg 1 100000 W
  have H : Hid (RdI w (.slice a n c) s ∧ n = s.length ∧ Fa = chF s ∧ q0 = decide (-1000000 ≤ ce ∧ ce ≤ 1000000) ∧ q1 = decide (1 ≤ sg ∧ sg ≤ 100000)) := ⟨h, hnn, hFa, hq0, hq1⟩
  clear h hnn hC hLL hFa hq0 hq1
  obtain ⟨W0, hW0⟩ : ∃ W, W = w.alloc (.cells #[.int .i64 0, .slice none 0 0] 25) := ⟨_, rfl⟩
  have HW0 : Hid (Below w.heap.size w W0 ∧ W0.heap[w.heap.size]? = some (.cells #[.int .i64 0, .slice none 0 0] 25) ∧ W0.heap.size = w.heap.size + 1) := by
    rw [hW0]; exact ⟨by (repeat' (first | (with_reducible exact Below.refl _ _) | (with_reducible assumption) | (with_reducible refine Below.setCell ?_ ?_ _) | (with_reducible refine Below.alloc ?_ ?_ _) | (with_reducible refine below_drewN ?_ _) | (with_reducible refine Below.drew ?_) | (with_reducible exact Nat.le_refl _) | omega | (simp; done) | (simp; omega))), heap_alloc_new _ _, by simp⟩
  go_enter Tryd.func4, Tryd.ntmps4
  go_wp2_with (fail)
  rw [← hW0]
  clear hW0
  refine (HF.out _ HW0.out.1).mono ?_
  rintro e w1 ⟨rfl, hw⟩
  subst w1
  clear HF
  by_cases hF0 : Fa = 0
  case neg =>
    have HZ : Hid (C = Fa ∧ LL = []) := by
      have h1 := HC.out; rw [if_neg hF0] at h1; exact ⟨h1.1, by rw [h1.2, h1.1, if_neg hF0]⟩
    have hA : (Fa != 0) = true := by simpa using hF0
    clear HC
    obtain ⟨p0, p1, pf0, pf1, pl⟩ := ew_two HW0.out.2.1
    clear H
    go_wp2
    try simp only [Exit.inBlock, Exit.then]
    refine bodyPost_ret (by simp [results, Tryd.results4, go_sem, p0, p1, pl]; try rfl) rfl ⟨.slice none 0 0, by rw [HZ.out.1], by rw [HZ.out.2]; exact al_nil _ _, ?_⟩
    have hb := HW0.out.1
    (repeat' (first | (with_reducible exact Below.refl _ _) | (with_reducible assumption) | (with_reducible refine Below.setCell ?_ ?_ _) | (with_reducible refine Below.alloc ?_ ?_ _) | (with_reducible refine below_drewN ?_ _) | (with_reducible refine Below.drew ?_) | (with_reducible exact Nat.le_refl _) | omega | (simp; done) | (simp; omega)))
  have hA : (Fa != 0) = false := by rw [hF0]; rfl
  have HF0 : Hid (Fa = 0) := hF0
  clear hF0
  go_wp2_with (fail)
  refine (H0.out _).mono ?_
  rintro e w1 ⟨rfl, hw⟩
  subst w1
  cases q0
  · have HZ : Hid (C = 3 ∧ LL = []) := by
      have h1 := HC.out; rw [if_pos HF0.out] at h1; simp only [Bool.and_false, Bool.false_and, Bool.and_true, Bool.true_and, Bool.false_eq_true, if_false] at h1; exact ⟨h1.1, by rw [h1.2, h1.1, if_neg (by decide)]⟩
    clear HC
    obtain ⟨p0, p1, pf0, pf1, pl⟩ := ew_two HW0.out.2.1
    clear H
    go_wp2
    try simp only [Exit.inBlock, Exit.then]
    refine bodyPost_ret (by simp [results, Tryd.results4, go_sem, p0, p1, pl]; try rfl) rfl ⟨.slice none 0 0, by rw [HZ.out.1], by rw [HZ.out.2]; exact al_nil _ _, ?_⟩
    have hb := HW0.out.1
    (repeat' (first | (with_reducible exact Below.refl _ _) | (with_reducible assumption) | (with_reducible refine Below.setCell ?_ ?_ _) | (with_reducible refine Below.alloc ?_ ?_ _) | (with_reducible refine below_drewN ?_ _) | (with_reducible refine Below.drew ?_) | (with_reducible exact Nat.le_refl _) | omega | (simp; done) | (simp; omega)))
  go_wp2_with (fail)
  refine (H1.out _).mono ?_
  rintro e w1 ⟨rfl, hw⟩
  subst w1
  cases q1
  · have HZ : Hid (C = 3 ∧ LL = []) := by
      have h1 := HC.out; rw [if_pos HF0.out] at h1; simp only [Bool.and_false, Bool.false_and, Bool.and_true, Bool.true_and, Bool.false_eq_true, if_false] at h1; exact ⟨h1.1, by rw [h1.2, h1.1, if_neg (by decide)]⟩
    clear HC
    obtain ⟨p0, p1, pf0, pf1, pl⟩ := ew_two HW0.out.2.1
    clear H
    go_wp2
    try simp only [Exit.inBlock, Exit.then]
    refine bodyPost_ret (by simp [results, Tryd.results4, go_sem, p0, p1, pl]; try rfl) rfl ⟨.slice none 0 0, by rw [HZ.out.1], by rw [HZ.out.2]; exact al_nil _ _, ?_⟩
    have hb := HW0.out.1
    (repeat' (first | (with_reducible exact Below.refl _ _) | (with_reducible assumption) | (with_reducible refine Below.setCell ?_ ?_ _) | (with_reducible refine Below.alloc ?_ ?_ _) | (with_reducible refine below_drewN ?_ _) | (with_reducible refine Below.drew ?_) | (with_reducible exact Nat.le_refl _) | omega | (simp; done) | (simp; omega)))
  have HZ : Hid (C = 0 ∧ LL = alA (alH ce sg s) n) := by
    have h1 := HC.out; rw [if_pos HF0.out] at h1; simp only [Bool.and_true, if_true] at h1; exact ⟨h1.1, by rw [h1.2, h1.1, if_pos rfl, H.out.2.1]⟩
  have hce : -1000000 ≤ ce ∧ ce ≤ 1000000 := by simpa using H.out.2.2.2.1.symm
  have hsg : 1 ≤ sg ∧ sg ≤ 100000 := by simpa using H.out.2.2.2.2.symm
  have hg := chL_good (H.out.2.2.1.symm.trans HF0.out)
  have hn200 : n ≤ 200 := by rw [H.out.2.1]; exact hg.1
  have HG : Hid (∀ k, k < s.length → -1000000 ≤ s.getD k 0 ∧ s.getD k 0 ≤ 1000000) := hg.2
  have hWs : w.heap.size + 1 ≤ W0.heap.size := by have := HW0.out.2.2; omega
  clear hg HC HF0 H0 H1
  go_wp2
  go_loopw [8, 9] (fun l i wr => ∃ (k : Nat) (v : Value), k ≤ n ∧ v = l ∧ i = .int .i64 k ∧ Hid (EwT w wr (.cells #[.int .i64 0, .slice none 0 0] 25) v (rgL (se0 ce s) k))) (fun _ i _ => n - (intOf i).toNat)
  case atStart => exact ⟨0, _, Nat.zero_le _, rfl, rfl, ewT_lit HW0.out.1 HW0.out.2.1 HW0.out.2.2⟩
  case round =>
    clear HW0 hWs
    obtain ⟨k, v, hk, rfl, rfl, hQ⟩ := hrel
    obtain ⟨cur, hcur⟩ : ∃ c, c = rgL (se0 ce s) k := ⟨_, rfl⟩
    obtain ⟨m, hm⟩ : ∃ m, m = cur.length := ⟨_, rfl⟩
    rw [← hcur] at hQ
    obtain ⟨va, vc, hvf⟩ := hQ.out.form
    rw [← hm] at hvf
    subst hvf
    have hmb : m ≤ 200 := by rw [hm, hcur, rgL_len]; omega
    by_cases hlt : k < n
    · have hkl : k < s.length := by rw [← H.out.2.1]; exact hlt
      obtain ⟨g, o, c2, he, hg, hj⟩ := (H.out.1.below hQ.out.bl).ri (by omega)
      simp only [Value.slice.injEq] at he
      obtain ⟨rfl, hx1, hx2⟩ := he
      clear hx1 hx2
      have c0 := hj k hkl
      obtain ⟨x, hx⟩ : ∃ x, x = s.getD k 0 := ⟨_, rfl⟩
      rw [← hx] at c0
      have hxb := HG.out k hkl
      rw [← hx] at hxb
      have HST : Hid (rgL (se0 ce s) (k + 1) = cur ++ [x - ce] ∧ m = cur.length) := ⟨by rw [rgL_succ, hcur, hx]; rfl, hm⟩
      have HOW : Hid (wr.ownsRow (w.heap.size + 1) 2 1 (.slice va m vc) m (cur.map (Value.int .i64))) := hQ.out.own hm
      have hws := hQ.out.sz
      have HQ2 : Hid (EwT w wr (.cells #[.int .i64 0, .slice none 0 0] 25) (.slice va m vc) cur) := hQ.out
      have e1 : IntKind.i64.wrap (x - ce) = x - ce := by rw [IntKind.wrap_i64]; omega
      have b0 : (0 : Int) ≤ (k : Int) := by omega
      have b1 : (k : Int) < (n : Int) := by omega
      clear hj hx hQ hm hcur
      go_wp2_with (at_builtin; refine wpList_append_own _ rfl _ _ 22 rfl (w.heap.size + 1) 2 j0 (.int .i64 0) 1 8 Tryd.underlying22 ji jz0 jz1 jz2 rfl (by decide) _ _ _ rfl (World.ownsRow.alloc HOW.out _) ⟨wr.heap.size, 0, none⟩ 1 1 [.int .i64 (x - ce)] rfl rfl (World.news_of_block (cs := #[.int .i64 (x - ce)]) (t := 2) (fr := (0, 0)) (heap_alloc_new wr _)) (by simp [Value.oneCell']) (by unfold maxLen; omega) (by omega) (by simp; omega) ?_; intro v6 w6 hown6 hgrow6 _)
      have R6 : Hid (EwT w w6 (.cells #[.int .i64 0, .slice none 0 0] 25) v6 (rgL (se0 ce s) (k + 1))) := by unfold Hid; rw [HST.out.1]; exact HQ2.out.push HST.out.2 hown6 hgrow6
      clear hown6 hgrow6 HOW HQ2 HST
      go_wp2
      go_roundw
      case rel => exact ⟨k + 1, v6, by omega, rfl, by go_num, R6.out⟩
      case measure => simp [intOf]; omega
    · obtain ⟨DL, hDL⟩ : ∃ D, D = rgL (se0 ce s) n := ⟨_, rfl⟩
      have hDn : DL.length = n := by rw [hDL, rgL_len]
      have hcD : cur = DL := by rw [hcur, hDL, show k = n by omega]
      have hmn : m = n := by rw [hm, hcD, hDn]
      have HD : Hid (EwT w wr (.cells #[.int .i64 0, .slice none 0 0] 25) (.slice va n vc) DL ∧ DL.length = n ∧ ∀ p, p < n → DL.getD p 0 = se0 ce s p) := by
        refine ⟨by have h1 := hQ.out; rw [hcD, hmn] at h1; exact h1, hDn, fun p hp => by rw [hDL]; exact rgL_get _ hp⟩
      have HNG : Hid (Calls Tryd.prog 15 #[.slice va n vc] wr fun e w' => ∃ v', e = .returned v' ∧ IS w' wr.heap.size v' (rgL (fun j => -DL.getD j 0) n) ∧ Below wr.heap.size wr w') := by
        have h1 := spec_ng (s := DL) (by rw [hDn]; omega) (fun p hp => by
          rw [hDn] at hp
          rw [HD.out.2.2 p hp, se0]
          have := HG.out p (by rw [← H.out.2.1]; exact hp)
          omega) (IS.rg HD.out.1.su)
        rw [hDn] at h1
        exact h1
      rw [hmn]
      clear hQ hm hcur hcD hDL hmb hmn m cur
      clear hDn
      go_wp2_with (fail)
      refine HNG.out.mono ?_
      rintro e w3 ⟨vn, rfl, hIN, hbn⟩
      clear HNG
      obtain ⟨na, nc, hnf⟩ := hIN.form
      rw [rgL_len] at hnf
      subst hnf
      obtain ⟨NL, hNL⟩ : ∃ D, D = rgL (fun j => -DL.getD j 0) n := ⟨_, rfl⟩
      have H3 : Hid (Below w.heap.size w w3 ∧ w3.heap[w.heap.size]? = some (.cells #[.int .i64 0, .slice none 0 0] 25) ∧ w.heap.size + 1 ≤ w3.heap.size ∧ RdI w3 (.slice va n vc) DL ∧ RdI w3 (.slice na n nc) NL ∧ DL.length = n ∧ NL.length = n ∧ (∀ p, p < n → DL.getD p 0 = se0 ce s p) ∧ (∀ p, p < n → NL.getD p 0 = -se0 ce s p)) := by
        refine ⟨HD.out.1.bl.trans (hbn.mono HD.out.1.bl.size), (hbn.block _ (ltOf HD.out.1.bx)).trans HD.out.1.bx, Nat.le_trans HD.out.1.sz hbn.size, (IS.rg HD.out.1.su).below hbn, by rw [hNL]; exact IS.rg hIN, HD.out.2.1, by rw [hNL, rgL_len], HD.out.2.2, fun p hp => ?_⟩
        rw [hNL, rgL_get _ hp, HD.out.2.2 p hp]
      clear hIN hbn hNL HD hlt hk
      obtain ⟨lo, hlo⟩ : ∃ lo, lo = w3.heap.size := ⟨_, rfl⟩
      have HLO : Hid (lo = w3.heap.size) := hlo
      have HS : Hid (AlT w (w3.alloc (.cells #[] 38)) (.cells #[.int .i64 0, .slice none 0 0] 25) lo (.slice (some ⟨w3.heap.size, 0, none⟩) 0 0) [] ∧ Below lo w3 (w3.alloc (.cells #[] 38))) := by
        rw [hlo]
        exact ⟨⟨H3.out.1.alloc H3.out.1.size _, (Below.heap_alloc _ _ _ (by have := H3.out.2.2.1; omega)).trans H3.out.2.1, al_lit0 w3 _ (Nat.le_refl _), H3.out.2.2.1, by simp⟩, by (repeat' (first | (with_reducible exact Below.refl _ _) | (with_reducible assumption) | (with_reducible refine Below.setCell ?_ ?_ _) | (with_reducible refine Below.alloc ?_ ?_ _) | (with_reducible refine below_drewN ?_ _) | (with_reducible refine Below.drew ?_) | (with_reducible exact Nat.le_refl _) | omega | (simp; done) | (simp; omega)))⟩
      have HUP : Hid (∀ (W : World) (k j : Nat) (R : Int), k < n → j < 6 → R = (j : Int) + 1 → Below lo w3 W → Calls Tryd.prog 16 #[.int .i64 R, .slice va n vc, .int .i64 k, .int .i64 sg] W fun e w' => e = .returned (.bool (upB (se0 ce s) sg k j)) ∧ Below W.heap.size W w') := by
        intro W k j R hk hj hR hW
        rw [HLO.out] at hW
        have h1 := spec_up sg R k j hj hR hsg (dl := DL) (by rw [H3.out.2.2.2.2.2.1]; exact hk) (by rw [H3.out.2.2.2.2.2.1]; omega) (H3.out.2.2.2.1.below hW)
        rw [upB_congr sg hj (g := se0 ce s) (fun p hp => H3.out.2.2.2.2.2.2.2.1 p (by omega))] at h1
        exact h1
      have HUN : Hid (∀ (W : World) (k j : Nat) (R : Int), k < n → j < 6 → R = (j : Int) + 1 → Below lo w3 W → Calls Tryd.prog 16 #[.int .i64 R, .slice na n nc, .int .i64 k, .int .i64 sg] W fun e w' => e = .returned (.bool (upB (fun p => -se0 ce s p) sg k j)) ∧ Below W.heap.size W w') := by
        intro W k j R hk hj hR hW
        rw [HLO.out] at hW
        have h1 := spec_up sg R k j hj hR hsg (dl := NL) (by rw [H3.out.2.2.2.2.2.2.1]; exact hk) (by rw [H3.out.2.2.2.2.2.2.1]; omega) (H3.out.2.2.2.2.1.below hW)
        rw [upB_congr sg hj (g := fun p => -se0 ce s p) (fun p hp => H3.out.2.2.2.2.2.2.2.2 p (by omega))] at h1
        exact h1
      clear hlo
      go_wp2
      go_loopw [11, 12] (fun l i wr => ∃ (k : Nat) (v : Value), k ≤ n ∧ v = l ∧ i = .int .i64 k ∧ Hid (AlT w wr (.cells #[.int .i64 0, .slice none 0 0] 25) lo v (alA (alH ce sg s) k) ∧ Below lo w3 wr)) (fun _ i _ => n - (intOf i).toNat)
      case atStart => exact ⟨0, _, Nat.zero_le _, rfl, rfl, HS.out⟩
      case round =>
        clear HS
        obtain ⟨k, v, hk, rfl, rfl, hQ⟩ := hrel
        by_cases hlt : k < n
        · have b1 : (k : Int) < (n : Int) := by omega
          go_wp2
          go_loopw [11, 13] (fun l i wr => ∃ (j : Nat) (v : Value) (R : Int), j ≤ 6 ∧ v = l ∧ i = .int .i64 R ∧ Hid (R = (j : Int) + 1 ∧ AlT w wr (.cells #[.int .i64 0, .slice none 0 0] 25) lo v (alA (alH ce sg s) k ++ alP (alH ce sg s) k j) ∧ Below lo w3 wr)) (fun _ i _ => (7 - intOf i).toNat)
          case atStart => exact ⟨0, _, 1, by omega, rfl, rfl, rfl, by rw [alP, List.append_nil]; exact hQ.out.1, hQ.out.2⟩
          case round =>
            clear hQ
            obtain ⟨j, v, R, hj, rfl, rfl, hQ⟩ := hrel
            obtain ⟨cur, hcur⟩ : ∃ c, c = alA (alH ce sg s) k ++ alP (alH ce sg s) k j := ⟨_, rfl⟩
            obtain ⟨m, hm⟩ : ∃ m, m = cur.length := ⟨_, rfl⟩
            have hmb : m ≤ 1300 := by rw [hm, hcur, List.length_append]; have h1 := alA_len (alH ce sg s) k; have h2 := alP_len (alH ce sg s) k j; omega
            rw [← hcur] at hQ
            have hRj := hQ.out.1
            obtain ⟨va6, vc6, hvf⟩ := hQ.out.2.1.form
            rw [← hm] at hvf
            subst hvf
            by_cases hltj : j < 6
            · have b2 : R ≤ 6 := by omega
              have b3 : 1 ≤ R := by omega
              have HQ : Hid (R = (j : Int) + 1 ∧ AlT w wr (.cells #[.int .i64 0, .slice none 0 0] 25) lo (.slice va6 m vc6) cur ∧ Below lo w3 wr ∧ m = cur.length ∧ cur = alA (alH ce sg s) k ++ alP (alH ce sg s) k j) := ⟨hRj, hQ.out.2.1, hQ.out.2.2, hm, hcur⟩
              have HNX : Hid (alA (alH ce sg s) k ++ alP (alH ce sg s) k (j + 1) = cur ++ (if alH ce sg s k j then [⟨(k : Int), R⟩] else []) ∧ R + 1 = ((j + 1 : Nat) : Int) + 1) := by
                refine ⟨?_, by rw [hRj]; omega⟩
                rw [alP, ← List.append_assoc, ← hcur, hRj]
              obtain ⟨u1, hu1⟩ : ∃ u, u = upB (se0 ce s) sg k j := ⟨_, rfl⟩
              obtain ⟨u2, hu2⟩ : ∃ u, u = upB (fun p => -se0 ce s p) sg k j := ⟨_, rfl⟩
              have HUU : Hid ((u1 || u2) = alH ce sg s k j) := by unfold Hid; rw [hu1, hu2]; exact up_ho ce sg s k j hltj
              have HU1 : Hid (∀ W, Below lo w3 W → Calls Tryd.prog 16 #[.int .i64 R, .slice va n vc, .int .i64 k, .int .i64 sg] W fun e w' => e = .returned (.bool u1) ∧ Below W.heap.size W w') := fun W hW => by rw [hu1]; exact HUP.out W k j R hlt hltj hRj hW
              have HU2 : Hid (∀ W, Below lo w3 W → Calls Tryd.prog 16 #[.int .i64 R, .slice na n nc, .int .i64 k, .int .i64 sg] W fun e w' => e = .returned (.bool u2) ∧ Below W.heap.size W w') := fun W hW => by rw [hu2]; exact HUN.out W k j R hlt hltj hRj hW
              have e1 : IntKind.i64.wrap (R + 1) = R + 1 := by rw [IntKind.wrap_i64]; omega
              clear hQ hm hcur hu1 hu2 hRj
              go_wp2_with (fail)
              refine (HU1.out _ HQ.out.2.2.1).mono ?_
              rintro e w4 ⟨rfl, hb4⟩
              have H4 : Hid (AlT w w4 (.cells #[.int .i64 0, .slice none 0 0] 25) lo (.slice va6 m vc6) cur ∧ Below lo w3 w4) := ⟨HQ.out.2.1.next hb4, HQ.out.2.2.1.trans (hb4.mono (HQ.out.2.1.lo2))⟩
              clear hb4
              have HK : Hid (m = cur.length) := HQ.out.2.2.2.1
              clear HQ HU1
              cases u1
              · go_wp2_with (fail)
                refine (HU2.out _ H4.out.2).mono ?_
                rintro e w5 ⟨rfl, hb5⟩
                have H5 : Hid (AlT w w5 (.cells #[.int .i64 0, .slice none 0 0] 25) lo (.slice va6 m vc6) cur ∧ Below lo w3 w5) := ⟨H4.out.1.next hb5, H4.out.2.trans (hb5.mono (H4.out.1.lo2))⟩
                clear hb5 H4 HU2
                cases u2
                · have HF : Hid (AlT w w5 (.cells #[.int .i64 0, .slice none 0 0] 25) lo (.slice va6 m vc6) (alA (alH ce sg s) k ++ alP (alH ce sg s) k (j + 1)) ∧ Below lo w3 w5) := by
                    refine ⟨?_, H5.out.2⟩
                    rw [HNX.out.1, ← HUU.out]
                    simp only [Bool.or_false, Bool.false_eq_true, if_false, List.append_nil]
                    exact H5.out.1
                  have HR : Hid (R + 1 = ((j + 1 : Nat) : Int) + 1) := HNX.out.2
                  clear H5 HNX HUU HK
                  go_wp2
                  go_roundw
                  case rel => exact ⟨j + 1, _, _, by omega, rfl, rfl, HR.out, HF.out⟩
                  case measure => simp [intOf]; omega
                · have HOW : Hid (w5.ownsRow lo 38 2 (.slice va6 m vc6) m (cur.flatMap alC)) := H5.out.1.own HK.out
                  have hws := H5.out.1.lo2
                  go_wp2_with (at_builtin; refine wpList_append_own _ rfl _ _ 23 rfl lo 38 i0 (.agg #[.int .i64 0, .int .i64 0]) 2 16 Tryd.underlying23 hi hz0 hz1 hz2 rfl (by decide) _ _ _ rfl (World.ownsRow.alloc HOW.out _) ⟨w5.heap.size, 0, none⟩ 1 1 [.int .i64 (k : Int), .int .i64 R] rfl rfl (World.news_of_block (cs := #[.int .i64 (k : Int), .int .i64 R]) (t := 38) (fr := (0, 0)) (heap_alloc_new w5 _)) (by simp [Value.oneCell']) (by unfold maxLen; omega) (by omega) (by simp; omega) ?_; intro v6 w6 hown6 hgrow6 _)
                  have HF : Hid (AlT w w6 (.cells #[.int .i64 0, .slice none 0 0] 25) lo v6 (alA (alH ce sg s) k ++ alP (alH ce sg s) k (j + 1)) ∧ Below lo w3 w6) := by
                    refine ⟨?_, (H5.out.2.alloc hws _).grown hgrow6 (by simp; omega) (fun q hq => H5.out.1.lt q hq)⟩
                    rw [HNX.out.1, ← HUU.out]
                    simp only [Bool.or_true, Bool.true_or, if_true]
                    exact (H5.out.1.push HK.out hown6 hgrow6).1
                  have HR : Hid (R + 1 = ((j + 1 : Nat) : Int) + 1) := HNX.out.2
                  clear hown6 hgrow6 H5 HNX HUU HOW HK
                  go_wp2
                  go_roundw
                  case rel => exact ⟨j + 1, _, _, by omega, rfl, rfl, HR.out, HF.out⟩
                  case measure => simp [intOf]; omega
              · clear HU2
                have HOW : Hid (w4.ownsRow lo 38 2 (.slice va6 m vc6) m (cur.flatMap alC)) := H4.out.1.own HK.out
                have hws := H4.out.1.lo2
                go_wp2_with (at_builtin; refine wpList_append_own _ rfl _ _ 23 rfl lo 38 i0 (.agg #[.int .i64 0, .int .i64 0]) 2 16 Tryd.underlying23 hi hz0 hz1 hz2 rfl (by decide) _ _ _ rfl (World.ownsRow.alloc HOW.out _) ⟨w4.heap.size, 0, none⟩ 1 1 [.int .i64 (k : Int), .int .i64 R] rfl rfl (World.news_of_block (cs := #[.int .i64 (k : Int), .int .i64 R]) (t := 38) (fr := (0, 0)) (heap_alloc_new w4 _)) (by simp [Value.oneCell']) (by unfold maxLen; omega) (by omega) (by simp; omega) ?_; intro v6 w6 hown6 hgrow6 _)
                have HF : Hid (AlT w w6 (.cells #[.int .i64 0, .slice none 0 0] 25) lo v6 (alA (alH ce sg s) k ++ alP (alH ce sg s) k (j + 1)) ∧ Below lo w3 w6) := by
                  refine ⟨?_, (H4.out.2.alloc hws _).grown hgrow6 (by simp; omega) (fun q hq => H4.out.1.lt q hq)⟩
                  rw [HNX.out.1, ← HUU.out]
                  simp only [Bool.or_true, Bool.true_or, if_true]
                  exact (H4.out.1.push HK.out hown6 hgrow6).1
                have HR : Hid (R + 1 = ((j + 1 : Nat) : Int) + 1) := HNX.out.2
                clear hown6 hgrow6 H4 HNX HUU HOW HK
                go_wp2
                go_roundw
                case rel => exact ⟨j + 1, _, _, by omega, rfl, rfl, HR.out, HF.out⟩
                case measure => simp [intOf]; omega
            · have b2 : ¬ R ≤ 6 := by omega
              have HF : Hid (AlT w wr (.cells #[.int .i64 0, .slice none 0 0] 25) lo (.slice va6 m vc6) (alA (alH ce sg s) (k + 1)) ∧ Below lo w3 wr) := by
                have h1 := hQ.out.2
                rw [hcur, show j = 6 by omega] at h1
                exact h1
              clear hQ hcur hm hRj
              go_wp2
              go_roundw
              case rel => exact ⟨k + 1, _, by omega, rfl, by go_num, HF.out⟩
              case measure => simp [intOf]; omega
        · have HE : Hid (C = 0 ∧ LL = alA (alH ce sg s) k) := ⟨HZ.out.1, by rw [HZ.out.2, show k = n by omega]⟩
          obtain ⟨q0, q1, qf0, qf1, ql⟩ := ew_two hQ.out.1.bx
          have HQ : Hid (AlT w wr (.cells #[.int .i64 0, .slice none 0 0] 25) lo v (alA (alH ce sg s) k)) := hQ.out.1
          obtain ⟨va6, vc6, hvf⟩ := HQ.out.form
          subst hvf
          clear hQ
          go_wp2
          try simp only [Exit.inBlock, Exit.then]
          refine bodyPost_ret (by simp [results, Tryd.results4, go_sem, q0, q1, ql]; try rfl) rfl ⟨_, by rw [HE.out.1], by rw [HE.out.2]; exact HQ.out.done, ?_⟩
          have hb := HQ.out.bl
          (repeat' (first | (with_reducible exact Below.refl _ _) | (with_reducible assumption) | (with_reducible refine Below.setCell ?_ ?_ _) | (with_reducible refine Below.alloc ?_ ?_ _) | (with_reducible refine below_drewN ?_ _) | (with_reducible refine Below.drew ?_) | (with_reducible exact Nat.le_refl _) | omega | (simp; done) | (simp; omega)))

end Go.Proofs.YtcdpaokmjoklcaaDoor
