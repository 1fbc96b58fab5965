/- Proved here: RulesFault of the program: rulesK. -/
import Derived.Test.YtokdpgabmifdjaaRfI
namespace Go.Proofs.Ytokdpgabmifdjaa
open Go.RowKit
set_option linter.unusedVariables false
set_option linter.unusedSimpArgs false

theorem firstR_hit {L : Int} {s : List Bx} {k : Nat} {b : Bx} (hk : k < s.length) (hb : bat s k = b) (h : ¬ ruleK b L = 0) (hp : firstR L (s.drop k) = firstR L s) : firstR L s = ruleK b L := by
  rw [← hp, drop_bat hk, hb, firstR, if_neg h]
theorem firstR_miss {L : Int} {s : List Bx} {k : Nat} {b : Bx} (hk : k < s.length) (hb : bat s k = b) (h : ruleK b L = 0) (hp : firstR L (s.drop k) = firstR L s) : firstR L (s.drop (k + 1)) = firstR L s := by
  rw [← hp, drop_bat hk, hb, firstR, if_pos h]

set_option maxRecDepth 10000 in
set_option maxHeartbeats 3200000 in
theorem impl_rules (L : Int) {w : World} {v : Value} {s : List Bx} (hn : s.length ≤ 1048576) (h : RB w v s) :
    Calls Try.prog 24 #[v, .int .i64 L] w fun e w' => e = .returned (.int .i64 (rulesK s L)) ∧ Below w.heap.size w w' := by
  obtain ⟨a, c, rfl⟩ := h.form
  have H : Hid (RB w (.slice a s.length c) s) := h
  clear h
  obtain ⟨n, hnn⟩ : ∃ n, n = s.length := ⟨_, rfl⟩
  have HN : Hid (n = s.length) := hnn
  obtain ⟨C, hC⟩ : ∃ C, C = rulesK s L := ⟨_, rfl⟩
  have HC : Hid (C = rulesK s L) := hC
  rw [← hnn] at H hn ⊢
  rw [← hC]
  clear hnn hC
  by_cases hbig : (30 : Int) < (n : Int)
  · have HE : Hid (C = 2) := by
      unfold Hid; rw [HC.out, rulesK, if_pos (by rw [← HN.out]; omega)]
    go_enter Try.func24, Try.ntmps24
    go_wp2
    go_returns
    exact ⟨by rw [HE.out]; rfl, by (repeat' (first | (with_reducible exact Below.refl _ _) | (with_reducible assumption) | (with_reducible refine Below.setCell ?_ ?_ _) | (with_reducible refine Below.alloc ?_ ?_ _) | (with_reducible refine below_drewN ?_ _) | (with_reducible refine Below.drew ?_) | (with_reducible exact Nat.le_refl _) | omega | (simp; done) | (simp; omega)))⟩
  have HF : Hid (C = firstR L s) := by
    unfold Hid; rw [HC.out, rulesK, if_neg (by rw [← HN.out]; omega)]
  go_enter Try.func24, Try.ntmps24
  go_wp2
  go_loopw [13] (fun i wr => ∃ k : Nat, k ≤ n ∧ i = .int .i64 k ∧ Hid (firstR L (s.drop k) = firstR L s ∧ Below w.heap.size w wr)) (fun i _ => n - (intOf i).toNat)
  case atStart => exact ⟨0, Nat.zero_le _, rfl, rfl, Below.refl _ _⟩
  case round =>
    obtain ⟨k, hk, rfl, hR⟩ := hrel
    by_cases hlt : k < n
    · obtain ⟨g, o, c2, he, hg, hj⟩ := (H.out.below hR.out.2).pos (by rw [← HN.out]; omega)
      simp only [Value.slice.injEq] at he
      obtain ⟨rfl, hx1, hx2⟩ := he
      clear hx1 hx2
      have hkl : k < s.length := by rw [← HN.out]; exact hlt
      obtain ⟨c0, c1, c2, c3⟩ := hj k hkl
      obtain ⟨b, hb⟩ : ∃ b, bat s k = b := ⟨_, rfl⟩
      rw [hb] at c0 c1 c2 c3
      have HB : Hid (bat s k = b ∧ k < s.length) := ⟨hb, hkl⟩
      obtain ⟨y, hy⟩ : ∃ y, y = ruleK b L := ⟨_, rfl⟩
      have HY : Hid (y = ruleK b L) := hy
      have HR : Hid (∀ W, Calls Try.prog 54 #[.agg #[.int .i64 b.x0, .int .i64 b.y0, .int .i64 b.x1, .int .i64 b.y1], .int .i64 L] W fun e w' => e = .returned (.int .i64 y) ∧ Below W.heap.size W w') := fun W => by rw [hy]; exact impl_rule b L W
      have HBL : Hid (firstR L (s.drop k) = firstR L s ∧ Below w.heap.size w wr) := hR.out
      clear hj hR hb hy
      have b0 : (0 : Int) ≤ (k : Int) := by omega
      have b1 : (k : Int) < (n : Int) := by omega
      go_wp2_with (fail)
      refine (HR.out _).mono ?_
      rintro e w4 ⟨rfl, hb4⟩
      have hb4' : Below wr.heap.size wr w4 := Below.trans (by (repeat' (first | (with_reducible exact Below.refl _ _) | (with_reducible assumption) | (with_reducible refine Below.setCell ?_ ?_ _) | (with_reducible refine Below.alloc ?_ ?_ _) | (with_reducible refine below_drewN ?_ _) | (with_reducible refine Below.drew ?_) | (with_reducible exact Nat.le_refl _) | omega | (simp; done) | (simp; omega)))) (hb4.mono (by simp))
      have HB4 : Hid (Below w.heap.size w w4) := HBL.out.2.trans (hb4'.mono HBL.out.2.size)
      clear hb4 hb4' c0 c1 c2 c3
      by_cases hy0 : y = 0
      · have HM : Hid (firstR L (s.drop (k + 1)) = firstR L s) := firstR_miss HB.out.2 HB.out.1 (by rw [← HY.out]; exact hy0) HBL.out.1
        subst hy0
        go_wp2
        go_roundw
        case rel => exact ⟨k + 1, by omega, by go_num, HM.out, HB4.out⟩
        case measure => simp [intOf]; omega
      · have HE : Hid (C = y) := by unfold Hid; rw [HF.out, HY.out]; exact firstR_hit HB.out.2 HB.out.1 (by rw [← HY.out]; exact hy0) HBL.out.1
        go_wp2
        go_returns
        exact ⟨by rw [HE.out]; rfl, HB4.out⟩
    · have e : Hid (C = 0) := by
        unfold Hid
        rw [HF.out, ← hR.out.1, List.drop_eq_nil_of_le (by rw [← HN.out]; omega)]
        rfl
      have HB : Hid (Below w.heap.size w wr) := hR.out.2
      clear hR
      go_wp2
      go_returns
      exact ⟨by rw [e.out]; rfl, HB.out⟩

set_option maxRecDepth 10000 in
set_option maxHeartbeats 6400000 in
theorem spec_rules (L : Int) {w : World} {v : Value} {s : List Bx} (hn : s.length ≤ 1048576) (h : RB w v s) :
    Calls Try.prog 22 #[v, .int .i64 L] w fun e w' => e = .returned (.int .i64 (rulesK s L)) ∧ Below w.heap.size w w' := by
  obtain ⟨a, c, rfl⟩ := h.form
  have H : Hid (RB w (.slice a s.length c) s) := h
  clear h
  obtain ⟨n, hnn⟩ : ∃ n, n = s.length := ⟨_, rfl⟩
  have HN : Hid (n = s.length) := hnn
  obtain ⟨C, hC⟩ : ∃ C, C = rulesK s L := ⟨_, rfl⟩
  have HC : Hid (C = rulesK s L) := hC
  rw [← hnn] at H hn ⊢
  rw [← hC]
  clear hnn hC
  by_cases hbig : (30 : Int) < (n : Int)
  · have HE : Hid (C = 2) := by
      unfold Hid; rw [HC.out, rulesK, if_pos (by rw [← HN.out]; omega)]
    go_enter Try.func22, Try.ntmps22
    go_wp2
    go_returns
    exact ⟨by rw [HE.out]; rfl, by (repeat' (first | (with_reducible exact Below.refl _ _) | (with_reducible assumption) | (with_reducible refine Below.setCell ?_ ?_ _) | (with_reducible refine Below.alloc ?_ ?_ _) | (with_reducible refine below_drewN ?_ _) | (with_reducible refine Below.drew ?_) | (with_reducible exact Nat.le_refl _) | omega | (simp; done) | (simp; omega)))⟩
  have HF : Hid (C = firstR L s) := by
    unfold Hid; rw [HC.out, rulesK, if_neg (by rw [← HN.out]; omega)]
  go_enter Try.func22, Try.ntmps22
  go_wp2
  go_loopw [5] (fun i wr => ∃ k : Nat, k ≤ n ∧ i = .int .i64 k ∧ Hid (firstR L (s.drop k) = firstR L s ∧ Below w.heap.size w wr)) (fun i _ => n - (intOf i).toNat)
  case atStart => exact ⟨0, Nat.zero_le _, rfl, rfl, Below.refl _ _⟩
  case round =>
    obtain ⟨k, hk, rfl, hR⟩ := hrel
    by_cases hlt : k < n
    · obtain ⟨g, o, c2, he, hg, hj⟩ := (H.out.below hR.out.2).pos (by rw [← HN.out]; omega)
      simp only [Value.slice.injEq] at he
      obtain ⟨rfl, hx1, hx2⟩ := he
      clear hx1 hx2
      have hkl : k < s.length := by rw [← HN.out]; exact hlt
      obtain ⟨c0, c1, c2, c3⟩ := hj k hkl
      obtain ⟨b, hb⟩ : ∃ b, bat s k = b := ⟨_, rfl⟩
      rw [hb] at c0 c1 c2 c3
      have HB : Hid (bat s k = b ∧ k < s.length) := ⟨hb, hkl⟩
      have HBL : Hid (firstR L (s.drop k) = firstR L s ∧ Below w.heap.size w wr) := hR.out
      clear hj hR hb
      have hszb : w.heap.size ≤ wr.heap.size := HBL.out.2.size
      have b0 : (0 : Int) ≤ (k : Int) := by omega
      have b1 : (k : Int) < (n : Int) := by omega
      obtain ⟨p, hp⟩ : ∃ p, p = (decide (1 ≤ b.x0) && decide (b.x0 ≤ 5)) := ⟨_, rfl⟩
      obtain ⟨r, hr⟩ : ∃ r, r = (decide (1 ≤ b.y1) && decide (b.y1 ≤ 1000)) := ⟨_, rfl⟩
      have HP : Hid (∀ w, Calls Try.prog 52 #[.int .i64 b.x0, .int .i64 1, .int .i64 5] w fun e w' => e = .returned (.bool p) ∧ w' = w) := spec_withinR b.x0 1 5 p hp
      have HQ : Hid (∀ w, Calls Try.prog 52 #[.int .i64 b.y1, .int .i64 1, .int .i64 1000] w fun e w' => e = .returned (.bool r) ∧ w' = w) := spec_withinR b.y1 1 1000 r hr
      obtain ⟨k0, a0, b1', z0⟩ := b
      simp only at c0 c1 c2 c3 hp hr HP HQ
      by_cases hk3 : k0 = 3
      · subst hk3
        obtain rfl : p = true := by rw [hp]; rfl
        by_cases h1 : a0 < 0
        · have HE : Hid (C = 1) := by
            unfold Hid; rw [HF.out]
            have hc : ruleK ⟨3, a0, b1', z0⟩ L = 1 := by rw [ruleK, if_pos (bad_iff.2 (show badR _ _ from Or.inr (Or.inl h1)))]
            rw [firstR_hit HB.out.2 HB.out.1 (by rw [hc]; decide) HBL.out.1, hc]
          clear hp hr
          go_wp2_with (fail)
          refine (HP.out _).mono ?_
          rintro e w4 ⟨rfl, hw4⟩
          subst w4
          go_wp2
          go_returns
          refine ⟨by rw [HE.out]; rfl, ?_⟩
          have hb := HBL.out.2
          (repeat' (first | (with_reducible exact Below.refl _ _) | (with_reducible assumption) | (with_reducible refine Below.setCell ?_ ?_ _) | (with_reducible refine Below.alloc ?_ ?_ _) | (with_reducible refine below_drewN ?_ _) | (with_reducible refine Below.drew ?_) | (with_reducible exact Nat.le_refl _) | omega | (simp; done) | (simp; omega)))
        by_cases h2 : L ≤ a0
        · have HE : Hid (C = 1) := by
            unfold Hid; rw [HF.out]
            have hc : ruleK ⟨3, a0, b1', z0⟩ L = 1 := by rw [ruleK, if_pos (bad_iff.2 (show badR _ _ from Or.inr (Or.inr (Or.inl h2))))]
            rw [firstR_hit HB.out.2 HB.out.1 (by rw [hc]; decide) HBL.out.1, hc]
          clear hp hr
          go_wp2_with (fail)
          refine (HP.out _).mono ?_
          rintro e w4 ⟨rfl, hw4⟩
          subst w4
          go_wp2
          go_returns
          refine ⟨by rw [HE.out]; rfl, ?_⟩
          have hb := HBL.out.2
          (repeat' (first | (with_reducible exact Below.refl _ _) | (with_reducible assumption) | (with_reducible refine Below.setCell ?_ ?_ _) | (with_reducible refine Below.alloc ?_ ?_ _) | (with_reducible refine below_drewN ?_ _) | (with_reducible refine Below.drew ?_) | (with_reducible exact Nat.le_refl _) | omega | (simp; done) | (simp; omega)))
        by_cases h3 : b1' < 0
        · have HE : Hid (C = 1) := by
            unfold Hid; rw [HF.out]
            have hc : ruleK ⟨3, a0, b1', z0⟩ L = 1 := by rw [ruleK, if_pos (bad_iff.2 (show badR _ _ from Or.inr (Or.inr (Or.inr ⟨by simp, Or.inl h3⟩))))]
            rw [firstR_hit HB.out.2 HB.out.1 (by rw [hc]; decide) HBL.out.1, hc]
          clear hp hr
          go_wp2_with (fail)
          refine (HP.out _).mono ?_
          rintro e w4 ⟨rfl, hw4⟩
          subst w4
          go_wp2
          go_returns
          refine ⟨by rw [HE.out]; rfl, ?_⟩
          have hb := HBL.out.2
          (repeat' (first | (with_reducible exact Below.refl _ _) | (with_reducible assumption) | (with_reducible refine Below.setCell ?_ ?_ _) | (with_reducible refine Below.alloc ?_ ?_ _) | (with_reducible refine below_drewN ?_ _) | (with_reducible refine Below.drew ?_) | (with_reducible exact Nat.le_refl _) | omega | (simp; done) | (simp; omega)))
        by_cases h4 : L ≤ b1'
        · have HE : Hid (C = 1) := by
            unfold Hid; rw [HF.out]
            have hc : ruleK ⟨3, a0, b1', z0⟩ L = 1 := by rw [ruleK, if_pos (bad_iff.2 (show badR _ _ from Or.inr (Or.inr (Or.inr ⟨by simp, Or.inr h4⟩))))]
            rw [firstR_hit HB.out.2 HB.out.1 (by rw [hc]; decide) HBL.out.1, hc]
          clear hp hr
          go_wp2_with (fail)
          refine (HP.out _).mono ?_
          rintro e w4 ⟨rfl, hw4⟩
          subst w4
          go_wp2
          go_returns
          refine ⟨by rw [HE.out]; rfl, ?_⟩
          have hb := HBL.out.2
          (repeat' (first | (with_reducible exact Below.refl _ _) | (with_reducible assumption) | (with_reducible refine Below.setCell ?_ ?_ _) | (with_reducible refine Below.alloc ?_ ?_ _) | (with_reducible refine below_drewN ?_ _) | (with_reducible refine Below.drew ?_) | (with_reducible exact Nat.le_refl _) | omega | (simp; done) | (simp; omega)))
        have hok : ¬ badR ⟨3, a0, b1', z0⟩ L := by unfold badR; simp only; omega
        cases r with
        | false =>
          have HE : Hid (C = 3) := by
            unfold Hid; rw [HF.out]
            have hc : ruleK ⟨3, a0, b1', z0⟩ L = 3 := by rw [ruleK, if_neg (fun e => hok (bad_iff.1 e)), if_neg (fun e => by simp only at e; rw [decide_eq_true e.1, decide_eq_true e.2] at hr; cases hr)]
            rw [firstR_hit HB.out.2 HB.out.1 (by rw [hc]; decide) HBL.out.1, hc]
          clear hp hr hok
          go_wp2_with (fail)
          refine (HP.out _).mono ?_
          rintro e w4 ⟨rfl, hw4⟩
          subst w4
          go_wp2_with (fail)
          refine (HQ.out _).mono ?_
          rintro e w5 ⟨rfl, hw5⟩
          subst w5
          go_wp2
          go_returns
          refine ⟨by rw [HE.out]; rfl, ?_⟩
          have hb := HBL.out.2
          (repeat' (first | (with_reducible exact Below.refl _ _) | (with_reducible assumption) | (with_reducible refine Below.setCell ?_ ?_ _) | (with_reducible refine Below.alloc ?_ ?_ _) | (with_reducible refine below_drewN ?_ _) | (with_reducible refine Below.drew ?_) | (with_reducible exact Nat.le_refl _) | omega | (simp; done) | (simp; omega)))
        | true =>
          have HM : Hid (firstR L (s.drop (k + 1)) = firstR L s) := by
            have hc : ruleK ⟨3, a0, b1', z0⟩ L = 0 := by rw [ruleK, if_neg (fun e => hok (bad_iff.1 e)), if_pos (by simpa using hr.symm)]
            exact firstR_miss HB.out.2 HB.out.1 hc HBL.out.1
          clear hp hr hok
          go_wp2_with (fail)
          refine (HP.out _).mono ?_
          rintro e w4 ⟨rfl, hw4⟩
          subst w4
          go_wp2_with (fail)
          refine (HQ.out _).mono ?_
          rintro e w5 ⟨rfl, hw5⟩
          subst w5
          have hb := HBL.out.2
          go_wp2
          go_roundw
          case rel =>
            refine ⟨k + 1, by omega, by go_num, HM.out, ?_⟩
            (repeat' (first | (with_reducible exact Below.refl _ _) | (with_reducible assumption) | (with_reducible refine Below.setCell ?_ ?_ _) | (with_reducible refine Below.alloc ?_ ?_ _) | (with_reducible refine below_drewN ?_ _) | (with_reducible refine Below.drew ?_) | (with_reducible exact Nat.le_refl _) | omega | (simp; done) | (simp; omega)))
          case measure => simp [intOf]; omega
      by_cases hk4 : k0 = 4
      · subst hk4
        obtain rfl : p = true := by rw [hp]; rfl
        by_cases h1 : a0 < 0
        · have HE : Hid (C = 1) := by
            unfold Hid; rw [HF.out]
            have hc : ruleK ⟨4, a0, b1', z0⟩ L = 1 := by rw [ruleK, if_pos (bad_iff.2 (show badR _ _ from Or.inr (Or.inl h1)))]
            rw [firstR_hit HB.out.2 HB.out.1 (by rw [hc]; decide) HBL.out.1, hc]
          clear hp hr
          go_wp2_with (fail)
          refine (HP.out _).mono ?_
          rintro e w4 ⟨rfl, hw4⟩
          subst w4
          go_wp2
          go_returns
          refine ⟨by rw [HE.out]; rfl, ?_⟩
          have hb := HBL.out.2
          (repeat' (first | (with_reducible exact Below.refl _ _) | (with_reducible assumption) | (with_reducible refine Below.setCell ?_ ?_ _) | (with_reducible refine Below.alloc ?_ ?_ _) | (with_reducible refine below_drewN ?_ _) | (with_reducible refine Below.drew ?_) | (with_reducible exact Nat.le_refl _) | omega | (simp; done) | (simp; omega)))
        by_cases h2 : L ≤ a0
        · have HE : Hid (C = 1) := by
            unfold Hid; rw [HF.out]
            have hc : ruleK ⟨4, a0, b1', z0⟩ L = 1 := by rw [ruleK, if_pos (bad_iff.2 (show badR _ _ from Or.inr (Or.inr (Or.inl h2))))]
            rw [firstR_hit HB.out.2 HB.out.1 (by rw [hc]; decide) HBL.out.1, hc]
          clear hp hr
          go_wp2_with (fail)
          refine (HP.out _).mono ?_
          rintro e w4 ⟨rfl, hw4⟩
          subst w4
          go_wp2
          go_returns
          refine ⟨by rw [HE.out]; rfl, ?_⟩
          have hb := HBL.out.2
          (repeat' (first | (with_reducible exact Below.refl _ _) | (with_reducible assumption) | (with_reducible refine Below.setCell ?_ ?_ _) | (with_reducible refine Below.alloc ?_ ?_ _) | (with_reducible refine below_drewN ?_ _) | (with_reducible refine Below.drew ?_) | (with_reducible exact Nat.le_refl _) | omega | (simp; done) | (simp; omega)))
        by_cases h3 : b1' < 0
        · have HE : Hid (C = 1) := by
            unfold Hid; rw [HF.out]
            have hc : ruleK ⟨4, a0, b1', z0⟩ L = 1 := by rw [ruleK, if_pos (bad_iff.2 (show badR _ _ from Or.inr (Or.inr (Or.inr ⟨by simp, Or.inl h3⟩))))]
            rw [firstR_hit HB.out.2 HB.out.1 (by rw [hc]; decide) HBL.out.1, hc]
          clear hp hr
          go_wp2_with (fail)
          refine (HP.out _).mono ?_
          rintro e w4 ⟨rfl, hw4⟩
          subst w4
          go_wp2
          go_returns
          refine ⟨by rw [HE.out]; rfl, ?_⟩
          have hb := HBL.out.2
          (repeat' (first | (with_reducible exact Below.refl _ _) | (with_reducible assumption) | (with_reducible refine Below.setCell ?_ ?_ _) | (with_reducible refine Below.alloc ?_ ?_ _) | (with_reducible refine below_drewN ?_ _) | (with_reducible refine Below.drew ?_) | (with_reducible exact Nat.le_refl _) | omega | (simp; done) | (simp; omega)))
        by_cases h4 : L ≤ b1'
        · have HE : Hid (C = 1) := by
            unfold Hid; rw [HF.out]
            have hc : ruleK ⟨4, a0, b1', z0⟩ L = 1 := by rw [ruleK, if_pos (bad_iff.2 (show badR _ _ from Or.inr (Or.inr (Or.inr ⟨by simp, Or.inr h4⟩))))]
            rw [firstR_hit HB.out.2 HB.out.1 (by rw [hc]; decide) HBL.out.1, hc]
          clear hp hr
          go_wp2_with (fail)
          refine (HP.out _).mono ?_
          rintro e w4 ⟨rfl, hw4⟩
          subst w4
          go_wp2
          go_returns
          refine ⟨by rw [HE.out]; rfl, ?_⟩
          have hb := HBL.out.2
          (repeat' (first | (with_reducible exact Below.refl _ _) | (with_reducible assumption) | (with_reducible refine Below.setCell ?_ ?_ _) | (with_reducible refine Below.alloc ?_ ?_ _) | (with_reducible refine below_drewN ?_ _) | (with_reducible refine Below.drew ?_) | (with_reducible exact Nat.le_refl _) | omega | (simp; done) | (simp; omega)))
        have hok : ¬ badR ⟨4, a0, b1', z0⟩ L := by unfold badR; simp only; omega
        cases r with
        | false =>
          have HE : Hid (C = 3) := by
            unfold Hid; rw [HF.out]
            have hc : ruleK ⟨4, a0, b1', z0⟩ L = 3 := by rw [ruleK, if_neg (fun e => hok (bad_iff.1 e)), if_neg (fun e => by simp only at e; rw [decide_eq_true e.1, decide_eq_true e.2] at hr; cases hr)]
            rw [firstR_hit HB.out.2 HB.out.1 (by rw [hc]; decide) HBL.out.1, hc]
          clear hp hr hok
          go_wp2_with (fail)
          refine (HP.out _).mono ?_
          rintro e w4 ⟨rfl, hw4⟩
          subst w4
          go_wp2_with (fail)
          refine (HQ.out _).mono ?_
          rintro e w5 ⟨rfl, hw5⟩
          subst w5
          go_wp2
          go_returns
          refine ⟨by rw [HE.out]; rfl, ?_⟩
          have hb := HBL.out.2
          (repeat' (first | (with_reducible exact Below.refl _ _) | (with_reducible assumption) | (with_reducible refine Below.setCell ?_ ?_ _) | (with_reducible refine Below.alloc ?_ ?_ _) | (with_reducible refine below_drewN ?_ _) | (with_reducible refine Below.drew ?_) | (with_reducible exact Nat.le_refl _) | omega | (simp; done) | (simp; omega)))
        | true =>
          have HM : Hid (firstR L (s.drop (k + 1)) = firstR L s) := by
            have hc : ruleK ⟨4, a0, b1', z0⟩ L = 0 := by rw [ruleK, if_neg (fun e => hok (bad_iff.1 e)), if_pos (by simpa using hr.symm)]
            exact firstR_miss HB.out.2 HB.out.1 hc HBL.out.1
          clear hp hr hok
          go_wp2_with (fail)
          refine (HP.out _).mono ?_
          rintro e w4 ⟨rfl, hw4⟩
          subst w4
          go_wp2_with (fail)
          refine (HQ.out _).mono ?_
          rintro e w5 ⟨rfl, hw5⟩
          subst w5
          have hb := HBL.out.2
          go_wp2
          go_roundw
          case rel =>
            refine ⟨k + 1, by omega, by go_num, HM.out, ?_⟩
            (repeat' (first | (with_reducible exact Below.refl _ _) | (with_reducible assumption) | (with_reducible refine Below.setCell ?_ ?_ _) | (with_reducible refine Below.alloc ?_ ?_ _) | (with_reducible refine below_drewN ?_ _) | (with_reducible refine Below.drew ?_) | (with_reducible exact Nat.le_refl _) | omega | (simp; done) | (simp; omega)))
          case measure => simp [intOf]; omega
      cases p with
      | false =>
        have HE : Hid (C = 1) := by
          unfold Hid; rw [HF.out]
          have hc : ruleK ⟨k0, a0, b1', z0⟩ L = 1 := by rw [ruleK, if_pos (bad_iff.2 (show badR _ _ from Or.inl (fun e => by simp only at e; rw [decide_eq_true e.1, decide_eq_true e.2] at hp; cases hp)))]
          rw [firstR_hit HB.out.2 HB.out.1 (by rw [hc]; decide) HBL.out.1, hc]
        clear hp hr
        go_wp2_with (fail)
        refine (HP.out _).mono ?_
        rintro e w4 ⟨rfl, hw4⟩
        subst w4
        go_wp2
        go_returns
        refine ⟨by rw [HE.out]; rfl, ?_⟩
        have hb := HBL.out.2
        (repeat' (first | (with_reducible exact Below.refl _ _) | (with_reducible assumption) | (with_reducible refine Below.setCell ?_ ?_ _) | (with_reducible refine Below.alloc ?_ ?_ _) | (with_reducible refine below_drewN ?_ _) | (with_reducible refine Below.drew ?_) | (with_reducible exact Nat.le_refl _) | omega | (simp; done) | (simp; omega)))
      | true =>
        have hin : 1 ≤ k0 ∧ k0 ≤ 5 := by simpa using hp.symm
        by_cases h1 : a0 < 0
        · have HE : Hid (C = 1) := by
            unfold Hid; rw [HF.out]
            have hc : ruleK ⟨k0, a0, b1', z0⟩ L = 1 := by rw [ruleK, if_pos (bad_iff.2 (show badR _ _ from Or.inr (Or.inl h1)))]
            rw [firstR_hit HB.out.2 HB.out.1 (by rw [hc]; decide) HBL.out.1, hc]
          clear hp hr
          go_wp2_with (fail)
          refine (HP.out _).mono ?_
          rintro e w4 ⟨rfl, hw4⟩
          subst w4
          go_wp2
          go_returns
          refine ⟨by rw [HE.out]; rfl, ?_⟩
          have hb := HBL.out.2
          (repeat' (first | (with_reducible exact Below.refl _ _) | (with_reducible assumption) | (with_reducible refine Below.setCell ?_ ?_ _) | (with_reducible refine Below.alloc ?_ ?_ _) | (with_reducible refine below_drewN ?_ _) | (with_reducible refine Below.drew ?_) | (with_reducible exact Nat.le_refl _) | omega | (simp; done) | (simp; omega)))
        by_cases h2 : L ≤ a0
        · have HE : Hid (C = 1) := by
            unfold Hid; rw [HF.out]
            have hc : ruleK ⟨k0, a0, b1', z0⟩ L = 1 := by rw [ruleK, if_pos (bad_iff.2 (show badR _ _ from Or.inr (Or.inr (Or.inl h2))))]
            rw [firstR_hit HB.out.2 HB.out.1 (by rw [hc]; decide) HBL.out.1, hc]
          clear hp hr
          go_wp2_with (fail)
          refine (HP.out _).mono ?_
          rintro e w4 ⟨rfl, hw4⟩
          subst w4
          go_wp2
          go_returns
          refine ⟨by rw [HE.out]; rfl, ?_⟩
          have hb := HBL.out.2
          (repeat' (first | (with_reducible exact Below.refl _ _) | (with_reducible assumption) | (with_reducible refine Below.setCell ?_ ?_ _) | (with_reducible refine Below.alloc ?_ ?_ _) | (with_reducible refine below_drewN ?_ _) | (with_reducible refine Below.drew ?_) | (with_reducible exact Nat.le_refl _) | omega | (simp; done) | (simp; omega)))
        have hok : ¬ badR ⟨k0, a0, b1', z0⟩ L := by unfold badR; simp only; omega
        cases r with
        | false =>
          have HE : Hid (C = 3) := by
            unfold Hid; rw [HF.out]
            have hc : ruleK ⟨k0, a0, b1', z0⟩ L = 3 := by rw [ruleK, if_neg (fun e => hok (bad_iff.1 e)), if_neg (fun e => by simp only at e; rw [decide_eq_true e.1, decide_eq_true e.2] at hr; cases hr)]
            rw [firstR_hit HB.out.2 HB.out.1 (by rw [hc]; decide) HBL.out.1, hc]
          clear hp hr hok
          go_wp2_with (fail)
          refine (HP.out _).mono ?_
          rintro e w4 ⟨rfl, hw4⟩
          subst w4
          go_wp2_with (fail)
          refine (HQ.out _).mono ?_
          rintro e w5 ⟨rfl, hw5⟩
          subst w5
          go_wp2
          go_returns
          refine ⟨by rw [HE.out]; rfl, ?_⟩
          have hb := HBL.out.2
          (repeat' (first | (with_reducible exact Below.refl _ _) | (with_reducible assumption) | (with_reducible refine Below.setCell ?_ ?_ _) | (with_reducible refine Below.alloc ?_ ?_ _) | (with_reducible refine below_drewN ?_ _) | (with_reducible refine Below.drew ?_) | (with_reducible exact Nat.le_refl _) | omega | (simp; done) | (simp; omega)))
        | true =>
          have HM : Hid (firstR L (s.drop (k + 1)) = firstR L s) := by
            have hc : ruleK ⟨k0, a0, b1', z0⟩ L = 0 := by rw [ruleK, if_neg (fun e => hok (bad_iff.1 e)), if_pos (by simpa using hr.symm)]
            exact firstR_miss HB.out.2 HB.out.1 hc HBL.out.1
          clear hp hr hok
          go_wp2_with (fail)
          refine (HP.out _).mono ?_
          rintro e w4 ⟨rfl, hw4⟩
          subst w4
          go_wp2_with (fail)
          refine (HQ.out _).mono ?_
          rintro e w5 ⟨rfl, hw5⟩
          subst w5
          have hb := HBL.out.2
          go_wp2
          go_roundw
          case rel =>
            refine ⟨k + 1, by omega, by go_num, HM.out, ?_⟩
            (repeat' (first | (with_reducible exact Below.refl _ _) | (with_reducible assumption) | (with_reducible refine Below.setCell ?_ ?_ _) | (with_reducible refine Below.alloc ?_ ?_ _) | (with_reducible refine below_drewN ?_ _) | (with_reducible refine Below.drew ?_) | (with_reducible exact Nat.le_refl _) | omega | (simp; done) | (simp; omega)))
          case measure => simp [intOf]; omega
    · have e : Hid (C = 0) := by
        unfold Hid
        rw [HF.out, ← hR.out.1, List.drop_eq_nil_of_le (by rw [← HN.out]; omega)]
        rfl
      have HB : Hid (Below w.heap.size w wr) := hR.out.2
      clear hR
      go_wp2
      go_returns
      exact ⟨by rw [e.out]; rfl, HB.out⟩

end Go.Proofs.Ytokdpgabmifdjaa
