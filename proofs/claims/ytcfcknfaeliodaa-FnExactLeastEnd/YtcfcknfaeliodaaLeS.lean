/- Proved here: LeastEnd of the model: leC, leV. -/
import Derived.Test.YtcfcknfaeliodaaLeM
import Derived.Test.YtcfcknfaeliodaaCzS
import Derived.Test.YtcfcknfaeliodaaS2B
import Derived.Test.YtcfcknfaeliodaaFl20
import Derived.Test.YtcfcknfaeliodaaMx20
import Derived.BigQuiet
namespace Go.Proofs.Ytcfcknfaeliodaa
open Go.RowKit
set_option linter.unusedVariables false
set_option linter.unusedSimpArgs false

set_option maxRecDepth 10000 in
set_option maxHeartbeats 6400000 in
theorem spec_le (M W : Int) {w : World} {a b : Option Addr} {c d : Nat} {s t : List Int} (hn : s.length ≤ 1048576 ∧ t.length ≤ 1048576) (h : RdL w (.slice a s.length c) (.slice b t.length d) s t) :
    Calls Try.prog 24 #[.agg #[.slice a s.length c, .int .i64 M, .slice b t.length d], .int .i64 W] w fun e w' => e = .returned (.agg #[.int .i64 (leC M s t W), .int .i64 (leV M s t W)]) ∧ Below w.heap.size w w' := by
  obtain ⟨n, hnn⟩ : ∃ n, n = s.length := ⟨_, rfl⟩
  obtain ⟨m, hmm⟩ : ∃ n, n = t.length := ⟨_, rfl⟩
  obtain ⟨D, hD⟩ : ∃ D, D = leC M s t W := ⟨_, rfl⟩
  obtain ⟨V, hV⟩ : ∃ D, D = leV M s t W := ⟨_, rfl⟩
  obtain ⟨x, hx⟩ : ∃ D, D = clF M s t := ⟨_, rfl⟩
  have HF : Hid (∀ U, Below w.heap.size w U → Calls Try.prog 48 #[.agg #[.slice a n c, .int .i64 M, .slice b m d]] U fun e w' => e = .returned (.int .i64 x) ∧ Below U.heap.size U w') := fun U hb => by
    rw [hx, hnn, hmm]; exact spec_cl M hn (h.below hb)
  have HK : Hid ((x ≠ 0 → D = x ∧ V = 0) ∧ (x = 0 → ¬ (0 ≤ W ∧ W ≤ 12) → D = 3 ∧ V = 0) ∧ (x = 0 → (0 ≤ W ∧ W ≤ 12) → D = 0 ∧ (W = 0 → V = 0) ∧ (W ≠ 0 → ClOk M s t ∧ V = max (moK s t M W m) (alK s t M m)))) := by
    unfold Hid
    rw [hD, hV]
    unfold leV leC
    rw [← hx, ← hmm]
    refine ⟨fun h => ?_, fun h h2 => ?_, fun h h2 => ?_⟩
    · simp [h]
    · simp [h, h2]
    · refine ⟨by simp [h, h2], fun h3 => by simp [h3], fun h3 => ⟨clF_ok (by rw [← hx]; exact h), by simp [h, h2, h3]⟩⟩
  rw [← hD, ← hV, ← hnn, ← hmm]
  have H : Hid (RdL w (.slice a n c) (.slice b m d) s t ∧ n = s.length ∧ m = t.length) := ⟨by rw [hnn, hmm]; exact h, hnn, hmm⟩
  have HS : Hid (S2 w (.cells #[.slice a n c, .int .i64 M, .slice b m d] 55) (.cells #[.int .i64 0, .int .i64 0] 53) ((w.alloc (.cells #[.slice a n c, .int .i64 M, .slice b m d] 55)).alloc (.cells #[.int .i64 0, .int .i64 0] 53))) := S2.new _ _ _
  obtain ⟨q, hq⟩ : ∃ q, q = decide (0 ≤ W ∧ W ≤ 12) := ⟨_, rfl⟩
  have HI : Hid (∀ U, Calls Try.prog 30 #[.int .i64 W, .int .i64 0, .int .i64 12] U fun e w' => e = .returned (.bool q) ∧ w' = U) := by rw [hq]; exact spec_in10 W 0 12
  have HQ : Hid (q = decide (0 ≤ W ∧ W ≤ 12)) := hq
  clear h hnn hmm hD hV hx hn hq
  go_enter Try.func24, Try.ntmps24
  go_wp2_with (fail)
  obtain ⟨U, hU⟩ : ∃ U, U = (w.alloc (.cells #[.slice a n c, .int .i64 M, .slice b m d] 55)).alloc (.cells #[.int .i64 0, .int .i64 0] 53) := ⟨_, rfl⟩
  rw [← hU] at HS ⊢
  clear hU
  refine (HF.out _ HS.out.bl).mono ?_
  rintro e w1 ⟨rfl, hb1⟩
  have HT : Hid (S2 w (.cells #[.slice a n c, .int .i64 M, .slice b m d] 55) (.cells #[.int .i64 0, .int .i64 0] 53) w1) := HS.out.next hb1
  clear hb1 HF HS
  obtain ⟨p0, p1, p2, pf, pl⟩ := tw_three HT.out.b0
  obtain ⟨q0, q1, qf, ql⟩ := tw_two HT.out.b1
  have qf0 := qf 0
  have qf1 := qf 1
  have HB : Hid (Below w.heap.size w w1) := HT.out.bl
  clear pf qf
  by_cases hx0 : x = 0
  case neg =>
    have HV : Hid (D = x ∧ V = 0) := HK.out.1 hx0
    have hA1 : (x != 0) = true := by simpa using hx0
    go_wp2
    try simp only [Exit.inBlock, Exit.then]
    refine bodyPost_ret (by simp [results, Try.results24, go_sem, q0, q1]; try rfl) rfl ⟨by rw [HV.out.1, HV.out.2], ?_⟩
    have hB := HB.out
    (repeat' (first | (with_reducible exact Below.refl _ _) | (with_reducible assumption) | (with_reducible refine Below.setCell ?_ ?_ _) | (with_reducible refine Below.alloc ?_ ?_ _) | (with_reducible refine below_drewN ?_ _) | (with_reducible refine Below.drew ?_) | (with_reducible exact Nat.le_refl _) | omega | (simp; done) | (simp; omega)))
  subst hx0
  go_wp2_with (fail)
  refine (HI.out _).mono ?_
  rintro e w5 ⟨rfl, hw5⟩
  subst w5
  clear HI
  cases q with
  | false =>
    have HV : Hid (D = 3 ∧ V = 0) := HK.out.2.1 (by first | rfl | trivial) (of_decide_eq_false HQ.out.symm)
    go_wp2
    try simp only [Exit.inBlock, Exit.then]
    refine bodyPost_ret (by simp [results, Try.results24, go_sem, q0, q1]; try rfl) rfl ⟨by rw [HV.out.1, HV.out.2], ?_⟩
    have hB := HB.out
    (repeat' (first | (with_reducible exact Below.refl _ _) | (with_reducible assumption) | (with_reducible refine Below.setCell ?_ ?_ _) | (with_reducible refine Below.alloc ?_ ?_ _) | (with_reducible refine below_drewN ?_ _) | (with_reducible refine Below.drew ?_) | (with_reducible exact Nat.le_refl _) | omega | (simp; done) | (simp; omega)))
  | true =>
  have hWb : 0 ≤ W ∧ W ≤ 12 := of_decide_eq_true HQ.out.symm
  have hk := HK.out.2.2 (by first | rfl | trivial) hWb
  have HD : Hid (D = 0) := hk.1
  by_cases hw0 : W = 0
  · have HV : Hid (V = 0) := hk.2.1 hw0
    subst hw0
    clear hk hWb
    go_wp2
    try simp only [Exit.inBlock, Exit.then]
    refine bodyPost_ret (by simp [results, Try.results24, go_sem, q0, q1]; try rfl) rfl ⟨by rw [HD.out, HV.out], ?_⟩
    have hB := HB.out
    (repeat' (first | (with_reducible exact Below.refl _ _) | (with_reducible assumption) | (with_reducible refine Below.setCell ?_ ?_ _) | (with_reducible refine Below.alloc ?_ ?_ _) | (with_reducible refine below_drewN ?_ _) | (with_reducible refine Below.drew ?_) | (with_reducible exact Nat.le_refl _) | omega | (simp; done) | (simp; omega)))
  have HO : Hid (ClOk M s t ∧ V = max (moK s t M W m) (alK s t M m)) := hk.2.2 hw0
  have hW0 := hWb.1
  have hW1 := hWb.2
  have hw1 : (W == 0) = false := beq_eq_false_iff_ne.2 hw0
  have hM0 : 1 ≤ M := HO.out.1.mv.1
  have hM1 : M ≤ 100 := HO.out.1.mv.2
  have hm8 : m ≤ 8 := by rw [H.out.2.2]; exact HO.out.1.lr.2
  have hn6 : n ≤ 6 := by rw [H.out.2.1]; exact HO.out.1.ls.2
  clear hk hw0
  obtain ⟨A0, hA0⟩ : ∃ A, A = ((m : Int) + 1) * M := ⟨_, rfl⟩
  obtain ⟨B0, hB0⟩ : ∃ A, A = W * ((m : Int) + 1) * M := ⟨_, rfl⟩
  have HA0 : Hid (A0 = alK s t M 0 ∧ B0 = moK s t M W 0) := ⟨by rw [hA0, alK, H.out.2.2], by rw [hB0, moK, H.out.2.2]⟩
  have hAb : 0 ≤ A0 ∧ A0 ≤ 900 := by rw [HA0.out.1]; have := al_bd HO.out.1 0 (Nat.zero_le _); simpa using this
  have hBb : 0 ≤ B0 ∧ B0 ≤ 1000000 := by rw [HA0.out.2]; exact mo_bd HO.out.1 hWb 0 (Nat.zero_le _)
  have b9 := mul_bd20 hW0 hW1 (show (0 : Int) ≤ (m : Int) + 1 by omega) (show (m : Int) + 1 ≤ 9 by omega)
  have e1 : IntKind.i64.wrap (((m : Int) + 1) * M) = A0 := by rw [← hA0, IntKind.wrap_i64]; omega
  have e7 : IntKind.i64.wrap (W * ((m : Int) + 1)) = W * ((m : Int) + 1) := by rw [IntKind.wrap_i64]; omega
  have e8 : IntKind.i64.wrap (W * ((m : Int) + 1) * M) = B0 := by rw [← hB0, IntKind.wrap_i64]; omega
  have HWB : Hid (0 ≤ W ∧ W ≤ 12) := hWb
  clear hA0 hB0 hWb
  go_wp2
  go_loopw [7, 8, 9] (fun q r i wr => ∃ (k : Nat) (A B : Int), k ≤ m ∧ q = .int .i64 A ∧ r = .int .i64 B ∧ i = .int .i64 k ∧ (0 ≤ A ∧ A ≤ 9000) ∧ Hid (S2 w (.cells #[.slice a n c, .int .i64 M, .slice b m d] 55) (.cells #[.int .i64 0, .int .i64 0] 53) wr ∧ A = alK s t M k ∧ B = moK s t M W k)) (fun _ _ i _ => m - (intOf i).toNat)
  case atStart => exact ⟨0, A0, B0, Nat.zero_le _, by first | rfl | (rw [e1]), by first | rfl | (rw [e7, e8]) | (rw [e8]), rfl, by omega, HT.out, HA0.out.1, HA0.out.2⟩
  case round =>
    clear HT HA0 hAb hBb e1 e7 e8 b9 p0 p1 p2 pl q0 q1 ql qf0 qf1 HB
    obtain ⟨k, A, B, hk, rfl, rfl, rfl, hA, hR⟩ := hrel
    obtain ⟨p0, p1, p2, pf, pl⟩ := tw_three hR.out.1.b0
    obtain ⟨q0, q1, qf, ql⟩ := tw_two hR.out.1.b1
    have qf0 := qf 0
    have qf1 := qf 1
    have HB : Hid (Below w.heap.size w wr) := hR.out.1.bl
    clear pf qf
    have hA0 := hA.1
    have hA1 := hA.2
    by_cases hlt : k < m
    · have hkt : k < t.length := by rw [← H.out.2.2]; exact hlt
      obtain ⟨p, hp1, hp2⟩ := rt_nat (HO.out.1.rs k hkt)
      rw [← H.out.2.1] at hp2
      have hpn : p < n := by omega
      obtain ⟨g2, o2, rfl, hg2, hc2⟩ := rd_at (H.out.1.2.below hR.out.1.bl) hlt
      obtain ⟨g1, o1, rfl, hg1, hc1⟩ := rd_at (H.out.1.1.below hR.out.1.bl) hpn
      rw [hp1] at hc2
      obtain ⟨st, hst⟩ : ∃ x, x = s.getD p 0 := ⟨_, rfl⟩
      rw [← hst] at hc1
      have hsb := HO.out.1.ts p (by rw [← H.out.2.1]; exact hpn)
      rw [← hst] at hsb
      have e3 : IntKind.i64.wrap (A + st) = A + st := by rw [IntKind.wrap_i64]; omega
      have HP : Hid (t.getD k 0 = (p : Int) + 1 ∧ st = s.getD p 0 ∧ k < t.length) := ⟨hp1, hst, hkt⟩
      have HR : Hid (S2 w (.cells #[.slice (some ⟨g1, o1, none⟩) n c, .int .i64 M, .slice (some ⟨g2, o2, none⟩) m d] 55) (.cells #[.int .i64 0, .int .i64 0] 53) wr ∧ A = alK s t M k ∧ B = moK s t M W k) := hR.out
      have hAn : 0 ≤ A + st ∧ A + st ≤ 9000 := by
        have h3 := al_bd HO.out.1 (k + 1) hkt
        rw [alK, ← hR.out.2.1, tm_at hp1, ← hst] at h3
        omega
      have b0 : (0 : Int) ≤ (k : Int) := by omega
      have b1 : (k : Int) < (m : Int) := by omega
      have b2 : (0 : Int) ≤ (p : Int) := by omega
      have b3 : (p : Int) < (n : Int) := by omega
      have e9 : IntKind.i64.wrap ((p : Int) + 1 - 1) = (p : Int) := by rw [IntKind.wrap_i64]; omega
      have e10 : (p : Int) + 1 - 1 = (p : Int) := by omega
      clear hst hR hA hp1 hkt HB q0 q1 ql qf0 qf1
      go_wp2
      go_quiet (fail)
      go_wp2
      have HS1 : Hid (S2 w (.cells #[.slice (some ⟨g1, o1, none⟩) n c, .int .i64 M, .slice (some ⟨g2, o2, none⟩) m d] 55) (.cells #[.int .i64 0, .int .i64 0] 53) wr) := HR.out.1
      clear p0 p1 p2 pl hg1 hg2 hc1 hc2
      go_loopw [11, 12] (fun q i wq => ∃ (j : Nat) (O : Int), j ≤ m ∧ q = .int .i64 O ∧ i = .int .i64 j ∧ (0 ≤ O ∧ O ≤ (j : Int)) ∧ Hid (S2 w (.cells #[.slice (some ⟨g1, o1, none⟩) n c, .int .i64 M, .slice (some ⟨g2, o2, none⟩) m d] 55) (.cells #[.int .i64 0, .int .i64 0] 53) wq ∧ O = ofK t ((p : Int) + 1) j)) (fun _ i _ => m - (intOf i).toNat)
      case atStart => exact ⟨0, 0, Nat.zero_le _, rfl, rfl, by omega, HS1.out.next (below_drewN (Below.refl _ _) _), rfl⟩
      case round =>
        clear HS1
        obtain ⟨j, O, hj, rfl, rfl, hOb, hR⟩ := hrel
        obtain ⟨p0, p1, p2, pf, pl⟩ := tw_three hR.out.1.b0
        clear pf
        have hO0 := hOb.1
        have hO1 := hOb.2
        by_cases hlt2 : j < m
        · obtain ⟨g3, o3, e', hg3, hc3⟩ := rd_at (H.out.1.2.below hR.out.1.bl) hlt2
          simp only [Option.some.injEq, Addr.mk.injEq, and_true] at e'
          obtain ⟨rfl, rfl⟩ := e'
          obtain ⟨g4, o4, e', hg4, hc4⟩ := rd_at (H.out.1.2.below hR.out.1.bl) hlt
          simp only [Option.some.injEq, Addr.mk.injEq, and_true] at e'
          obtain ⟨rfl, rfl⟩ := e'
          rw [HP.out.1] at hc4
          obtain ⟨y, hy⟩ : ∃ y, y = t.getD j 0 := ⟨_, rfl⟩
          rw [← hy] at hc3
          obtain ⟨z, hz⟩ : ∃ z : Int, z = (if y = (p : Int) + 1 then 1 else 0) := ⟨_, rfl⟩
          have hzb : 0 ≤ z ∧ z ≤ 1 := by rw [hz]; split <;> omega
          have HFL : Hid (∀ U, Calls Try.prog 49 #[.bool (y == (p : Int) + 1)] U fun e w' => e = .returned (.int .i64 z) ∧ w' = U) := fun U => by
            refine (spec_flag20 (y == (p : Int) + 1) U).mono ?_
            rintro e w' ⟨rfl, hw⟩
            refine ⟨?_, hw⟩
            rw [hz]
            congr 2
            by_cases e : y = (p : Int) + 1 <;> simp [e]
          have HN : Hid (O + z = ofK t ((p : Int) + 1) (j + 1)) := by
            unfold Hid; rw [ofK, ← hR.out.2, hz, hy]
          have HR2 : Hid (S2 w (.cells #[.slice (some ⟨g1, o1, none⟩) n c, .int .i64 M, .slice (some ⟨g2, o2, none⟩) m d] 55) (.cells #[.int .i64 0, .int .i64 0] 53) wr) := hR.out.1
          have e4 : IntKind.i64.wrap (O + z) = O + z := by rw [IntKind.wrap_i64]; omega
          have c0 : (0 : Int) ≤ (j : Int) := by omega
          have c1 : (j : Int) < (m : Int) := by omega
          have hzb0 := hzb.1
          have hzb1 := hzb.2
          clear hy hz hR hOb
          go_wp2
          go_quiet (first | (go_at_call 49; with_reducible refine Calls.quiet_of_same (HFL.out _)))
          go_wp2
          go_roundw
          case rel => exact ⟨j + 1, O + z, by omega, by first | rfl | (rw [e4]), by go_num, by omega, HR2.out.next (below_drewN (Below.refl _ _) _), HN.out⟩
          case measure => simp [intOf]; omega
        · obtain rfl : j = m := by omega
          obtain ⟨P, hP⟩ : ∃ P, P = W * O * st := ⟨_, rfl⟩
          have c8 := mul_bd20 hW0 hW1 hO0 (show O ≤ 8 by omega)
          have c9 := mul_bd20 c8.1 c8.2 (show 0 ≤ st by omega) hsb.2
          obtain ⟨mx, hmx⟩ : ∃ x, x = max B (W * O * st + 2 * M) := ⟨_, rfl⟩
          have HX : Hid (∀ U, Calls Try.prog 50 #[.int .i64 B, .int .i64 (W * O * st + 2 * M)] U fun e w' => e = .returned (.int .i64 mx) ∧ w' = U) := by rw [hmx]; exact spec_max20 _ _
          have HN : Hid (mx = moK s t M W (k + 1) ∧ A + st = alK s t M (k + 1)) := by
            refine ⟨?_, ?_⟩
            · rw [hmx, moK, HP.out.1, ← H.out.2.2, ← hR.out.2, tm_at HP.out.1, ← HP.out.2.1, ← HR.out.2.2]
            · rw [alK, ← HR.out.2.1, tm_at HP.out.1, ← HP.out.2.1]
          have HR2 : Hid (S2 w (.cells #[.slice (some ⟨g1, o1, none⟩) n c, .int .i64 M, .slice (some ⟨g2, o2, none⟩) j d] 55) (.cells #[.int .i64 0, .int .i64 0] 53) wr) := hR.out.1
          have d4 : IntKind.i64.wrap (W * O) = W * O := by rw [IntKind.wrap_i64]; omega
          have d5 : IntKind.i64.wrap (W * O * st) = W * O * st := by rw [IntKind.wrap_i64]; omega
          have d6 : IntKind.i64.wrap (2 * M) = 2 * M := by rw [IntKind.wrap_i64]; omega
          have d7 : IntKind.i64.wrap (W * O * st + 2 * M) = W * O * st + 2 * M := by rw [IntKind.wrap_i64]; omega
          clear hP hmx hR
          go_wp2_with (fail)
          refine (HX.out _).mono ?_
          rintro e w5 ⟨rfl, hw5⟩
          subst w5
          clear HX
          go_wp2
          go_roundw
          case rel => exact ⟨k + 1, A + st, mx, by omega, by first | rfl | (rw [e3]), rfl, by go_num, hAn, HR2.out, HN.out.2, HN.out.1⟩
          case measure => simp [intOf]; omega
    · obtain rfl : k = m := by omega
      obtain ⟨mx, hmx⟩ : ∃ x, x = max B A := ⟨_, rfl⟩
      have HX : Hid (∀ U, Calls Try.prog 50 #[.int .i64 B, .int .i64 A] U fun e w' => e = .returned (.int .i64 mx) ∧ w' = U) := by rw [hmx]; exact spec_max20 _ _
      have HV : Hid (V = mx) := by unfold Hid; rw [HO.out.2, hmx, hR.out.2.1, hR.out.2.2]
      clear hmx hR
      go_wp2_with (fail)
      refine (HX.out _).mono ?_
      rintro e w5 ⟨rfl, hw5⟩
      subst w5
      clear HX
      go_wp2
      try simp only [Exit.inBlock, Exit.then]
      refine bodyPost_ret (by simp [results, Try.results24, go_sem, q0, q1]; try rfl) rfl ⟨by rw [HD.out, HV.out], ?_⟩
      have hB := HB.out
      (repeat' (first | (with_reducible exact Below.refl _ _) | (with_reducible assumption) | (with_reducible refine Below.setCell ?_ ?_ _) | (with_reducible refine Below.alloc ?_ ?_ _) | (with_reducible refine below_drewN ?_ _) | (with_reducible refine Below.drew ?_) | (with_reducible exact Nat.le_refl _) | omega | (simp; done) | (simp; omega)))

end Go.Proofs.Ytcfcknfaeliodaa
