/- Proved here: BitsOf of the model: btV. The float has 64 bits. -/
import Derived.Test.YtmemjohpimjmpaaFbI
import Derived.Test.YtmemjohpimjmpaaFbN
import Derived.Test.YtmemjohpimjmpaaIntsBase
namespace Go.Proofs.Ytmemjohpimjmpaa
open Go.RowKit
set_option linter.unusedVariables false
set_option linter.unusedSimpArgs false

theorem neg_run {x y : Nat} (h : Op.negFloat .f64 x = y) (w : World) : (Op.unary .neg (.float .f64 x)).run Try.prog w = .ok (.float .f64 y) w := by rw [← h]; rfl
set_option maxRecDepth 10000 in
set_option maxHeartbeats 3200000 in
theorem spec_bits (x : Nat) (hx : x < 18446744073709551616) (w : World) : Calls Try.prog 12 #[.float .f64 x] w fun e w' => e = .returned (.int .u64 (btV x)) ∧ ∃ n, w' = w.drewN n := by
  have HN : Hid (∀ W, Calls Try.prog 30 #[.float .f64 x] W fun e w' => e = .returned (.bool (fv x).isNone) ∧ w' = W) := fun W => spec_isNaN x W
  cases hv : fv x with
  | none =>
    rw [hv] at HN
    have HB : Hid (btV x = 9221120237041090560) := by unfold Hid btV; rw [hv]; rfl
    clear hv hx
    go_enter Try.func12, Try.ntmps12
    go_wp2_with (fail)
    refine (HN.out _).mono ?_
    rintro e w3 ⟨rfl, hw3⟩
    subst w3
    go_wp2
    go_returns
    exact ⟨by rw [HB.out]; rfl, 0, rfl⟩
  | some y =>
    obtain rfl := (fv_some hv).1
    have HB : btV x = x := by unfold btV; rw [hv]; rfl
    obtain ⟨s, R, hxR, hR⟩ := fl_cases hx hv
    rw [hv] at HN
    rcases hR with rfl | rfl | ⟨L, K, hd, h0, rfl⟩
    · cases s
      · have hx0 : x = 0 := by rw [hxR]; rfl
        subst hx0
        have a1 : (FloatKind.f64.format.order 0 0 == some .lt) = false := by decide
        have a2 : (FloatKind.f64.format.order 0 0 == some .eq) = true := by decide
        have a3 : floatBits .quo .f64 4607182418800017408 0 = some 9218868437227405312 := by decide
        have a4 : (FloatKind.f64.format.order 9218868437227405312 0 == some .lt) = false := by decide
        have e1 : ∀ W, fres .quo 4607182418800017408 0 W = 9218868437227405312 := fun W => fresB a3 W
        have e2 := fnnB a3
        have HC : Hid (btV 0 = 0) := HB
        clear hxR a3 HB hv hx
        go_enter Try.func12, Try.ntmps12
        go_wp2_with (fail)
        refine (HN.out _).mono ?_
        rintro e w3 ⟨rfl, hw3⟩
        subst w3
        go_wp2
        go_returns
        exact ⟨by rw [HC.out]; rfl, _, rfl⟩
      · have hx0 : x = 9223372036854775808 := by rw [hxR]; decide
        subst hx0
        have a1 : (FloatKind.f64.format.order 9223372036854775808 0 == some .lt) = false := by decide
        have a2 : (FloatKind.f64.format.order 9223372036854775808 0 == some .eq) = true := by decide
        have a3 : floatBits .quo .f64 4607182418800017408 9223372036854775808 = some 18442240474082181120 := by decide
        have a4 : (FloatKind.f64.format.order 18442240474082181120 0 == some .lt) = true := by decide
        have a5 : ∀ W, (Op.unary .neg (.float .f64 9223372036854775808)).run Try.prog W = .ok (.float .f64 0) W := fun W => neg_run (by decide) W
        have a6 : (FloatKind.f64.format.order 0 0 == some .eq) = true := by decide
        have e1 : ∀ W, fres .quo 4607182418800017408 9223372036854775808 W = 18442240474082181120 := fun W => fresB a3 W
        have e2 := fnnB a3
        have HC : Hid (btV 9223372036854775808 = 9223372036854775808) := HB
        clear hxR a3 HB hv hx
        go_enter Try.func12, Try.ntmps12
        go_wp2_with (fail)
        refine (HN.out _).mono ?_
        rintro e w3 ⟨rfl, hw3⟩
        subst w3
        go_wp2
        go_returns
        exact ⟨by rw [HC.out]; rfl, _, rfl⟩
    · cases s
      · have hx0 : x = 9218868437227405312 := by rw [hxR]; rfl
        subst hx0
        have a1 : (FloatKind.f64.format.order 9218868437227405312 0 == some .lt) = false := by decide
        have a2 : (FloatKind.f64.format.order 9218868437227405312 0 == some .eq) = false := by decide
        have a3 : floatBits .add .f64 9218868437227405312 9218868437227405312 = some 9218868437227405312 := by decide
        have a4 : (FloatKind.f64.format.order 9218868437227405312 9218868437227405312 == some .eq) = true := by decide
        have e1 : ∀ W, fres .add 9218868437227405312 9218868437227405312 W = 9218868437227405312 := fun W => fresB a3 W
        have e2 := fnnB a3
        have HC : Hid (btV 9218868437227405312 = bits .or .u64 0 9218868437227405312) := by unfold Hid; rw [HB]; decide
        clear hxR a3 HB hv hx
        go_enter Try.func12, Try.ntmps12
        go_wp2_with (fail)
        refine (HN.out _).mono ?_
        rintro e w3 ⟨rfl, hw3⟩
        subst w3
        go_wp2
        go_returns
        exact ⟨by rw [HC.out]; rfl, _, rfl⟩
      · have hx0 : x = 18442240474082181120 := by rw [hxR]; decide
        subst hx0
        have a1 : (FloatKind.f64.format.order 18442240474082181120 0 == some .lt) = true := by decide
        have a5 : ∀ W, (Op.unary .neg (.float .f64 18442240474082181120)).run Try.prog W = .ok (.float .f64 9218868437227405312) W := fun W => neg_run (by decide) W
        have a2 : (FloatKind.f64.format.order 9218868437227405312 0 == some .eq) = false := by decide
        have a3 : floatBits .add .f64 9218868437227405312 9218868437227405312 = some 9218868437227405312 := by decide
        have a4 : (FloatKind.f64.format.order 9218868437227405312 9218868437227405312 == some .eq) = true := by decide
        have e1 : ∀ W, fres .add 9218868437227405312 9218868437227405312 W = 9218868437227405312 := fun W => fresB a3 W
        have e2 := fnnB a3
        have HC : Hid (btV 18442240474082181120 = bits .or .u64 9223372036854775808 9218868437227405312) := by unfold Hid; rw [HB]; decide
        clear hxR a3 HB hv hx
        go_enter Try.func12, Try.ntmps12
        go_wp2_with (fail)
        refine (HN.out _).mono ?_
        rintro e w3 ⟨rfl, hw3⟩
        subst w3
        go_wp2
        go_returns
        exact ⟨by rw [HC.out]; rfl, _, rfl⟩
    · obtain ⟨P, hP⟩ : ∃ P : Int, P = (L : Int) - 1074 := ⟨_, rfl⟩
      obtain ⟨D, hD1, hD2⟩ := twice_of hd h0
      have hwn : Ieee.double.word false (L * 4503599627370496 + K) = Ieee.double.nearest false K P := by rw [hP]; exact (nr_dg false hd).symm
      have hoz := ord_zero s hd h0
      have hop := ord_zero false hd h0
      rw [← hxR] at hoz
      rw [hwn] at hop
      rw [← hP] at hD1 hD2
      have hng : s = true → Op.negFloat .f64 x = Ieee.double.nearest false K P := fun hs => by
        rw [hxR, hs, neg_of true (by have := hd.few; have := hd.end_; omega), ← hwn]; rfl
      cases s
      · have HX : Hid (x = Ieee.double.word false (L * 4503599627370496 + K) ∧ btV x = x) := ⟨hxR, HB⟩
        obtain ⟨Y, hY⟩ : ∃ Y, Y = Ieee.double.nearest false K P := ⟨_, rfl⟩
        have hxY : x = Y := by rw [hxR, hwn, hY]
        rw [← hY] at hD1 hD2 hop
        rw [hxY] at HN ⊢
        have a1 : (FloatKind.f64.format.order Y 0 == some .lt) = false := by rw [show FloatKind.f64.format = Ieee.double from rfl, hop]; rfl
        have a2 : (FloatKind.f64.format.order Y 0 == some .eq) = false := by rw [show FloatKind.f64.format = Ieee.double from rfl, hop]; rfl
        have a3 : (FloatKind.f64.format.order D Y == some .eq) = false := hD2
        have e1 : ∀ W, fres .add Y Y W = D := fun W => fresB hD1 W
        have e2 := fnnB hD1
        rw [← hxY] at HN ⊢
        rw [← hxY] at a1 a2 a3 e1 e2
        have HY : Hid (x = Ieee.double.nearest false K P) := hxY.trans hY
        clear hD1 hD2 hoz hop hng hwn hxR HB hv hx hY hxY
        go_enter Try.func12, Try.ntmps12
        go_wp2_with (fail)
        refine (HN.out _).mono ?_
        rintro e w3 ⟨rfl, hw3⟩
        subst w3
        go_wp2
        clear HN a1 a2 a3 e1 e2
        rw [HY.out]
        have HE : Hid ((L : Int) - 1074 = P ∧ Dg L K ∧ 0 < K) := ⟨hP.symm, hd, h0⟩
        clear hd h0 hP
        go_loopw [0, 4] (fun f e wr => ∃ j n : Nat, (j : Int) ≤ max P 0 ∧ e = .int .i64 j ∧ f = .float .f64 (Ieee.double.nearest false K (P - j)) ∧ Hid (wr = w.drewN n)) (fun _ e _ => (max P 0 - intOf e).toNat)
        case atStart => exact ⟨0, _, by omega, rfl, by rw [show P - ((0 : Nat) : Int) = P by omega], rfl⟩
        case round =>
          obtain ⟨j, n, hj, rfl, rfl, hR⟩ := hrel
          have hLP := HE.out.1
          have hTp := HE.out.2.1.top
          have hFw := HE.out.2.1.few
          have hEn := HE.out.2.1.end_
          obtain ⟨F, hF⟩ : ∃ F, F = Ieee.double.nearest false K (P - j) := ⟨_, rfl⟩
          rw [← hF]
          by_cases hlt : (j : Int) < P
          · have hge := lt_no HE.out.2.1 (p := P - j) (by omega) (by omega) 53 (by decide) 52 (by decide) (by rw [p52]; rcases hTp with h | h <;> omega) (by omega)
            rw [← two53, ← hF] at hge
            have hl : (FloatKind.f64.format.order F 4845873199050653696 == some .gt || FloatKind.f64.format.order F 4845873199050653696 == some .eq) = true := by
              rw [show FloatKind.f64.format = Ieee.double from rfl]; rcases hge with h | h <;> rw [h] <;> rfl
            have hq : floatBits .quo .f64 F 4611686018427387904 = some (Ieee.double.nearest false K (P - (j + 1 : Nat))) := by
              rw [hF, half_of (j := 53) (by rw [p53]; exact hFw) (by decide) (by omega) (by omega)]; congr 2; omega
            obtain ⟨G, hG⟩ : ∃ G, G = Ieee.double.nearest false K (P - (j + 1 : Nat)) := ⟨_, rfl⟩
            rw [← hG] at hq
            have e1 : ∀ W, fres .quo F 4611686018427387904 W = G := fun W => fresB hq W
            have e2 := fnnB hq
            have HG : Hid (G = Ieee.double.nearest false K (P - (j + 1 : Nat)) ∧ (j : Int) < P) := ⟨hG, hlt⟩
            have bj : (j : Int) ≤ 1100 := by omega
            obtain rfl := hR.out
            clear hq hG hge hF hR hlt hj hLP hTp hFw hEn
            go_wp2
            go_roundw
            case rel => exact ⟨j + 1, n + 0, by have := HG.out.2; omega, by go_num, by rw [HG.out.1], by unfold Hid; simp⟩
            case measure => have := HG.out.2; simp [intOf]; omega
          · have hge := lt_yes HE.out.2.1 (p := P - j) (by omega) (by omega) 53 (by decide) 53 (by decide) (by rw [p53]; exact hFw) (by omega)
            rw [← two53, ← hF] at hge
            have hl : (FloatKind.f64.format.order F 4845873199050653696 == some .gt || FloatKind.f64.format.order F 4845873199050653696 == some .eq) = false := by
              rw [show FloatKind.f64.format = Ieee.double from rfl, hge]; rfl
            obtain ⟨E, hE⟩ : ∃ E : Int, E = j := ⟨_, rfl⟩
            have hEj : E = max P 0 := by omega
            rw [← hE]
            rw [← hE] at hF
            have HF : Hid (F = Ieee.double.nearest false K (P - E) ∧ E = max P 0) := ⟨hF, hEj⟩
            obtain rfl := hR.out
            clear hF hEj hge hR hlt hj hE hLP hTp hFw hEn
            go_wp2
            go_loopw [0, 4] (fun f e wr => ∃ (E : Int) (n : Nat), ((0 ≤ P ∧ E = P) ∨ (P < 0 ∧ P ≤ E ∧ E ≤ 0)) ∧ e = .int .i64 E ∧ f = .float .f64 (Ieee.double.nearest false K (P - E)) ∧ Hid (wr = w.drewN n)) (fun _ e _ => (intOf e - P).toNat)
            case atStart => exact ⟨E, _, by have := HF.out.2; omega, rfl, by rw [HF.out.1], rfl⟩
            case round =>
              clear hl HF
              obtain ⟨E, n, hE, rfl, rfl, hR⟩ := hrel
              have hLP := HE.out.1
              have hTp := HE.out.2.1.top
              have hFw := HE.out.2.1.few
              have hEn := HE.out.2.1.end_
              obtain ⟨F, hF⟩ : ∃ F, F = Ieee.double.nearest false K (P - E) := ⟨_, rfl⟩
              rw [← hF]
              by_cases hlt : P < E
              · have hge := lt_yes HE.out.2.1 (p := P - E) (by omega) (by omega) 52 (by decide) 53 (by decide) (by rw [p53]; exact hFw) (by omega)
                rw [← two52, ← hF] at hge
                have hl : (FloatKind.f64.format.order F 4841369599423283200 == some .lt) = true := by
                  rw [show FloatKind.f64.format = Ieee.double from rfl, hge]; rfl
                have hq : floatBits .mul .f64 F 4611686018427387904 = some (Ieee.double.nearest false K (P - (E - 1))) := by
                  rw [hF, dbl_of (j := 53) (by rw [p53]; exact hFw) (by decide) (by omega) (by omega)]; congr 2; omega
                obtain ⟨G, hG⟩ : ∃ G, G = Ieee.double.nearest false K (P - (E - 1)) := ⟨_, rfl⟩
                rw [← hG] at hq
                have e1 : ∀ W, fres .mul F 4611686018427387904 W = G := fun W => fresB hq W
                have e2 := fnnB hq
                have HG : Hid (G = Ieee.double.nearest false K (P - (E - 1)) ∧ P < E ∧ P < 0 ∧ E ≤ 0) := ⟨hG, hlt, by omega, by omega⟩
                have bj : (-1074 : Int) < E := by omega
                have bk : E ≤ 0 := by omega
                obtain rfl := hR.out
                clear hq hG hge hF hR hlt hE hLP hTp hFw hEn
                go_wp2
                go_roundw
                case rel => exact ⟨E - 1, n + 0, by have := HG.out.2; omega, by first | rfl | go_num, by rw [HG.out.1], by unfold Hid; simp⟩
                case measure => have := HG.out.2; simp [intOf]; omega
              · have hEP : E = P := by omega
                subst hEP
                rw [show E - E = 0 by omega] at hF
                by_cases hK : K < 4503599627370496
                · have hL : L = 0 := by rcases hTp with h | h <;> omega
                  have hPv : E = -1074 := by omega
                  have hge := lt_yes HE.out.2.1 (p := 0) (by omega) (by omega) 52 (by decide) 52 (by decide) (by rw [p52]; exact hK) (by omega)
                  rw [← two52, ← hF] at hge
                  have hl : (FloatKind.f64.format.order F 4841369599423283200 == some .lt) = true := by
                    rw [show FloatKind.f64.format = Ieee.double from rfl, hge]; rfl
                  have hcv : ∀ W, (convert 24 26 (.float .f64 F)).run Try.prog W = .ok (.int .u64 K) W := fun W =>
                    run_convert_float_int W _ _ .f64 .u64 _ _ (by rw [Try.underlying24]; rfl) Try.underlying26 (by
                      unfold floatToIntVal; rw [hF, int_of (by rw [p53]; omega)]
                      simp only
                      rw [if_pos]
                      exact ⟨by show (0 : Int) ≤ K; omega, by show (K : Int) ≤ 18446744073709551615; omega⟩)
                  obtain rfl := hR.out
                  have HO : Hid (bits .or .u64 0 K = btV x) := by
                    unfold Hid
                    rw [or_u64 63 (by decide) (by decide) (by decide) (by decide) (by omega) (by omega)]
                    rw [HX.out.2, HX.out.1, hL]; simp [Ieee.Format.word, sw64]
                  subst hPv
                  clear hF hge hR hE HE hlt hL hLP hTp hFw hEn
                  go_wp2
                  go_returns
                  exact ⟨by rw [← HO.out]; rfl, n, rfl⟩
                · have hge := lt_no HE.out.2.1 (p := 0) (by omega) (by omega) 52 (by decide) 52 (by decide) (by rw [p52]; omega) (by omega)
                  rw [← two52, ← hF] at hge
                  have hl : (FloatKind.f64.format.order F 4841369599423283200 == some .lt) = false := by
                    rw [show FloatKind.f64.format = Ieee.double from rfl]; rcases hge with h | h <;> rw [h] <;> rfl
                  have hcv : ∀ W, (convert 24 26 (.float .f64 F)).run Try.prog W = .ok (.int .u64 K) W := fun W =>
                    run_convert_float_int W _ _ .f64 .u64 _ _ (by rw [Try.underlying24]; rfl) Try.underlying26 (by
                      unfold floatToIntVal; rw [hF, int_of (by rw [p53]; exact hFw)]
                      simp only
                      rw [if_pos]
                      exact ⟨by show (0 : Int) ≤ K; omega, by show (K : Int) ≤ 18446744073709551615; omega⟩)
                  obtain rfl := hR.out
                  have e3 : IntKind.i64.wrap (E + 1075) = E + 1075 := by rw [IntKind.wrap_i64]; omega
                  have e4 : IntKind.u64.wrap (E + 1075) = E + 1075 := by rw [IntKind.wrap_u64]; omega
                  have e5 : IntKind.u64.wrap ((E + 1075) * 4503599627370496) = (E + 1075) * 4503599627370496 := by rw [IntKind.wrap_u64]; omega
                  have e6 : IntKind.u64.wrap ((K : Int) - 4503599627370496) = (K : Int) - 4503599627370496 := by rw [IntKind.wrap_u64]; omega
                  have HO : Hid (bits .or .u64 (bits .or .u64 0 ((E + 1075) * 4503599627370496)) ((K : Int) - 4503599627370496) = btV x) := by
                    unfold Hid
                    rw [or_u64 (x := 0) 63 (by decide) (by decide) (by decide) (by decide) (by omega) (by omega), or_u64 52 (by decide) (by omega) (by omega) (by omega) (by omega) (by omega)]
                    rw [HX.out.2, HX.out.1]; simp [Ieee.Format.word, sw64]; omega
                  clear hF hge hR hE hlt hLP hTp hFw hEn
                  go_wp2
                  go_returns
                  exact ⟨by rw [← HO.out]; rfl, n, rfl⟩
      · have HX : Hid (x = Ieee.double.word true (L * 4503599627370496 + K) ∧ btV x = x) := ⟨hxR, HB⟩
        obtain ⟨Y, hY⟩ : ∃ Y, Y = Ieee.double.nearest false K P := ⟨_, rfl⟩
        have a6 := hng rfl
        rw [← hY] at hD1 hD2 hop a6
        have a5 : ∀ W, (Op.unary .neg (.float .f64 x)).run Try.prog W = .ok (.float .f64 Y) W := fun W => neg_run a6 W
        clear a6
        have a1 : (FloatKind.f64.format.order x 0 == some .lt) = true := by rw [show FloatKind.f64.format = Ieee.double from rfl, hoz]; rfl
        have a2 : (FloatKind.f64.format.order Y 0 == some .eq) = false := by rw [show FloatKind.f64.format = Ieee.double from rfl, hop]; rfl
        have a3 : (FloatKind.f64.format.order D Y == some .eq) = false := hD2
        have e1 : ∀ W, fres .add Y Y W = D := fun W => fresB hD1 W
        have e2 := fnnB hD1
        have HY : Hid (Y = Ieee.double.nearest false K P) := hY
        clear hD1 hD2 hoz hop hng hwn hxR HB hv hx hY
        go_enter Try.func12, Try.ntmps12
        go_wp2_with (fail)
        refine (HN.out _).mono ?_
        rintro e w3 ⟨rfl, hw3⟩
        subst w3
        go_wp2
        clear HN a1 a2 a3 e1 e2 a5
        rw [HY.out]
        have HE : Hid ((L : Int) - 1074 = P ∧ Dg L K ∧ 0 < K) := ⟨hP.symm, hd, h0⟩
        clear hd h0 hP
        go_loopw [0, 4] (fun f e wr => ∃ j n : Nat, (j : Int) ≤ max P 0 ∧ e = .int .i64 j ∧ f = .float .f64 (Ieee.double.nearest false K (P - j)) ∧ Hid (wr = w.drewN n)) (fun _ e _ => (max P 0 - intOf e).toNat)
        case atStart => exact ⟨0, _, by omega, rfl, by rw [show P - ((0 : Nat) : Int) = P by omega], rfl⟩
        case round =>
          obtain ⟨j, n, hj, rfl, rfl, hR⟩ := hrel
          have hLP := HE.out.1
          have hTp := HE.out.2.1.top
          have hFw := HE.out.2.1.few
          have hEn := HE.out.2.1.end_
          obtain ⟨F, hF⟩ : ∃ F, F = Ieee.double.nearest false K (P - j) := ⟨_, rfl⟩
          rw [← hF]
          by_cases hlt : (j : Int) < P
          · have hge := lt_no HE.out.2.1 (p := P - j) (by omega) (by omega) 53 (by decide) 52 (by decide) (by rw [p52]; rcases hTp with h | h <;> omega) (by omega)
            rw [← two53, ← hF] at hge
            have hl : (FloatKind.f64.format.order F 4845873199050653696 == some .gt || FloatKind.f64.format.order F 4845873199050653696 == some .eq) = true := by
              rw [show FloatKind.f64.format = Ieee.double from rfl]; rcases hge with h | h <;> rw [h] <;> rfl
            have hq : floatBits .quo .f64 F 4611686018427387904 = some (Ieee.double.nearest false K (P - (j + 1 : Nat))) := by
              rw [hF, half_of (j := 53) (by rw [p53]; exact hFw) (by decide) (by omega) (by omega)]; congr 2; omega
            obtain ⟨G, hG⟩ : ∃ G, G = Ieee.double.nearest false K (P - (j + 1 : Nat)) := ⟨_, rfl⟩
            rw [← hG] at hq
            have e1 : ∀ W, fres .quo F 4611686018427387904 W = G := fun W => fresB hq W
            have e2 := fnnB hq
            have HG : Hid (G = Ieee.double.nearest false K (P - (j + 1 : Nat)) ∧ (j : Int) < P) := ⟨hG, hlt⟩
            have bj : (j : Int) ≤ 1100 := by omega
            obtain rfl := hR.out
            clear hq hG hge hF hR hlt hj hLP hTp hFw hEn
            go_wp2
            go_roundw
            case rel => exact ⟨j + 1, n + 0, by have := HG.out.2; omega, by go_num, by rw [HG.out.1], by unfold Hid; simp⟩
            case measure => have := HG.out.2; simp [intOf]; omega
          · have hge := lt_yes HE.out.2.1 (p := P - j) (by omega) (by omega) 53 (by decide) 53 (by decide) (by rw [p53]; exact hFw) (by omega)
            rw [← two53, ← hF] at hge
            have hl : (FloatKind.f64.format.order F 4845873199050653696 == some .gt || FloatKind.f64.format.order F 4845873199050653696 == some .eq) = false := by
              rw [show FloatKind.f64.format = Ieee.double from rfl, hge]; rfl
            obtain ⟨E, hE⟩ : ∃ E : Int, E = j := ⟨_, rfl⟩
            have hEj : E = max P 0 := by omega
            rw [← hE]
            rw [← hE] at hF
            have HF : Hid (F = Ieee.double.nearest false K (P - E) ∧ E = max P 0) := ⟨hF, hEj⟩
            obtain rfl := hR.out
            clear hF hEj hge hR hlt hj hE hLP hTp hFw hEn
            go_wp2
            go_loopw [0, 4] (fun f e wr => ∃ (E : Int) (n : Nat), ((0 ≤ P ∧ E = P) ∨ (P < 0 ∧ P ≤ E ∧ E ≤ 0)) ∧ e = .int .i64 E ∧ f = .float .f64 (Ieee.double.nearest false K (P - E)) ∧ Hid (wr = w.drewN n)) (fun _ e _ => (intOf e - P).toNat)
            case atStart => exact ⟨E, _, by have := HF.out.2; omega, rfl, by rw [HF.out.1], rfl⟩
            case round =>
              clear hl HF
              obtain ⟨E, n, hE, rfl, rfl, hR⟩ := hrel
              have hLP := HE.out.1
              have hTp := HE.out.2.1.top
              have hFw := HE.out.2.1.few
              have hEn := HE.out.2.1.end_
              obtain ⟨F, hF⟩ : ∃ F, F = Ieee.double.nearest false K (P - E) := ⟨_, rfl⟩
              rw [← hF]
              by_cases hlt : P < E
              · have hge := lt_yes HE.out.2.1 (p := P - E) (by omega) (by omega) 52 (by decide) 53 (by decide) (by rw [p53]; exact hFw) (by omega)
                rw [← two52, ← hF] at hge
                have hl : (FloatKind.f64.format.order F 4841369599423283200 == some .lt) = true := by
                  rw [show FloatKind.f64.format = Ieee.double from rfl, hge]; rfl
                have hq : floatBits .mul .f64 F 4611686018427387904 = some (Ieee.double.nearest false K (P - (E - 1))) := by
                  rw [hF, dbl_of (j := 53) (by rw [p53]; exact hFw) (by decide) (by omega) (by omega)]; congr 2; omega
                obtain ⟨G, hG⟩ : ∃ G, G = Ieee.double.nearest false K (P - (E - 1)) := ⟨_, rfl⟩
                rw [← hG] at hq
                have e1 : ∀ W, fres .mul F 4611686018427387904 W = G := fun W => fresB hq W
                have e2 := fnnB hq
                have HG : Hid (G = Ieee.double.nearest false K (P - (E - 1)) ∧ P < E ∧ P < 0 ∧ E ≤ 0) := ⟨hG, hlt, by omega, by omega⟩
                have bj : (-1074 : Int) < E := by omega
                have bk : E ≤ 0 := by omega
                obtain rfl := hR.out
                clear hq hG hge hF hR hlt hE hLP hTp hFw hEn
                go_wp2
                go_roundw
                case rel => exact ⟨E - 1, n + 0, by have := HG.out.2; omega, by first | rfl | go_num, by rw [HG.out.1], by unfold Hid; simp⟩
                case measure => have := HG.out.2; simp [intOf]; omega
              · have hEP : E = P := by omega
                subst hEP
                rw [show E - E = 0 by omega] at hF
                by_cases hK : K < 4503599627370496
                · have hL : L = 0 := by rcases hTp with h | h <;> omega
                  have hPv : E = -1074 := by omega
                  have hge := lt_yes HE.out.2.1 (p := 0) (by omega) (by omega) 52 (by decide) 52 (by decide) (by rw [p52]; exact hK) (by omega)
                  rw [← two52, ← hF] at hge
                  have hl : (FloatKind.f64.format.order F 4841369599423283200 == some .lt) = true := by
                    rw [show FloatKind.f64.format = Ieee.double from rfl, hge]; rfl
                  have hcv : ∀ W, (convert 24 26 (.float .f64 F)).run Try.prog W = .ok (.int .u64 K) W := fun W =>
                    run_convert_float_int W _ _ .f64 .u64 _ _ (by rw [Try.underlying24]; rfl) Try.underlying26 (by
                      unfold floatToIntVal; rw [hF, int_of (by rw [p53]; omega)]
                      simp only
                      rw [if_pos]
                      exact ⟨by show (0 : Int) ≤ K; omega, by show (K : Int) ≤ 18446744073709551615; omega⟩)
                  obtain rfl := hR.out
                  have HO : Hid (bits .or .u64 9223372036854775808 K = btV x) := by
                    unfold Hid
                    rw [or_u64 63 (by decide) (by decide) (by decide) (by decide) (by omega) (by omega)]
                    rw [HX.out.2, HX.out.1, hL]; simp [Ieee.Format.word, sw64]
                  subst hPv
                  clear hF hge hR hE HE hlt hL hLP hTp hFw hEn
                  go_wp2
                  go_returns
                  exact ⟨by rw [← HO.out]; rfl, n, rfl⟩
                · have hge := lt_no HE.out.2.1 (p := 0) (by omega) (by omega) 52 (by decide) 52 (by decide) (by rw [p52]; omega) (by omega)
                  rw [← two52, ← hF] at hge
                  have hl : (FloatKind.f64.format.order F 4841369599423283200 == some .lt) = false := by
                    rw [show FloatKind.f64.format = Ieee.double from rfl]; rcases hge with h | h <;> rw [h] <;> rfl
                  have hcv : ∀ W, (convert 24 26 (.float .f64 F)).run Try.prog W = .ok (.int .u64 K) W := fun W =>
                    run_convert_float_int W _ _ .f64 .u64 _ _ (by rw [Try.underlying24]; rfl) Try.underlying26 (by
                      unfold floatToIntVal; rw [hF, int_of (by rw [p53]; exact hFw)]
                      simp only
                      rw [if_pos]
                      exact ⟨by show (0 : Int) ≤ K; omega, by show (K : Int) ≤ 18446744073709551615; omega⟩)
                  obtain rfl := hR.out
                  have e3 : IntKind.i64.wrap (E + 1075) = E + 1075 := by rw [IntKind.wrap_i64]; omega
                  have e4 : IntKind.u64.wrap (E + 1075) = E + 1075 := by rw [IntKind.wrap_u64]; omega
                  have e5 : IntKind.u64.wrap ((E + 1075) * 4503599627370496) = (E + 1075) * 4503599627370496 := by rw [IntKind.wrap_u64]; omega
                  have e6 : IntKind.u64.wrap ((K : Int) - 4503599627370496) = (K : Int) - 4503599627370496 := by rw [IntKind.wrap_u64]; omega
                  have HO : Hid (bits .or .u64 (bits .or .u64 9223372036854775808 ((E + 1075) * 4503599627370496)) ((K : Int) - 4503599627370496) = btV x) := by
                    unfold Hid
                    rw [or_u64 (x := 9223372036854775808) 63 (by decide) (by decide) (by decide) (by decide) (by omega) (by omega), or_u64 52 (by decide) (by omega) (by omega) (by omega) (by omega) (by omega)]
                    rw [HX.out.2, HX.out.1]; simp [Ieee.Format.word, sw64]; omega
                  clear hF hge hR hE hlt hLP hTp hFw hEn
                  go_wp2
                  go_returns
                  exact ⟨by rw [← HO.out]; rfl, n, rfl⟩

end Go.Proofs.Ytmemjohpimjmpaa
