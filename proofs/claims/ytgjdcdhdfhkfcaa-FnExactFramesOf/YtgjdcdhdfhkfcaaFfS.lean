/- Proved here: l14Scale and FloatFrom of the model: the float of the bits, by value. -/
import Derived.Test.YtgjdcdhdfhkfcaaFbI
import Derived.Test.YtgjdcdhdfhkfcaaFbN
import Derived.Test.YtgjdcdhdfhkfcaaIntsBase
namespace Go.Proofs.Ytgjdcdhdfhkfcaa
open Go.RowKit
set_option linter.unusedVariables false
set_option linter.unusedSimpArgs false

set_option maxRecDepth 10000 in
set_option maxHeartbeats 1600000 in
theorem spec_scale {m j : Nat} {p n : Int} (h1 : m < 2 ^ j) (h2 : j ≤ 53) (h3 : -1074 ≤ p) (h4 : p + j ≤ 1024) (h5 : -1074 ≤ p + n) (h6 : p + n + j ≤ 1025) (w : World) :
    Calls Try.prog 61 #[.float .f64 (Ieee.double.nearest false m p), .int .i64 n] w fun e w' => e = .returned (.float .f64 (Ieee.double.nearest false m (p + n))) ∧ ∃ k, w' = w.drewN k := by
  have H : Hid (m < 2 ^ j ∧ j ≤ 53 ∧ -1074 ≤ p ∧ p + j ≤ 1024 ∧ -1074 ≤ p + n ∧ p + n + j ≤ 1025) := ⟨h1, h2, h3, h4, h5, h6⟩
  obtain ⟨X, hX⟩ : ∃ X, X = Ieee.double.nearest false m p := ⟨_, rfl⟩
  rw [← hX]
  have HX : Hid (X = Ieee.double.nearest false m p) := hX
  clear h1 h2 h3 h4 h5 h6 hX
  go_enter Try.func61, Try.ntmps61
  go_wp2
  go_loopw [0, 1] (fun f a wr => ∃ (i : Int) (k : Nat), (i = n ∨ (0 ≤ i ∧ i ≤ n)) ∧ a = .int .i64 i ∧ f = .float .f64 (Ieee.double.nearest false m (p + n - i)) ∧ Hid (wr = w.drewN k)) (fun _ a _ => (intOf a).toNat)
  case atStart => exact ⟨n, 0, .inl rfl, rfl, by rw [HX.out, show p + n - n = p by omega], rfl⟩
  case round =>
    obtain ⟨i, k, hi, rfl, rfl, hR⟩ := hrel
    obtain ⟨F, hF⟩ : ∃ F, F = Ieee.double.nearest false m (p + n - i) := ⟨_, rfl⟩
    rw [← hF]
    have ho := H.out
    by_cases hlt : 0 < i
    · have hq : floatBits .mul .f64 F 4611686018427387904 = some (Ieee.double.nearest false m (p + n - (i - 1))) := by
        rw [hF, dbl_of (j := j) ho.1 ho.2.1 (by omega) (by omega)]; congr 2; omega
      obtain ⟨G, hG⟩ : ∃ G, G = Ieee.double.nearest false m (p + n - (i - 1)) := ⟨_, rfl⟩
      rw [← hG] at hq
      have e1 : ∀ W, fres .mul F 4611686018427387904 W = G := fun W => fresB hq W
      have e2 := fnnB hq
      have HG : Hid (G = Ieee.double.nearest false m (p + n - (i - 1)) ∧ (0 ≤ i - 1 ∧ i - 1 ≤ n)) := ⟨hG, by omega, by omega⟩
      have bi : i ≤ 3000 := by omega
      obtain rfl := hR.out
      clear hq hG hF hR hi ho
      go_wp2
      go_roundw
      case rel => exact ⟨i - 1, k + 0, .inr HG.out.2, by first | rfl | go_num, by rw [HG.out.1], by unfold Hid; simp⟩
      case measure => simp [intOf]; omega
    · have HF : Hid (F = Ieee.double.nearest false m (p + n - i) ∧ i ≤ 0 ∧ (i = n ∨ (0 ≤ i ∧ i ≤ n))) := ⟨hF, by omega, hi⟩
      obtain rfl := hR.out
      clear hF hR hi ho
      go_wp2
      go_loopw [0, 1] (fun f a wr => ∃ (i : Int) (k : Nat), i ≤ 0 ∧ (n ≤ i ∨ i = 0) ∧ a = .int .i64 i ∧ f = .float .f64 (Ieee.double.nearest false m (p + n - i)) ∧ Hid (wr = w.drewN k)) (fun _ a _ => (- intOf a).toNat)
      case atStart => exact ⟨i, k, HF.out.2.1, by have := HF.out.2; omega, rfl, by rw [HF.out.1], rfl⟩
      case round =>
        clear HF hlt
        obtain ⟨i, k, hi0, hi, rfl, rfl, hR⟩ := hrel
        obtain ⟨F, hF⟩ : ∃ F, F = Ieee.double.nearest false m (p + n - i) := ⟨_, rfl⟩
        rw [← hF]
        have ho := H.out
        by_cases hlt : i < 0
        · have hq : floatBits .quo .f64 F 4611686018427387904 = some (Ieee.double.nearest false m (p + n - (i + 1))) := by
            rw [hF, half_of (j := j) ho.1 ho.2.1 (by omega) (by omega)]; congr 2; omega
          obtain ⟨G, hG⟩ : ∃ G, G = Ieee.double.nearest false m (p + n - (i + 1)) := ⟨_, rfl⟩
          rw [← hG] at hq
          have e1 : ∀ W, fres .quo F 4611686018427387904 W = G := fun W => fresB hq W
          have e2 := fnnB hq
          have HG : Hid (G = Ieee.double.nearest false m (p + n - (i + 1)) ∧ (n ≤ i + 1 ∨ i + 1 = 0)) := ⟨hG, by omega⟩
          have bi : -3000 ≤ i := by omega
          obtain rfl := hR.out
          clear hq hG hF hR hi ho
          go_wp2
          go_roundw
          case rel => exact ⟨i + 1, k + 0, by omega, HG.out.2, by first | rfl | go_num, by rw [HG.out.1], by unfold Hid; simp⟩
          case measure => simp [intOf]; omega
        · have HG : Hid (F = Ieee.double.nearest false m (p + n)) := by
            unfold Hid; rw [hF]; congr 1; omega
          obtain rfl := hR.out
          clear hF hR hi ho
          go_wp2
          go_returns
          exact ⟨by rw [← HG.out]; rfl, k, rfl⟩

theorem neg_bnd {x : Nat} (h : x < 18446744073709551616) : Op.negFloat .f64 x < 18446744073709551616 := by
  have e : Op.negFloat .f64 x = x ^^^ 2 ^ 63 := rfl
  rw [e]
  exact Nat.xor_lt_two_pow (n := 64) h (by decide)
theorem neg_nan {x : Nat} (h : fv x = none) : fv (Op.negFloat .f64 x) = none := by
  rw [fv_none] at h ⊢
  have e : Op.negFloat .f64 x = x ^^^ 2 ^ 63 := rfl
  rw [e, show (9223372036854775808 : Nat) = 2 ^ 63 by decide, Nat.xor_mod_two_pow, Nat.mod_self, Nat.xor_zero]
  exact h
theorem nan_bnd (x y t : Nat) : (Question.nanBits .f64 x y).cut t < 18446744073709551616 := by
  have : (Question.nanBits .f64 x y).cut t = (t % 2) * 2 ^ 63 + 0x7ff0000000000000 + 1 + (t / 2) % (2 ^ 52 - 1) := rfl
  rw [this]
  have h2 : (t / 2) % (2 ^ 52 - 1) < 2 ^ 52 - 1 := Nat.mod_lt _ (by decide)
  generalize (t / 2) % (2 ^ 52 - 1) = z at h2 ⊢
  rcases Nat.mod_two_eq_zero_or_one t with h | h <;> rw [h] <;> omega
theorem fres_bnd {op : BinOp} {x y : Nat} (w : World) : fres op x y w < 18446744073709551616 := by
  unfold fres
  cases h : floatBits op .f64 x y with
  | some r =>
    have := floatBits_wf h
    have e : 2 ^ FloatKind.f64.format.width = 18446744073709551616 := by decide
    unfold floatBits at h
    simp only
    rw [← e]
    split at h
    · exact FloatKind.f64.format.add_lt h
    · exact FloatKind.f64.format.sub_lt h
    · exact FloatKind.f64.format.mul_lt h
    · exact FloatKind.f64.format.div_lt h
    · cases h
  | none => exact nan_bnd _ _ _
/-- The float of these bits, the sign left out. -/
def fmO (b : Nat) : Nat := if b / 4503599627370496 % 2048 = 0 then Ieee.double.nearest false (b % 4503599627370496) (-1074) else Ieee.double.nearest false (b % 4503599627370496 + 4503599627370496) ((b / 4503599627370496 % 2048 : Nat) - 1075)
theorem fmO_is {b : Nat} (h : b / 4503599627370496 % 2048 < 2047) : fmO b = b % 9223372036854775808 := by
  unfold fmO
  split
  · rename_i h0
    have := nr_dg false (L := 0) (K := b % 4503599627370496) ⟨.inl rfl, by omega, by omega⟩
    rw [show ((0 : Nat) : Int) - 1074 = -1074 by omega] at this
    rw [this]; unfold Ieee.Format.word; rw [if_neg Bool.false_ne_true]; omega
  · rename_i h0
    have := nr_dg false (L := b / 4503599627370496 % 2048 - 1) (K := b % 4503599627370496 + 4503599627370496) ⟨.inr (by omega), by omega, by omega⟩
    rw [show (((b / 4503599627370496 % 2048 - 1 : Nat)) : Int) - 1074 = ((b / 4503599627370496 % 2048 : Nat) : Int) - 1075 by omega] at this
    rw [this]; unfold Ieee.Format.word; rw [if_neg Bool.false_ne_true]; omega
theorem neg_sign {y b : Nat} (hy : y = b % 9223372036854775808) (hb : b < 18446744073709551616) (h1 : ¬ 9218868437227405312 < b % 9223372036854775808) (hs : b / 9223372036854775808 = 1) : Op.negFloat .f64 y = b := by
  have := neg_of false (R := y) (by omega)
  have e : Ieee.double.word false y = y := by unfold Ieee.Format.word; rw [if_neg Bool.false_ne_true]
  rw [e] at this
  rw [this]; unfold Ieee.Format.word; rw [sw64, if_pos (by rfl)]; omega
theorem sub_inf (w : World) : fv (fres .sub 9218868437227405312 9218868437227405312 w) = none := by
  rw [fv_fres]; decide
theorem negF_run (x : Nat) (w : World) : (Op.unary .neg (.float .f64 x)).run Try.prog w = .ok (.float .f64 (Op.negFloat .f64 x)) w := rfl
theorem conv_run (M : Nat) (w : World) : (convert 2 55 (.int .i64 M)).run Try.prog w = .ok (.float .f64 (Ieee.double.nearest false M 0)) w := by
  have hs := Try.underlying2
  have hd := Try.underlying55
  have e : FloatKind.f64.nearest (M : Int) = Ieee.double.nearest false M 0 := by
    unfold FloatKind.nearest FloatKind.encode
    rw [show (decide ((M : Int) < 0)) = false by simp, show (M : Int).natAbs = M by omega]; rfl
  rw [← e]
  simp [convert, run_underlying hs, run_underlying hd, Conv.intToFloat]
theorem inf1024 : Ieee.double.nearest false 1 ((0 : Int) + 1024) = 9218868437227405312 := by decide
theorem one0 : (4607182418800017408 : Nat) = Ieee.double.nearest false 1 0 := by decide

set_option maxRecDepth 10000 in
set_option maxHeartbeats 3200000 in
theorem spec_from (b : Nat) (hb : b < 18446744073709551616) (w : World) : Calls Try.prog 44 #[.int .u64 b] w fun e w' => ∃ y n, e = .returned (.float .f64 y) ∧ fv y = fv b ∧ y < 18446744073709551616 ∧ w' = w.drewN n := by
  obtain ⟨E, hE⟩ : ∃ E : Nat, E = b / 4503599627370496 % 2048 := ⟨_, rfl⟩
  obtain ⟨M, hM⟩ : ∃ M : Nat, M = b % 4503599627370496 := ⟨_, rfl⟩
  have hA : bits .and .u64 ((b : Int) / 4503599627370496) 2047 = E := by
    have := bits_mask .u64 64 (by decide) (fun n h0 h1 => by rw [IntKind.wrap_u64]; omega) 11 (by decide) ((b : Int) / 4503599627370496) (by omega) (by omega)
    rw [show ((2 : Int) ^ 11 - 1) = 2047 by decide, show ((2 : Int) ^ 11) = 2048 by decide] at this
    rw [this, hE]; omega
  have hB : bits .and .u64 (b : Int) 4503599627370495 = M := by
    have := bits_mask .u64 64 (by decide) (fun n h0 h1 => by rw [IntKind.wrap_u64]; omega) 52 (by decide) (b : Int) (by omega) (by omega)
    rw [show ((2 : Int) ^ 52 - 1) = 4503599627370495 by decide, show ((2 : Int) ^ 52) = 4503599627370496 by decide] at this
    rw [this, hM]; omega
  have bE : E < 2048 := by omega
  have bM : M < 4503599627370496 := by omega
  have e1 : IntKind.i64.wrap (E : Int) = E := by rw [IntKind.wrap_i64]; omega
  have e2 : IntKind.i64.wrap (M : Int) = M := by rw [IntKind.wrap_i64]; omega
  have HB : Hid (E = b / 4503599627370496 % 2048 ∧ M = b % 4503599627370496 ∧ b < 18446744073709551616) := ⟨hE, hM, hb⟩
  clear hE hM hb
  by_cases c1 : (E : Int) = 2047
  · have q1 : ((E : Int) == 2047) = true := by simpa using c1
    have HS : Hid (∀ W, Calls Try.prog 61 #[.float .f64 4607182418800017408, .int .i64 1024] W fun e w' => e = .returned (.float .f64 9218868437227405312) ∧ ∃ k, w' = W.drewN k) := fun W => by
      have := spec_scale (m := 1) (j := 1) (p := 0) (n := 1024) (by decide) (by decide) (by decide) (by decide) (by decide) (by decide) W
      rw [inf1024, ← one0] at this
      exact this
    by_cases c2 : (M : Int) = 0
    · have q2 : ((M : Int) != 0) = false := by simpa using c2
      have HV : Hid (fv b = some b ∧ b % 9223372036854775808 = 9218868437227405312) := by
        have := HB.out
        exact ⟨fv_of (by omega), by omega⟩
      obtain ⟨Y, hY⟩ : ∃ Y : Nat, Y = 9218868437227405312 := ⟨_, rfl⟩
      have HP : Hid (¬ b / 9223372036854775808 = 1 → 9218868437227405312 = b) := fun h => by have := HV.out.2; have := HB.out.2.2; omega
      have HQ : Hid (b / 9223372036854775808 = 1 → Op.negFloat .f64 9218868437227405312 = b) := fun h => neg_sign (by have := HV.out.2; omega) HB.out.2.2 (by have := HV.out.2; omega) h
      clear hY
      go_enter Try.func44, Try.ntmps44
      go_wp2_with (fail)
      refine (HS.out _).mono ?_
      rintro e w3 ⟨rfl, k, hw3⟩
      subst w3
      by_cases hs : (b : Int) / 9223372036854775808 = 1
      · have hs0 : b / 9223372036854775808 = 1 := by omega
        have hs1 : ((b : Int) / 9223372036854775808 == 1) = true := by simpa using hs
        have hn := negF_run
        go_wp2
        go_returns
        exact ⟨_, _, rfl, by exact congrArg fv (HQ.out hs0), by have := HB.out.2.2; rw [HQ.out hs0]; omega, rfl⟩
      · have hs0 : ¬ b / 9223372036854775808 = 1 := by omega
        have hs1 : ((b : Int) / 9223372036854775808 == 1) = false := by simpa using hs
        go_wp2
        go_returns
        exact ⟨_, _, rfl, by exact congrArg fv (HP.out hs0), by have := HB.out.2.2; rw [HP.out hs0]; omega, rfl⟩
    · have q2 : ((M : Int) != 0) = true := by simpa using c2
      have HV : Hid (fv b = none) := by
        have := HB.out
        unfold Hid; rw [fv_none]; omega
      go_enter Try.func44, Try.ntmps44
      go_wp2_with (fail)
      refine (HS.out _).mono ?_
      rintro e w3 ⟨rfl, k, hw3⟩
      subst w3
      by_cases hs : (b : Int) / 9223372036854775808 = 1
      · have hs0 : b / 9223372036854775808 = 1 := by omega
        have hs1 : ((b : Int) / 9223372036854775808 == 1) = true := by simpa using hs
        have hn := negF_run
        go_wp2
        go_returns
        exact ⟨_, _, rfl, by rw [HV.out]; exact neg_nan (sub_inf _), neg_bnd (fres_bnd _), rfl⟩
      · have hs0 : ¬ b / 9223372036854775808 = 1 := by omega
        have hs1 : ((b : Int) / 9223372036854775808 == 1) = false := by simpa using hs
        go_wp2
        go_returns
        exact ⟨_, _, rfl, by rw [HV.out]; exact sub_inf _, fres_bnd _, rfl⟩
  · have q1 : ((E : Int) == 2047) = false := by simpa using c1
    have HV : Hid (¬ 9218868437227405312 < b % 9223372036854775808) := by
      have := HB.out; unfold Hid; omega
    have HO : Hid (fmO b = b % 9223372036854775808) := fmO_is (by have := HB.out; omega)
    by_cases c2 : (E : Int) = 0
    · have q2 : ((E : Int) == 0) = true := by simpa using c2
      have hcv : ∀ W, (convert 2 55 (.int .i64 M)).run Try.prog W = .ok (.float .f64 (Ieee.double.nearest false M 0)) W := fun W => conv_run M W
      have HS : Hid (∀ W, Calls Try.prog 61 #[.float .f64 (Ieee.double.nearest false M 0), .int .i64 (-1074)] W fun e w' => e = .returned (.float .f64 (fmO b)) ∧ ∃ k, w' = W.drewN k) := fun W => by
        have := spec_scale (m := M) (j := 53) (p := 0) (n := -1074) (by rw [p53]; omega) (by decide) (by decide) (by decide) (by decide) (by decide) W
        have e : fmO b = Ieee.double.nearest false M (0 + -1074) := by
          unfold fmO; rw [if_pos (by rw [← HB.out.1]; omega), ← HB.out.2.1]; rfl
        rw [e]; exact this
      obtain ⟨X, hX⟩ : ∃ X, X = Ieee.double.nearest false M 0 := ⟨_, rfl⟩
      rw [← hX] at HS hcv
      obtain ⟨Y, hY⟩ : ∃ Y, Y = fmO b := ⟨_, rfl⟩
      rw [← hY] at HS HO
      have HP : Hid (¬ b / 9223372036854775808 = 1 → Y = b) := fun h => by have := HO.out; have := HB.out.2.2; omega
      have HQ : Hid (b / 9223372036854775808 = 1 → Op.negFloat .f64 Y = b) := fun h => neg_sign HO.out HB.out.2.2 HV.out h
      clear hX hY
      go_enter Try.func44, Try.ntmps44
      go_wp2_with (fail)
      refine (HS.out _).mono ?_
      rintro e w3 ⟨rfl, k, hw3⟩
      subst w3
      by_cases hs : (b : Int) / 9223372036854775808 = 1
      · have hs0 : b / 9223372036854775808 = 1 := by omega
        have hs1 : ((b : Int) / 9223372036854775808 == 1) = true := by simpa using hs
        have hn := negF_run
        go_wp2
        go_returns
        exact ⟨_, _, rfl, by exact congrArg fv (HQ.out hs0), by have := HB.out.2.2; rw [HQ.out hs0]; omega, rfl⟩
      · have hs0 : ¬ b / 9223372036854775808 = 1 := by omega
        have hs1 : ((b : Int) / 9223372036854775808 == 1) = false := by simpa using hs
        go_wp2
        go_returns
        exact ⟨_, _, rfl, by exact congrArg fv (HP.out hs0), by have := HB.out.2.2; rw [HP.out hs0]; omega, rfl⟩
    · have q2 : ((E : Int) == 0) = false := by simpa using c2
      have e3 : IntKind.i64.wrap ((M : Int) + 4503599627370496) = (M : Int) + 4503599627370496 := by rw [IntKind.wrap_i64]; omega
      have e4 : IntKind.i64.wrap ((E : Int) - 1075) = (E : Int) - 1075 := by rw [IntKind.wrap_i64]; omega
      have hcv : ∀ W, (convert 2 55 (.int .i64 ((M : Int) + 4503599627370496))).run Try.prog W = .ok (.float .f64 (Ieee.double.nearest false (M + 4503599627370496) 0)) W := fun W => by
        have := conv_run (M + 4503599627370496) W
        rw [show ((M + 4503599627370496 : Nat) : Int) = (M : Int) + 4503599627370496 by omega] at this
        exact this
      have HS : Hid (∀ W, Calls Try.prog 61 #[.float .f64 (Ieee.double.nearest false (M + 4503599627370496) 0), .int .i64 ((E : Int) - 1075)] W fun e w' => e = .returned (.float .f64 (fmO b)) ∧ ∃ k, w' = W.drewN k) := fun W => by
        have := spec_scale (m := M + 4503599627370496) (j := 53) (p := 0) (n := (E : Int) - 1075) (by rw [p53]; omega) (by decide) (by decide) (by decide) (by omega) (by omega) W
        have e : fmO b = Ieee.double.nearest false (M + 4503599627370496) (0 + ((E : Int) - 1075)) := by
          unfold fmO; rw [if_neg (by rw [← HB.out.1]; omega), ← HB.out.2.1, ← HB.out.1, Int.zero_add]
        rw [e]; exact this
      obtain ⟨X, hX⟩ : ∃ X, X = Ieee.double.nearest false (M + 4503599627370496) 0 := ⟨_, rfl⟩
      rw [← hX] at HS hcv
      obtain ⟨Y, hY⟩ : ∃ Y, Y = fmO b := ⟨_, rfl⟩
      rw [← hY] at HS HO
      have HP : Hid (¬ b / 9223372036854775808 = 1 → Y = b) := fun h => by have := HO.out; have := HB.out.2.2; omega
      have HQ : Hid (b / 9223372036854775808 = 1 → Op.negFloat .f64 Y = b) := fun h => neg_sign HO.out HB.out.2.2 HV.out h
      clear hX hY
      go_enter Try.func44, Try.ntmps44
      go_wp2_with (fail)
      refine (HS.out _).mono ?_
      rintro e w3 ⟨rfl, k, hw3⟩
      subst w3
      by_cases hs : (b : Int) / 9223372036854775808 = 1
      · have hs0 : b / 9223372036854775808 = 1 := by omega
        have hs1 : ((b : Int) / 9223372036854775808 == 1) = true := by simpa using hs
        have hn := negF_run
        go_wp2
        go_returns
        exact ⟨_, _, rfl, by exact congrArg fv (HQ.out hs0), by have := HB.out.2.2; rw [HQ.out hs0]; omega, rfl⟩
      · have hs0 : ¬ b / 9223372036854775808 = 1 := by omega
        have hs1 : ((b : Int) / 9223372036854775808 == 1) = false := by simpa using hs
        go_wp2
        go_returns
        exact ⟨_, _, rfl, by exact congrArg fv (HP.out hs0), by have := HB.out.2.2; rw [HP.out hs0]; omega, rfl⟩

end Go.Proofs.Ytgjdcdhdfhkfcaa
