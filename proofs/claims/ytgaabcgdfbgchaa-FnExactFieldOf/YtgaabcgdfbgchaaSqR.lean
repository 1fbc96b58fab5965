/- Proved here: the model's square root of whole numbers, digit by digit. -/
import Derived.Test.YtgaabcgdfbgchaaRtK
import Derived.Test.YtgaabcgdfbgchaaIntsBase
namespace Go.Proofs.Ytgaabcgdfbgchaa
open Go.RowKit
set_option linter.unusedVariables false
set_option linter.unusedSimpArgs false

/-- The two digits at j. -/
def twK (m : Int) (j : Nat) : Int := if j ≤ 26 then bits BinOp.and IntKind.i64 (m / 2 ^ (2 * (26 - j))) 3 else 0
/-- The root and the rest behind j steps. -/
def rtS (m : Int) : Nat → Int × Int
  | 0 => (0, 0)
  | j + 1 =>
    let R := wrap64 (wrap64 ((rtS m j).2 * 4) + twK m j)
    let T := wrap64 (wrap64 ((rtS m j).1 * 4) + 1)
    if T ≤ R then (wrap64 (wrap64 ((rtS m j).1 * 2) + 1), wrap64 (R - T)) else (wrap64 ((rtS m j).1 * 2), R)

set_option maxHeartbeats 3200000 in
theorem spec_root (m : Int) (h1 : 0 ≤ m) (h2 : m < 1000000000000000000) (w : World) : Calls Try.prog 82 #[.int .i64 m] w fun e w' => e = .returned (.int .i64 (rtS m 54).1) ∧ w' = w := by
  go_enter Try.func82, Try.ntmps82
  go_wp2
  go_loopw [3, 4, 5] (fun a b i wr => ∃ (j : Nat) (A B : Int), j ≤ 54 ∧ i = .int .i64 (26 - j) ∧ a = .int .i64 A ∧ b = .int .i64 B ∧ Hid (rtS m j = (A, B) ∧ wr = w)) (fun _ _ i _ => ((intOf i) + 28).toNat)
  case atStart => exact ⟨0, 0, 0, by omega, rfl, rfl, rfl, rfl, rfl⟩
  case round =>
    obtain ⟨j, A, B, hj, rfl, rfl, rfl, hR⟩ := hrel
    by_cases hlt : j < 54
    · obtain ⟨t, ht⟩ : ∃ t, t = twK m j := ⟨_, rfl⟩
      have HS : Hid (rtS m (j + 1) = if wrap64 (wrap64 (A * 4) + 1) ≤ wrap64 (wrap64 (B * 4) + t) then (wrap64 (wrap64 (A * 2) + 1), wrap64 (wrap64 (wrap64 (B * 4) + t) - wrap64 (wrap64 (A * 4) + 1))) else (wrap64 (A * 2), wrap64 (wrap64 (B * 4) + t))) := by
        unfold Hid
        rw [rtS, hR.out.1, ht]
      have g1 : (-27 : Int) ≤ 26 - (j : Int) := by omega
      by_cases hk : j ≤ 26
      · have g2 : (0 : Int) ≤ 26 - (j : Int) := by omega
        have ht2 : t = bits BinOp.and IntKind.i64 (m / 2 ^ (2 * (26 - j))) 3 := by rw [ht, twK, if_pos hk]
        have HT : Hid (bits BinOp.and IntKind.i64 (m / 2 ^ (2 * (26 - j))) 3 = t) := ht2.symm
        clear ht ht2
        by_cases hc : wrap64 (wrap64 (A * 4) + 1) ≤ wrap64 (wrap64 (B * 4) + t)
        · have hc' : wrap64 (wrap64 (A * 4) + 1) ≤ wrap64 (wrap64 (B * 4) + bits BinOp.and IntKind.i64 (m / 2 ^ (2 * (26 - j))) 3) := by rw [HT.out]; exact hc
          go_wp2
          refine ⟨⟨j + 1, _, _, by omega, by go_num, rfl, rfl, ?_, hR.out.2⟩, by simp [intOf]; omega⟩
          rw [HS.out, if_pos hc, HT.out]
        · have hc' : ¬ wrap64 (wrap64 (A * 4) + 1) ≤ wrap64 (wrap64 (B * 4) + bits BinOp.and IntKind.i64 (m / 2 ^ (2 * (26 - j))) 3) := by rw [HT.out]; exact hc
          go_wp2
          refine ⟨⟨j + 1, _, _, by omega, by go_num, rfl, rfl, ?_, hR.out.2⟩, by simp [intOf]; omega⟩
          rw [HS.out, if_neg hc, HT.out]
      · have g2 : ¬ (0 : Int) ≤ 26 - (j : Int) := by omega
        obtain rfl : t = 0 := by rw [ht, twK, if_neg hk]
        rw [Int.add_zero] at HS
        clear ht
        by_cases hc : wrap64 (wrap64 (A * 4) + 1) ≤ wrap64 (wrap64 (B * 4))
        · go_wp2
          refine ⟨⟨j + 1, _, _, by omega, by go_num, rfl, rfl, ?_, hR.out.2⟩, by simp [intOf]; omega⟩
          rw [HS.out, if_pos hc]
        · go_wp2
          refine ⟨⟨j + 1, _, _, by omega, by go_num, rfl, rfl, ?_, hR.out.2⟩, by simp [intOf]; omega⟩
          rw [HS.out, if_neg hc]
    · have g1 : ¬ (-27 : Int) ≤ 26 - (j : Int) := by omega
      have HE : Hid (A = (rtS m 54).1 ∧ wr = w) := ⟨by rw [show 54 = j by omega, hR.out.1], hR.out.2⟩
      go_wp2
      go_returns
      exact ⟨by rw [← HE.out.1]; rfl, HE.out.2⟩

end Go.Proofs.Ytgaabcgdfbgchaa
