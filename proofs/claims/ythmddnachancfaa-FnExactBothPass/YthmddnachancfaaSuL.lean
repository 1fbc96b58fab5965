/- Proved here: the sum of a grid, of the model (l9Sum). -/
import Derived.Test.YthmddnachancfaaGrB
import Derived.Test.YthmddnachancfaaGtB
namespace Go.Proofs.Ythmddnachancfaa
open Go.RowKit
set_option linter.unusedVariables false
set_option linter.unusedSimpArgs false

set_option maxRecDepth 10000 in
set_option maxHeartbeats 6400000 in
theorem spec_l9Sum {w : World} {v : Value} {ls : List (List Int)} (hG : GG 1000000 ls) (h : RdR w v ls) :
    Calls Try.prog 36 #[v] w fun e w' => e = .returned (.int .i64 (totV ls ls.length)) ∧ w' = w := by
  obtain ⟨a, c, rfl⟩ := h.form
  obtain ⟨n, hnn⟩ : ∃ n, n = ls.length := ⟨_, rfl⟩
  rw [← hnn] at h ⊢
  have HG : Hid (GG 1000000 ls) := hG
  have hn16 : n ≤ 16 := by rw [hnn]; exact hG.h1
  have H2 : Hid (RdR w (.slice a n c) ls ∧ n = ls.length) := ⟨h, hnn⟩
  clear h hG hnn
  go_enter Try.func36, Try.ntmps36
  go_wp2
  go_loopw [3, 4] (fun q i wr => ∃ (k : Nat) (z : Int), k ≤ n ∧ i = .int .i64 k ∧ q = .int .i64 z ∧ wr = w ∧ Hid (z = totV ls k)) (fun _ i _ => n - (intOf i).toNat)
  case atStart => exact ⟨0, 0, Nat.zero_le _, rfl, rfl, rfl, rfl⟩
  case round =>
    obtain ⟨k, z, hk, rfl, rfl, rfl, hR⟩ := hrel
    by_cases hlt : k < n
    · obtain ⟨g, o, ua, un, uc, rfl, hg, c0, hun, hrd⟩ := H2.out.1.at hlt
      have hw := HG.out.rowp' (show k < ls.length by rw [← H2.out.2]; exact hlt)
      rw [← hun] at hw
      obtain ⟨row, hrow⟩ : ∃ row, row = ls.getD k [] := ⟨_, rfl⟩
      rw [← hrow] at hun hrd
      have HD : Hid (RdI wr (.slice ua un uc) row ∧ un = row.length ∧ row = ls.getD k []) := ⟨hrd, hun, hrow⟩
      have hbt := totV_bd HG.out (show k ≤ ls.length by rw [← H2.out.2]; omega)
      rw [← hR.out] at hbt
      have HZ : Hid (z = totV ls k ∧ 0 ≤ z ∧ z ≤ 300000000) := ⟨hR.out, hbt.1, by omega⟩
      clear hun hrd hrow hR hbt
      have b0 : (0 : Int) ≤ (k : Int) := by omega
      have b1 : (k : Int) < (n : Int) := by omega
      go_wp2
      obtain ⟨wy, hwy⟩ : ∃ x, x = wr := ⟨_, rfl⟩
      subst hwy
      go_loopw [3, 5] (fun q i wr => ∃ (m : Nat) (y : Int), m ≤ un ∧ i = .int .i64 m ∧ q = .int .i64 y ∧ wr = wy ∧ Hid (y = z + sumI row m)) (fun _ i _ => un - (intOf i).toNat)
      case atStart => exact ⟨0, z, Nat.zero_le _, rfl, rfl, rfl, by unfold Hid; simp [sumI]⟩
      case round =>
        obtain ⟨m, y, hm, rfl, rfl, rfl, hR2⟩ := hrel
        by_cases hlt2 : m < un
        · obtain ⟨g2, o2, rfl, hg2, d0⟩ := rd_at HD.out.1 hlt2
          obtain ⟨x, hx⟩ : ∃ x, x = row.getD m 0 := ⟨_, rfl⟩
          rw [← hx] at d0
          have hxb := HG.out.at k m
          rw [← HD.out.2.2, ← hx] at hxb
          have hs := sumI_bd HG.out (by omega) k m
          rw [← HD.out.2.2] at hs
          have hy := hR2.out
          have hz := HZ.out
          have hy2 : IntKind.i64.wrap (y + x) = y + x := by rw [IntKind.wrap_i64]; omega
          have HY : Hid (y + x = z + sumI row (m + 1)) := by unfold Hid; rw [sumI, ← hx]; omega
          clear hx hxb hs hy hz hR2
          have b2 : (0 : Int) ≤ (m : Int) := by omega
          have b3 : (m : Int) < (un : Int) := by omega
          go_wp2
          go_roundw
          case rel => exact ⟨m + 1, y + x, by omega, by go_num, by first | rfl | (rw [hy2]) | (simp [hy2]), by first | rfl | trivial, HY.out⟩
          case measure => simp [intOf]; omega
        · have HY : Hid (y = totV ls (k + 1)) := by
            unfold Hid
            rw [totV, ← HD.out.2.2, ← HD.out.2.1, hR2.out, HZ.out.1, show m = un by omega]
          clear hR2 HZ HD
          go_wp2
          go_roundw
          case rel => exact ⟨k + 1, y, by omega, by go_num, rfl, by first | rfl | trivial, HY.out⟩
          case measure => simp [intOf]; omega
    · have HE : Hid (totV ls n = z) := by unfold Hid; rw [hR.out, show n = k by omega]
      clear hR
      go_wp2
      go_returns
      exact ⟨by rw [HE.out]; rfl, rfl⟩

end Go.Proofs.Ythmddnachancfaa
