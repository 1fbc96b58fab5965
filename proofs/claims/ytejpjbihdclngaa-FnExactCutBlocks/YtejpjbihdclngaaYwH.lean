/- Proved here: how the laws' package finds lists of lists of bytes marked. -/
import Derived.Test.YtejpjbihdclngaaYwL
import Derived.Test.YtejpjbihdclngaaYwJ
namespace Go.Proofs.Ytejpjbihdclngaa
open Go.ChangeShapes Go.WideShapes Go.ChangeAt Go.RowKit Go.Joins Go.Deep
set_option linter.unusedVariables false
set_option linter.unusedSimpArgs false
set_option maxRecDepth 10000 in
set_option maxHeartbeats 4000000 in
theorem heldRows_isY {w : World} {B : Nat} {v : Value} {ls : List (List UInt8)} {vs : List Value} (z0 : Int) (hn : SmY ls) (hz0 : 0 ≤ z0) (hz1 : z0 ≤ 1000000000) (h : RoY w B v (mkGY z0 ls ls.length) vs) :
    Calls Try.prog 54 #[v, .int .i64 z0] w fun e w' => e = .returned (.int .i64 (z0 + (totY ls ls.length : Int))) ∧ w' = w := by
  obtain ⟨a, c, hv⟩ := h.form
  rw [mkGY_len] at hv
  subst hv
  obtain ⟨m, hm⟩ : ∃ m, m = ls.length := ⟨_, rfl⟩
  rw [← hm] at h ⊢
  have H : Hid (RoY w B (.slice a m c) (mkGY z0 ls m) vs) := h
  have HM : Hid (m = ls.length ∧ SmY ls) := ⟨hm, hn⟩
  have hl : m ≤ 1048576 := by rw [hm]; exact hn.len
  clear h hm hn
  go_enter Try.func54, Try.ntmps54
  go_wp2_with (fail)
  go_loopw [1, 5] (fun q i wr => ∃ (j : Nat) (z : Int), j ≤ m ∧ i = .int .i64 j ∧ q = .int .i64 z ∧ 0 ≤ z ∧ z ≤ 2000000000 ∧ Hid (z = z0 + (totY ls j : Int) ∧ wr = w)) (fun _ i _ => m - (intOf i).toNat)
  case atStart => exact ⟨0, z0, Nat.zero_le _, rfl, rfl, hz0, by omega, by simp [totY], rfl⟩
  case round =>
    obtain ⟨j, z, hj, rfl, rfl, hz0', hz1', hR⟩ := hrel
    obtain ⟨hzj, rfl⟩ := hR.out
    have HZ : Hid (z = z0 + (totY ls j : Int)) := hzj
    clear hR hzj
    by_cases hlt : j < m
    · have hjl : j < (mkGY z0 ls m).length := by rw [mkGY_len, ← HM.out.1]; exact hlt
      obtain ⟨gr, cr, he, hgB, hgl, hjr⟩ := H.out.pos (by omega)
      simp only [Value.slice.injEq] at he
      obtain ⟨rfl, hx1, hx2⟩ := he
      clear hx1 hx2
      have r0 := hjr j hjl
      have hrw := H.out.bx j hjl
      rw [mkGY_at z0 ls hlt (by rw [← HM.out.1]; exact hlt)] at hrw
      have hbj := HM.out.2.row j
      have ht1 := HM.out.2.upto (show j + 1 ≤ ls.length by rw [← HM.out.1]; omega)
      obtain ⟨u, hu⟩ : ∃ u, u = rat vs j := ⟨_, rfl⟩
      rw [← hu] at r0 hrw
      obtain ⟨L, hL⟩ : ∃ L, L = (ls.getD j []).length := ⟨_, rfl⟩
      rw [← hL, ← HZ.out] at hrw
      have HC : Hid (Calls Try.prog 64 #[u, .int .i64 z] wr fun e w' => e = .returned (.int .i64 (z + (L : Int))) ∧ w' = wr) := held1Y z (by omega) hz0' (by omega) hrw
      have HT : Hid (z + (L : Int) = z0 + (totY ls (j + 1) : Int)) := by unfold Hid; rw [HZ.out, hL]; simp only [totY]; omega
      have hLt : z + (L : Int) = z0 + (totY ls (j + 1) : Int) := HT.out
      obtain ⟨ua, uc, huf⟩ := hrw.form
      rw [marksY_length] at huf
      subst huf
      clear hjr hrw hu hL hbj
      have hz2 : 0 ≤ z + (L : Int) ∧ z + (L : Int) ≤ 2000000000 := by omega
      have hz3 : ¬ z + (L : Int) < 0 := by omega
      clear hLt ht1
      have b0 : (0 : Int) ≤ (j : Int) := by omega
      have b1 : (j : Int) < (m : Int) := by omega
      go_wp2_with (fail)
      refine HC.out.mono ?_
      rintro e w' ⟨rfl, rfl⟩
      go_wp2
      go_roundw
      case rel => exact ⟨j + 1, _, by omega, by go_num, rfl, hz2.1, hz2.2, HT.out, trivial⟩
      case measure => simp [intOf]; omega
    · have ej : m = j := by omega
      subst ej
      go_wp2
      go_returns
      exact ⟨by rw [HZ.out]; rfl, rfl⟩


end Go.Proofs.Ytejpjbihdclngaa
