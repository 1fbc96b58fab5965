/- Proved here: l18Sum of the model: the sum of all bytes. -/
import Derived.Test.YtejpjbihdclngaaBkM
import Derived.Test.YtejpjbihdclngaaLwS
namespace Go.Proofs.Ytejpjbihdclngaa
open Go.RowKit
set_option linter.unusedVariables false
set_option linter.unusedSimpArgs false

set_option maxRecDepth 10000 in
set_option maxHeartbeats 3200000 in
theorem spec_sum {w : World} {v : Value} {s : List UInt8} (h2 : s.length ≤ 1048576) (h : RBy w v s) :
    Calls Try.prog 50 #[v] w fun e w' => e = .returned (.int .i64 (suV s : Int)) ∧ w' = w := by
  obtain ⟨a, c, rfl⟩ := h.form
  obtain ⟨n, hnn⟩ : ∃ n, n = s.length := ⟨_, rfl⟩
  rw [← hnn] at h h2 ⊢
  have H : Hid (RBy w (.slice a n c) s ∧ n = s.length) := ⟨h, hnn⟩
  clear h hnn
  go_enter Try.func50, Try.ntmps50
  go_wp2
  go_loopw [3, 4] (fun q i wr => ∃ k : Nat, k ≤ n ∧ i = .int .i64 k ∧ q = .int .i64 (suK s k : Int) ∧ w = wr) (fun _ i _ => n - (intOf i).toNat)
  case atStart => exact ⟨0, Nat.zero_le _, rfl, rfl, rfl⟩
  case round =>
    obtain ⟨k, hk, rfl, rfl, rfl⟩ := hrel
    obtain ⟨Z, hZ⟩ : ∃ Z : Nat, Z = suK s k := ⟨_, rfl⟩
    have hZb : Z < 65536 := by rw [hZ]; exact suK_lt _ _
    rw [← hZ]
    by_cases hlt : k < n
    · obtain ⟨g, o, z, rfl, hg, hz, c0⟩ := rb_at H.out.1 hlt
      obtain ⟨x, hx⟩ : ∃ x : Int, x = (z.toNat : Int) := ⟨_, rfl⟩
      have hxb := by_lt z
      rw [← hx] at c0 hxb
      have HN : Hid ((suK s (k + 1) : Int) = ((Z : Int) + x) % 65536) := by
        unfold Hid; rw [suK, ← hZ, hx, by_get hz]; omega
      have hm1 : ((Z : Int) + x).tmod 65536 = ((Z : Int) + x) % 65536 := Int.tmod_eq_emod_of_nonneg (by omega)
      clear hx hZ hz
      have b0 : (0 : Int) ≤ (k : Int) := by omega
      have b1 : (k : Int) < (n : Int) := by omega
      go_wp2
      go_roundw
      case rel => exact ⟨k + 1, by omega, by go_num, by rw [HN.out], by first | rfl | trivial⟩
      case measure => simp [intOf]; omega
    · have HE : Hid ((suV s : Int) = (Z : Int)) := by unfold Hid; rw [hZ, suV, ← H.out.2, show k = n by omega]
      clear hZ
      go_wp2
      go_returns
      exact ⟨by rw [HE.out]; rfl, rfl⟩

end Go.Proofs.Ytejpjbihdclngaa
