/- Proved here: the blocks that are cut are not too many. -/
import Derived.Test.YtejpjbihdclngaaCbM
import Derived.Test.YtejpjbihdclngaaYwR
namespace Go.Proofs.Ytejpjbihdclngaa
open Go.RowKit
set_option linter.unusedVariables false
set_option linter.unusedSimpArgs false

theorem cb_tot (A B C : Int) (s : List UInt8) (m : Nat) : ∀ k, k ≤ m → totY (cbR A B C s m) k ≤ 40 * k
  | 0, _ => Nat.zero_le _
  | k + 1, h => by
    have h1 := cb_tot A B C s m k (by omega)
    have h2 : ((cbR A B C s m).getD k []).length ≤ 40 := by
      rw [cbR_get A B C s m k (by omega), cbB, blB_len]
      have := piB_len s k
      omega
    rw [totY]; omega
theorem cbL_sm (A B C : Int) (s : List UInt8) : SmY (cbL A B C s) := by
  unfold cbL
  split
  · rename_i h
    have h9 := (mgF_good h).2.2.2.2.2.2
    have hN : cbN s ≤ 64 := by unfold cbN; omega
    have hl := cbR_len A B C s (cbN s)
    have ht := cb_tot A B C s (cbN s) (cbN s) (Nat.le_refl _)
    exact ⟨by rw [hl]; omega, by rw [hl]; omega⟩
  · exact ⟨by simp, by simp [totY]⟩

end Go.Proofs.Ytejpjbihdclngaa
