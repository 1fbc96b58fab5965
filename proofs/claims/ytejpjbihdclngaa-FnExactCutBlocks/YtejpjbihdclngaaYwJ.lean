/- Proved here: how the laws' package finds lists of bytes marked, told as bytes. -/
import Derived.Test.YtejpjbihdclngaaYwK
namespace Go.Proofs.Ytejpjbihdclngaa
open Go.ChangeShapes Go.WideShapes Go.ChangeAt Go.RowKit Go.Joins Go.Deep
set_option linter.unusedVariables false
set_option linter.unusedSimpArgs false

theorem held1Y {w : World} {B n : Nat} {v : Value} (z : Int) (hn : n ≤ 1048576) (hk0 : 0 ≤ z) (hk1 : z ≤ 1000000000000) (h : OG 5 1 byC w B v (marksY z n)) :
    Calls Try.prog 64 #[v, .int .i64 z] w fun e w' => e = .returned (.int .i64 (z + (n : Int))) ∧ w' = w := by
  unfold OG at h
  rw [marksY_length, marksY_mk] at h
  exact heldByteS_to z hn hk0 hk1 h

end Go.Proofs.Ytejpjbihdclngaa
