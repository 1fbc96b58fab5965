/- Proved here: how the laws' package weighs a list of bytes. -/
import Derived.Test.YtejpjbihdclngaaByC
namespace Go.Proofs.Ytejpjbihdclngaa
open Go.RowKit
set_option linter.unusedVariables false
set_option linter.unusedSimpArgs false

theorem szByteS_gen (a : Option Addr) (n c : Nat) (l : Int) (w : World) (h0 : 0 ≤ l) (h1 : l ≤ 1048576) (hm : n ≤ maxLen) :
    Calls Try.prog 47 #[.slice a n c, .int .i64 l] w fun e w' => ∃ r : Int, e = .returned (.int .i64 r) ∧ (r < 0 ∨ (0 ≤ r ∧ r ≤ l ∧ (n : Int) ≤ 1048576)) ∧ Below w.heap.size w w' := by
  unfold maxLen at hm
  go_enter Try.func47, Try.ntmps47
  by_cases h : l - (n : Int) < 0
  · go_wp2
    go_returns
    exact ⟨-1, rfl, Or.inl (by omega), Below.refl _ _⟩
  · go_wp2
    go_returns
    exact ⟨_, rfl, Or.inr ⟨by omega, by omega, by omega⟩, Below.refl _ _⟩

end Go.Proofs.Ytejpjbihdclngaa
