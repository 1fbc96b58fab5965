/- The sum of a recipe's text. Arithmetic alone. -/
import Derived.Test.YtnljomeacnjmmaaDoorXlM
namespace Go.Proofs.YtnljomeacnjmmaaDoor
open Go.ChangeShapes Go.WideShapes Go.ChangeAt Go.RowKit Go.Joins
set_option linter.unusedVariables false
set_option linter.unusedSimpArgs false

def hsh (s : ByteArray) : Nat → Int
  | 0 => 1
  | n + 1 => (hsh s n * 131 + nmB s n) % 998244353
theorem hsh_bnd (s : ByteArray) (n : Nat) : 0 ≤ hsh s n ∧ hsh s n < 998244353 := by
  cases n with
  | zero => exact ⟨by unfold hsh; omega, by unfold hsh; omega⟩
  | succ n => exact ⟨Int.emod_nonneg _ (by decide), Int.emod_lt_of_pos _ (by decide)⟩
def soC (c : Rp) : Int := if rfK c = 0 then (if foS c = ⟨#[]⟩ then 2 else 0) else rfK c
def soV (c : Rp) : Int := if rfK c = 0 then (if foS c = ⟨#[]⟩ then 0 else hsh (foS c) (foS c).size) else 0
theorem foS_size (c : Rp) : (foS c).size ≤ 4000 := by
  unfold foS
  split
  · split
    · simp [ByteArray.size]
    · omega
  · simp [ByteArray.size]
end Go.Proofs.YtnljomeacnjmmaaDoor
