/- Proved here: what RunMarch answers. Arithmetic alone. -/
import Derived.Test.YtbjdalcbdbphkaaRmF
import Derived.Test.YtbjdalcbdbphkaaRmG
namespace Go.Proofs.Ytbjdalcbdbphkaa
open Go.RowKit
set_option linter.unusedVariables false
set_option linter.unusedSimpArgs false

def rmC (s : List Elm) (n k c b v : Int) : Int := if mfF s ≠ 0 then mfF s else if ¬ (1 ≤ n ∧ n ≤ 12) then 3 else if mayB k c b v n = true then 0 else 1
def rmR (s : List Elm) (n k c b v : Int) : Option (Int × Nat) := if rmC s n k c b v = 0 then rnM ⟨k, c.toNat, b, v⟩ (m0M ⟨k, c.toNat, b, v⟩) (sM n.toNat s) 0 else none
theorem rmR_no {s : List Elm} {n k c b v : Int} (h : rmC s n k c b v ≠ 0) : rmR s n k c b v = none := by rw [rmR, if_neg h]

end Go.Proofs.Ytbjdalcbdbphkaa
