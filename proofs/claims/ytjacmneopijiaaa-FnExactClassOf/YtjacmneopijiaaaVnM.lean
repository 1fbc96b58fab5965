/- Proved here: what ClassOf answers. -/
import Derived.Test.YtjacmneopijiaaaVtM
namespace Go.Proofs.Ytjacmneopijiaaa
open Go.RowKit
set_option linter.unusedVariables false
set_option linter.unusedSimpArgs false

/-- The name of the first class that fits; 0: there is none, or the classes have a fault. -/
def vnV (d : Dft) (cs : List Cls) : Int := if vcF cs = 0 then (match cs[vff d cs]? with | some c => c.nm | none => 0) else 0
theorem vnV_bad {d : Dft} {cs : List Cls} (h : ¬ vcF cs = 0) : vnV d cs = 0 := by unfold vnV; rw [if_neg h]
theorem vnV_none {d : Dft} {cs : List Cls} (h : vcF cs = 0) (h2 : vff d cs = cs.length) : vnV d cs = 0 := by
  unfold vnV; rw [if_pos h, h2, List.getElem?_eq_none (Nat.le_refl _)]
theorem vnV_at {d : Dft} {cs : List Cls} (h : vcF cs = 0) {i : Nat} (h2 : vff d cs = i) (hi : i < cs.length) : vnV d cs = cs[i].nm := by
  unfold vnV; rw [if_pos h, h2, List.getElem?_eq_getElem hi]

end Go.Proofs.Ytjacmneopijiaaa
