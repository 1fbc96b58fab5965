/- Proved here: how many cells a box of the laws' package has. No condition. -/
import Derived.Test.YtedlokjbpfgbgaaBxL
import Derived.OpenShut
import Derived.Lib.SmallJoins
import Derived.Deep.Slices
import Derived.Carry
namespace Go.Proofs.Ytedlokjbpfgbgaa
open Go.ChangeShapes Go.WideShapes Go.ChangeAt Go.RowKit Go.Joins Go.Deep

theorem cells_laws_Box : Try.prog.cellsOf 24 = 4 := by kernel_rfl

end Go.Proofs.Ytedlokjbpfgbgaa
