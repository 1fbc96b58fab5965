/-
  No cell of these rows narrows 'for every input' (looked for: loops, veiled, ifaces, maps, wideKeys, modest, calm, conditions, laid).
  DERIVED. THE GIVEN ROWS OF THIS SEAT. 5 by the template 'for every input the law returns true; each argument reads behind the call as it read before'; 0 by the template 'total and deterministic' (their statements: YtknkogghhanhaaoTotals.lean).
  GIVEN WITH THE SEED: the statements are not yours to turn. If you find one false, say at which input.
  Laid BY PROGRAM, IN A SANDBOX (cutbox-rows.mjs): the forced cells as the released guide's own fill.sh prints them over the translation 5755b245ce01c5e6… (all of the seat's roots in one cut). By AI agents, Wed Nov 11 2026. No macro, syntax, notation, axiom, sorry.
-/
import Derived.Test.YtknkogghhanhaaoChecked
import GoSem.Claim
import GoSem.ClaimJoined
import GoSem.ClaimMapViews
import Derived.JoinedTies
import Derived.KernelRfl
namespace Go.Proofs.Ytknkogghhanhaao
/- THE CELL 'sum', in the pinned program and in every row, IS THE sha256 OF THE DUMP (.gsa) THAT YtknkogghhanhaaoProg.lean LOADS. Nothing in Lean hashes anything: it is a label: what it is worth is what the hold of that sum in a sandbox is worth. -/
noncomputable def Try.pinned : Pinned := { name := "ytknkogghhanhaao", sum := "5755b245ce01c5e62eb3d6c6d613685788da99e93e3a635ffe6a0c9c761326ee", checked := Try.checked }
namespace Rows
def none {H : Type} : Left H := { results := [], args := [] }

/-- 'laws.FnExactGrowShape': WHATEVER THE INPUT: true; the input reads as it did. -/
def fnExactGrowShapeSpec : ChangeSpec := { name := "fnExactGrowShape", fn := fun _ => fun
  | [d1, d2] => { results := [.lit (.bool true)], args := [d1, d2] }
  | _ => none }
def fnExactGrowShapeRow : OpenClaim := { program := "ytknkogghhanhaao", sum := "5755b245ce01c5e62eb3d6c6d613685788da99e93e3a635ffe6a0c9c761326ee", func := "loop.example/g00057/laws.FnExactGrowShape", spec := "fnExactGrowShape", unfollowed := true, recurses := true, apart := false }
def FnExactGrowShapeSaid : Prop := fnExactGrowShapeRow.holds Try.pinned (OpenSpec.ofChange fnExactGrowShapeSpec)

/-- ITS FALSE NEIGHBOUR: 'it returns false'. Refute it at one input. -/
def fnExactGrowShapeWrong : ChangeSpec := { name := "fnExactGrowShape", fn := fun _ => fun
  | [d1, d2] => { results := [.lit (.bool false)], args := [d1, d2] }
  | _ => none }
def FnExactGrowShapeWrongFalsely : Prop := fnExactGrowShapeRow.holds Try.pinned (OpenSpec.ofChange fnExactGrowShapeWrong)

/-- 'laws.FnExactMoveShape': WHATEVER THE INPUT: true; the input reads as it did. -/
def fnExactMoveShapeSpec : ChangeSpec := { name := "fnExactMoveShape", fn := fun _ => fun
  | [d1, d2, d3] => { results := [.lit (.bool true)], args := [d1, d2, d3] }
  | _ => none }
def fnExactMoveShapeRow : OpenClaim := { program := "ytknkogghhanhaao", sum := "5755b245ce01c5e62eb3d6c6d613685788da99e93e3a635ffe6a0c9c761326ee", func := "loop.example/g00057/laws.FnExactMoveShape", spec := "fnExactMoveShape", apart := false }
def FnExactMoveShapeSaid : Prop := fnExactMoveShapeRow.holds Try.pinned (OpenSpec.ofChange fnExactMoveShapeSpec)

/-- ITS FALSE NEIGHBOUR: 'it returns false'. Refute it at one input. -/
def fnExactMoveShapeWrong : ChangeSpec := { name := "fnExactMoveShape", fn := fun _ => fun
  | [d1, d2, d3] => { results := [.lit (.bool false)], args := [d1, d2, d3] }
  | _ => none }
def FnExactMoveShapeWrongFalsely : Prop := fnExactMoveShapeRow.holds Try.pinned (OpenSpec.ofChange fnExactMoveShapeWrong)

/-- 'laws.FnExactTurnShape': WHATEVER THE INPUT: true; the input reads as it did. -/
def fnExactTurnShapeSpec : ChangeSpec := { name := "fnExactTurnShape", fn := fun _ => fun
  | [d1, d2] => { results := [.lit (.bool true)], args := [d1, d2] }
  | _ => none }
def fnExactTurnShapeRow : OpenClaim := { program := "ytknkogghhanhaao", sum := "5755b245ce01c5e62eb3d6c6d613685788da99e93e3a635ffe6a0c9c761326ee", func := "loop.example/g00057/laws.FnExactTurnShape", spec := "fnExactTurnShape", unfollowed := true, recurses := true, apart := false }
def FnExactTurnShapeSaid : Prop := fnExactTurnShapeRow.holds Try.pinned (OpenSpec.ofChange fnExactTurnShapeSpec)

/-- ITS FALSE NEIGHBOUR: 'it returns false'. Refute it at one input. -/
def fnExactTurnShapeWrong : ChangeSpec := { name := "fnExactTurnShape", fn := fun _ => fun
  | [d1, d2] => { results := [.lit (.bool false)], args := [d1, d2] }
  | _ => none }
def FnExactTurnShapeWrongFalsely : Prop := fnExactTurnShapeRow.holds Try.pinned (OpenSpec.ofChange fnExactTurnShapeWrong)

/-- 'laws.FnExactRimOf': WHATEVER THE INPUT: true; the input reads as it did. -/
def fnExactRimOfSpec : ChangeSpec := { name := "fnExactRimOf", fn := fun _ => fun
  | [d] => { results := [.lit (.bool true)], args := [d] }
  | _ => none }
def fnExactRimOfRow : OpenClaim := { program := "ytknkogghhanhaao", sum := "5755b245ce01c5e62eb3d6c6d613685788da99e93e3a635ffe6a0c9c761326ee", func := "loop.example/g00057/laws.FnExactRimOf", spec := "fnExactRimOf", apart := false }
def FnExactRimOfSaid : Prop := fnExactRimOfRow.holds Try.pinned (OpenSpec.ofChange fnExactRimOfSpec)

/-- ITS FALSE NEIGHBOUR: 'it returns false'. Refute it at one input. -/
def fnExactRimOfWrong : ChangeSpec := { name := "fnExactRimOf", fn := fun _ => fun
  | [d] => { results := [.lit (.bool false)], args := [d] }
  | _ => none }
def FnExactRimOfWrongFalsely : Prop := fnExactRimOfRow.holds Try.pinned (OpenSpec.ofChange fnExactRimOfWrong)

/-- 'laws.FnExactBoundsOf': WHATEVER THE INPUT: true; the input reads as it did. -/
def fnExactBoundsOfSpec : ChangeSpec := { name := "fnExactBoundsOf", fn := fun _ => fun
  | [d] => { results := [.lit (.bool true)], args := [d] }
  | _ => none }
def fnExactBoundsOfRow : OpenClaim := { program := "ytknkogghhanhaao", sum := "5755b245ce01c5e62eb3d6c6d613685788da99e93e3a635ffe6a0c9c761326ee", func := "loop.example/g00057/laws.FnExactBoundsOf", spec := "fnExactBoundsOf", apart := false }
def FnExactBoundsOfSaid : Prop := fnExactBoundsOfRow.holds Try.pinned (OpenSpec.ofChange fnExactBoundsOfSpec)

/-- ITS FALSE NEIGHBOUR: 'it returns false'. Refute it at one input. -/
def fnExactBoundsOfWrong : ChangeSpec := { name := "fnExactBoundsOf", fn := fun _ => fun
  | [d] => { results := [.lit (.bool false)], args := [d] }
  | _ => none }
def FnExactBoundsOfWrongFalsely : Prop := fnExactBoundsOfRow.holds Try.pinned (OpenSpec.ofChange fnExactBoundsOfWrong)

/- THE SECOND FORM. 'bulk': how many values and letters a reading holds, each counted each time it is reached (what is shared counts as often as it is met; a slice's spare places count too). A statement '..UptoSaid' is the law's where the arguments, and the package variables that the reading takes, are together of bulk at most 1048576: NARROWER than '..Said'. Prove '..Said' where nothing that the law and all that it calls make is longer than what came in: it says more and counts as full. Else prove '..UptoSaid'. A law counts once. -/
mutual
def uptoBulk {H : Type} : DataW H → Nat
  | .lit (.string bytes) => bytes.length + 1
  | .lit _ => 1
  | .nil => 1
  | .ptr d => uptoBulk d + 1
  | .slice elems spare => uptoBulkAll elems + uptoBulkAll spare + 1
  | .agg parts => uptoBulkAll parts + 1
  | .iface _ d => uptoBulk d + 1
  | .map entries => uptoBulkEntries entries + 1
  | .held _ => 1
def uptoBulkAll {H : Type} : List (DataW H) → Nat
  | [] => 0
  | d :: r => uptoBulk d + uptoBulkAll r
def uptoBulkEntries {H : Type} : List (Lit × DataW H) → Nat
  | [] => 0
  | x :: r => uptoBulkEntry x + uptoBulkEntries r
def uptoBulkEntry {H : Type} : Lit × DataW H → Nat
  | (.string bytes, d) => bytes.length + uptoBulk d + 1
  | (_, d) => uptoBulk d + 1
 end
def uptoSmall : (H : Type) → List (DataW H) → Bool := fun _ ds => decide (uptoBulkAll ds ≤ 1048576)
def OpenSpec.upto (s : _root_.Go.ChangeSpec) : _root_.Go.OpenSpec := { _root_.Go.OpenSpec.ofChange s with cond := some uptoSmall }

/-- 'laws.FnExactGrowShape', WHERE WHAT IT READS IS OF BULK AT MOST 1048576: true; the input reads as it did. -/
def fnExactGrowShapeUptoRow : OpenClaim := { program := "ytknkogghhanhaao", sum := "5755b245ce01c5e62eb3d6c6d613685788da99e93e3a635ffe6a0c9c761326ee", func := "loop.example/g00057/laws.FnExactGrowShape", spec := "fnExactGrowShape", unfollowed := true, recurses := true, apart := false, narrowed := true }
def FnExactGrowShapeUptoSaid : Prop := fnExactGrowShapeUptoRow.holds Try.pinned (OpenSpec.upto fnExactGrowShapeSpec)

/-- 'laws.FnExactMoveShape', WHERE WHAT IT READS IS OF BULK AT MOST 1048576: true; the input reads as it did. -/
def fnExactMoveShapeUptoRow : OpenClaim := { program := "ytknkogghhanhaao", sum := "5755b245ce01c5e62eb3d6c6d613685788da99e93e3a635ffe6a0c9c761326ee", func := "loop.example/g00057/laws.FnExactMoveShape", spec := "fnExactMoveShape", apart := false, narrowed := true }
def FnExactMoveShapeUptoSaid : Prop := fnExactMoveShapeUptoRow.holds Try.pinned (OpenSpec.upto fnExactMoveShapeSpec)

/-- 'laws.FnExactTurnShape', WHERE WHAT IT READS IS OF BULK AT MOST 1048576: true; the input reads as it did. -/
def fnExactTurnShapeUptoRow : OpenClaim := { program := "ytknkogghhanhaao", sum := "5755b245ce01c5e62eb3d6c6d613685788da99e93e3a635ffe6a0c9c761326ee", func := "loop.example/g00057/laws.FnExactTurnShape", spec := "fnExactTurnShape", unfollowed := true, recurses := true, apart := false, narrowed := true }
def FnExactTurnShapeUptoSaid : Prop := fnExactTurnShapeUptoRow.holds Try.pinned (OpenSpec.upto fnExactTurnShapeSpec)

/-- 'laws.FnExactRimOf', WHERE WHAT IT READS IS OF BULK AT MOST 1048576: true; the input reads as it did. -/
def fnExactRimOfUptoRow : OpenClaim := { program := "ytknkogghhanhaao", sum := "5755b245ce01c5e62eb3d6c6d613685788da99e93e3a635ffe6a0c9c761326ee", func := "loop.example/g00057/laws.FnExactRimOf", spec := "fnExactRimOf", apart := false, narrowed := true }
def FnExactRimOfUptoSaid : Prop := fnExactRimOfUptoRow.holds Try.pinned (OpenSpec.upto fnExactRimOfSpec)

/-- 'laws.FnExactBoundsOf', WHERE WHAT IT READS IS OF BULK AT MOST 1048576: true; the input reads as it did. -/
def fnExactBoundsOfUptoRow : OpenClaim := { program := "ytknkogghhanhaao", sum := "5755b245ce01c5e62eb3d6c6d613685788da99e93e3a635ffe6a0c9c761326ee", func := "loop.example/g00057/laws.FnExactBoundsOf", spec := "fnExactBoundsOf", apart := false, narrowed := true }
def FnExactBoundsOfUptoSaid : Prop := fnExactBoundsOfUptoRow.holds Try.pinned (OpenSpec.upto fnExactBoundsOfSpec)

end Rows
end Go.Proofs.Ytknkogghhanhaao
