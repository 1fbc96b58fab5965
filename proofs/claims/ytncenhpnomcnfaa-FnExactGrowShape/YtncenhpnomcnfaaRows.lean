/-
  No cell of these rows narrows 'for every input' (looked for: loops, veiled, ifaces, maps, wideKeys, modest, calm, conditions, laid).
  DERIVED. THE GIVEN ROWS OF THIS SEAT. 6 by the template 'for every input the law returns true; each argument reads behind the call as it read before'; 0 by the template 'total and deterministic' (their statements: YtncenhpnomcnfaaTotals.lean).
  GIVEN WITH THE SEED: the statements are not yours to turn. If you find one false, say at which input.
  Laid BY PROGRAM, IN A SANDBOX (cutbox-rows.mjs): the forced cells as the released guide's own fill.sh prints them over the translation 469170e7ed281230… (all of the seat's roots in one cut). By AI agents, Wed Nov 11 2026. No macro, syntax, notation, axiom, sorry.
-/
import Derived.Test.YtncenhpnomcnfaaChecked
import GoSem.Claim
import GoSem.ClaimJoined
import GoSem.ClaimMapViews
import Derived.JoinedTies
import Derived.KernelRfl
namespace Go.Proofs.Ytncenhpnomcnfaa
/- THE CELL 'sum', in the pinned program and in every row, IS THE sha256 OF THE DUMP (.gsa) THAT YtncenhpnomcnfaaProg.lean LOADS. Nothing in Lean hashes anything: it is a label: what it is worth is what the hold of that sum in a sandbox is worth. -/
noncomputable def Try.pinned : Pinned := { name := "ytncenhpnomcnfaa", sum := "469170e7ed281230e5673eeb4d9e313d3bcbacc6167a470e91387813762b0676", checked := Try.checked }
namespace Rows
def none {H : Type} : Left H := { results := [], args := [] }

/-- 'laws.FnExactShapeOf': WHATEVER THE INPUT: true; the input reads as it did. -/
def fnExactShapeOfSpec : ChangeSpec := { name := "fnExactShapeOf", fn := fun _ => fun
  | [d] => { results := [.lit (.bool true)], args := [d] }
  | _ => none }
def fnExactShapeOfRow : OpenClaim := { program := "ytncenhpnomcnfaa", sum := "469170e7ed281230e5673eeb4d9e313d3bcbacc6167a470e91387813762b0676", func := "loop.example/g00057/laws.FnExactShapeOf", spec := "fnExactShapeOf", unfollowed := true, recurses := true, apart := false }
def FnExactShapeOfSaid : Prop := fnExactShapeOfRow.holds Try.pinned (OpenSpec.ofChange fnExactShapeOfSpec)

/-- ITS FALSE NEIGHBOUR: 'it returns false'. Refute it at one input. -/
def fnExactShapeOfWrong : ChangeSpec := { name := "fnExactShapeOf", fn := fun _ => fun
  | [d] => { results := [.lit (.bool false)], args := [d] }
  | _ => none }
def FnExactShapeOfWrongFalsely : Prop := fnExactShapeOfRow.holds Try.pinned (OpenSpec.ofChange fnExactShapeOfWrong)

/-- 'laws.FnExactCombineShapes': WHATEVER THE INPUT: true; the input reads as it did. -/
def fnExactCombineShapesSpec : ChangeSpec := { name := "fnExactCombineShapes", fn := fun _ => fun
  | [d1, d2, d3] => { results := [.lit (.bool true)], args := [d1, d2, d3] }
  | _ => none }
def fnExactCombineShapesRow : OpenClaim := { program := "ytncenhpnomcnfaa", sum := "469170e7ed281230e5673eeb4d9e313d3bcbacc6167a470e91387813762b0676", func := "loop.example/g00057/laws.FnExactCombineShapes", spec := "fnExactCombineShapes", unfollowed := true, recurses := true, apart := false }
def FnExactCombineShapesSaid : Prop := fnExactCombineShapesRow.holds Try.pinned (OpenSpec.ofChange fnExactCombineShapesSpec)

/-- ITS FALSE NEIGHBOUR: 'it returns false'. Refute it at one input. -/
def fnExactCombineShapesWrong : ChangeSpec := { name := "fnExactCombineShapes", fn := fun _ => fun
  | [d1, d2, d3] => { results := [.lit (.bool false)], args := [d1, d2, d3] }
  | _ => none }
def FnExactCombineShapesWrongFalsely : Prop := fnExactCombineShapesRow.holds Try.pinned (OpenSpec.ofChange fnExactCombineShapesWrong)

/-- 'laws.FnExactGrowShape': WHATEVER THE INPUT: true; the input reads as it did. -/
def fnExactGrowShapeSpec : ChangeSpec := { name := "fnExactGrowShape", fn := fun _ => fun
  | [d1, d2] => { results := [.lit (.bool true)], args := [d1, d2] }
  | _ => none }
def fnExactGrowShapeRow : OpenClaim := { program := "ytncenhpnomcnfaa", sum := "469170e7ed281230e5673eeb4d9e313d3bcbacc6167a470e91387813762b0676", func := "loop.example/g00057/laws.FnExactGrowShape", spec := "fnExactGrowShape", unfollowed := true, recurses := true, apart := false }
def FnExactGrowShapeSaid : Prop := fnExactGrowShapeRow.holds Try.pinned (OpenSpec.ofChange fnExactGrowShapeSpec)

/-- ITS FALSE NEIGHBOUR: 'it returns false'. Refute it at one input. -/
def fnExactGrowShapeWrong : ChangeSpec := { name := "fnExactGrowShape", fn := fun _ => fun
  | [d1, d2] => { results := [.lit (.bool false)], args := [d1, d2] }
  | _ => none }
def FnExactGrowShapeWrongFalsely : Prop := fnExactGrowShapeRow.holds Try.pinned (OpenSpec.ofChange fnExactGrowShapeWrong)

/-- 'laws.FnExactTurnShape': WHATEVER THE INPUT: true; the input reads as it did. -/
def fnExactTurnShapeSpec : ChangeSpec := { name := "fnExactTurnShape", fn := fun _ => fun
  | [d1, d2] => { results := [.lit (.bool true)], args := [d1, d2] }
  | _ => none }
def fnExactTurnShapeRow : OpenClaim := { program := "ytncenhpnomcnfaa", sum := "469170e7ed281230e5673eeb4d9e313d3bcbacc6167a470e91387813762b0676", func := "loop.example/g00057/laws.FnExactTurnShape", spec := "fnExactTurnShape", unfollowed := true, recurses := true, apart := false }
def FnExactTurnShapeSaid : Prop := fnExactTurnShapeRow.holds Try.pinned (OpenSpec.ofChange fnExactTurnShapeSpec)

/-- ITS FALSE NEIGHBOUR: 'it returns false'. Refute it at one input. -/
def fnExactTurnShapeWrong : ChangeSpec := { name := "fnExactTurnShape", fn := fun _ => fun
  | [d1, d2] => { results := [.lit (.bool false)], args := [d1, d2] }
  | _ => none }
def FnExactTurnShapeWrongFalsely : Prop := fnExactTurnShapeRow.holds Try.pinned (OpenSpec.ofChange fnExactTurnShapeWrong)

/-- 'laws.FnExactNameFault': WHATEVER THE INPUT: true; the input reads as it did. -/
def fnExactNameFaultSpec : ChangeSpec := { name := "fnExactNameFault", fn := fun _ => fun
  | [d] => { results := [.lit (.bool true)], args := [d] }
  | _ => none }
def fnExactNameFaultRow : OpenClaim := { program := "ytncenhpnomcnfaa", sum := "469170e7ed281230e5673eeb4d9e313d3bcbacc6167a470e91387813762b0676", func := "loop.example/g00057/laws.FnExactNameFault", spec := "fnExactNameFault", apart := false }
def FnExactNameFaultSaid : Prop := fnExactNameFaultRow.holds Try.pinned (OpenSpec.ofChange fnExactNameFaultSpec)

/-- ITS FALSE NEIGHBOUR: 'it returns false'. Refute it at one input. -/
def fnExactNameFaultWrong : ChangeSpec := { name := "fnExactNameFault", fn := fun _ => fun
  | [d] => { results := [.lit (.bool false)], args := [d] }
  | _ => none }
def FnExactNameFaultWrongFalsely : Prop := fnExactNameFaultRow.holds Try.pinned (OpenSpec.ofChange fnExactNameFaultWrong)

/-- 'laws.FnExactPutBox': WHATEVER THE INPUT: true; the input reads as it did. -/
def fnExactPutBoxSpec : ChangeSpec := { name := "fnExactPutBox", fn := fun _ => fun
  | [d1, d2, d3, d4] => { results := [.lit (.bool true)], args := [d1, d2, d3, d4] }
  | _ => none }
def fnExactPutBoxRow : OpenClaim := { program := "ytncenhpnomcnfaa", sum := "469170e7ed281230e5673eeb4d9e313d3bcbacc6167a470e91387813762b0676", func := "loop.example/g00057/laws.FnExactPutBox", spec := "fnExactPutBox", apart := false }
def FnExactPutBoxSaid : Prop := fnExactPutBoxRow.holds Try.pinned (OpenSpec.ofChange fnExactPutBoxSpec)

/-- ITS FALSE NEIGHBOUR: 'it returns false'. Refute it at one input. -/
def fnExactPutBoxWrong : ChangeSpec := { name := "fnExactPutBox", fn := fun _ => fun
  | [d1, d2, d3, d4] => { results := [.lit (.bool false)], args := [d1, d2, d3, d4] }
  | _ => none }
def FnExactPutBoxWrongFalsely : Prop := fnExactPutBoxRow.holds Try.pinned (OpenSpec.ofChange fnExactPutBoxWrong)

/- THE SECOND FORM. 'bulk': how many values and letters a reading holds, each counted each time it is reached (what is shared counts as often as it is met; a slice's spare places count too). A statement '..UptoSaid' is the law's where the arguments, and the package variables that the reading takes, are together of bulk at most 1048576: NARROWER than '..Said'. Prove '..Said' where nothing that the law and all that it calls make is longer than what came in: it says more and counts as full. Else prove '..UptoSaid'. A law counts once. -/
mutual
def uptoBulk {H : Type} : DataW H → Nat
  | .lit (.string bytes) => bytes.length + 1
  | .lit _ => 1
  | .nil => 1
  | .ptr d => uptoBulk d + 1
  | .slice elems spare => uptoBulkAll elems + uptoBulkAll spare + 1
  | .agg parts => uptoBulkAll parts + 1
  | .iface _ d => uptoBulk d + 1
  | .map entries => uptoBulkEntries entries + 1
  | .held _ => 1
def uptoBulkAll {H : Type} : List (DataW H) → Nat
  | [] => 0
  | d :: r => uptoBulk d + uptoBulkAll r
def uptoBulkEntries {H : Type} : List (Lit × DataW H) → Nat
  | [] => 0
  | x :: r => uptoBulkEntry x + uptoBulkEntries r
def uptoBulkEntry {H : Type} : Lit × DataW H → Nat
  | (.string bytes, d) => bytes.length + uptoBulk d + 1
  | (_, d) => uptoBulk d + 1
 end
def uptoSmall : (H : Type) → List (DataW H) → Bool := fun _ ds => decide (uptoBulkAll ds ≤ 1048576)
def OpenSpec.upto (s : _root_.Go.ChangeSpec) : _root_.Go.OpenSpec := { _root_.Go.OpenSpec.ofChange s with cond := some uptoSmall }

/-- 'laws.FnExactShapeOf', WHERE WHAT IT READS IS OF BULK AT MOST 1048576: true; the input reads as it did. -/
def fnExactShapeOfUptoRow : OpenClaim := { program := "ytncenhpnomcnfaa", sum := "469170e7ed281230e5673eeb4d9e313d3bcbacc6167a470e91387813762b0676", func := "loop.example/g00057/laws.FnExactShapeOf", spec := "fnExactShapeOf", unfollowed := true, recurses := true, apart := false, narrowed := true }
def FnExactShapeOfUptoSaid : Prop := fnExactShapeOfUptoRow.holds Try.pinned (OpenSpec.upto fnExactShapeOfSpec)

/-- 'laws.FnExactCombineShapes', WHERE WHAT IT READS IS OF BULK AT MOST 1048576: true; the input reads as it did. -/
def fnExactCombineShapesUptoRow : OpenClaim := { program := "ytncenhpnomcnfaa", sum := "469170e7ed281230e5673eeb4d9e313d3bcbacc6167a470e91387813762b0676", func := "loop.example/g00057/laws.FnExactCombineShapes", spec := "fnExactCombineShapes", unfollowed := true, recurses := true, apart := false, narrowed := true }
def FnExactCombineShapesUptoSaid : Prop := fnExactCombineShapesUptoRow.holds Try.pinned (OpenSpec.upto fnExactCombineShapesSpec)

/-- 'laws.FnExactGrowShape', WHERE WHAT IT READS IS OF BULK AT MOST 1048576: true; the input reads as it did. -/
def fnExactGrowShapeUptoRow : OpenClaim := { program := "ytncenhpnomcnfaa", sum := "469170e7ed281230e5673eeb4d9e313d3bcbacc6167a470e91387813762b0676", func := "loop.example/g00057/laws.FnExactGrowShape", spec := "fnExactGrowShape", unfollowed := true, recurses := true, apart := false, narrowed := true }
def FnExactGrowShapeUptoSaid : Prop := fnExactGrowShapeUptoRow.holds Try.pinned (OpenSpec.upto fnExactGrowShapeSpec)

/-- 'laws.FnExactTurnShape', WHERE WHAT IT READS IS OF BULK AT MOST 1048576: true; the input reads as it did. -/
def fnExactTurnShapeUptoRow : OpenClaim := { program := "ytncenhpnomcnfaa", sum := "469170e7ed281230e5673eeb4d9e313d3bcbacc6167a470e91387813762b0676", func := "loop.example/g00057/laws.FnExactTurnShape", spec := "fnExactTurnShape", unfollowed := true, recurses := true, apart := false, narrowed := true }
def FnExactTurnShapeUptoSaid : Prop := fnExactTurnShapeUptoRow.holds Try.pinned (OpenSpec.upto fnExactTurnShapeSpec)

/-- 'laws.FnExactNameFault', WHERE WHAT IT READS IS OF BULK AT MOST 1048576: true; the input reads as it did. -/
def fnExactNameFaultUptoRow : OpenClaim := { program := "ytncenhpnomcnfaa", sum := "469170e7ed281230e5673eeb4d9e313d3bcbacc6167a470e91387813762b0676", func := "loop.example/g00057/laws.FnExactNameFault", spec := "fnExactNameFault", apart := false, narrowed := true }
def FnExactNameFaultUptoSaid : Prop := fnExactNameFaultUptoRow.holds Try.pinned (OpenSpec.upto fnExactNameFaultSpec)

/-- 'laws.FnExactPutBox', WHERE WHAT IT READS IS OF BULK AT MOST 1048576: true; the input reads as it did. -/
def fnExactPutBoxUptoRow : OpenClaim := { program := "ytncenhpnomcnfaa", sum := "469170e7ed281230e5673eeb4d9e313d3bcbacc6167a470e91387813762b0676", func := "loop.example/g00057/laws.FnExactPutBox", spec := "fnExactPutBox", apart := false, narrowed := true }
def FnExactPutBoxUptoSaid : Prop := fnExactPutBoxUptoRow.holds Try.pinned (OpenSpec.upto fnExactPutBoxSpec)

end Rows
end Go.Proofs.Ytncenhpnomcnfaa
