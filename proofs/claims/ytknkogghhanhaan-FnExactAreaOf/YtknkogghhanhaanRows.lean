/-
  No cell of these rows narrows 'for every input' (looked for: loops, veiled, ifaces, maps, wideKeys, modest, calm, conditions, laid).
  DERIVED. THE GIVEN ROWS OF THIS SEAT. 6 by the template 'for every input the law returns true; each argument reads behind the call as it read before'; 0 by the template 'total and deterministic' (their statements: YtknkogghhanhaanTotals.lean).
  GIVEN WITH THE SEED: the statements are not yours to turn. If you find one false, say at which input.
  Laid BY PROGRAM, IN A SANDBOX (cutbox-rows.mjs): the forced cells as the released guide's own fill.sh prints them over the translation 2551e52cf3801a27… (all of the seat's roots in one cut). By AI agents, Wed Nov 11 2026. No macro, syntax, notation, axiom, sorry.
-/
import Derived.Test.YtknkogghhanhaanChecked
import GoSem.Claim
import GoSem.ClaimJoined
import GoSem.ClaimMapViews
import Derived.JoinedTies
import Derived.KernelRfl
namespace Go.Proofs.Ytknkogghhanhaan
/- THE CELL 'sum', in the pinned program and in every row, IS THE sha256 OF THE DUMP (.gsa) THAT YtknkogghhanhaanProg.lean LOADS. Nothing in Lean hashes anything: it is a label: what it is worth is what the hold of that sum in a sandbox is worth. -/
noncomputable def Try.pinned : Pinned := { name := "ytknkogghhanhaan", sum := "2551e52cf3801a27a31a0014a470fb9a8b389da0cfffc8fe2c4bfa6fc403a1c6", checked := Try.checked }
namespace Rows
def none {H : Type} : Left H := { results := [], args := [] }

/-- 'laws.FnExactBoxFault': WHATEVER THE INPUT: true; the input reads as it did. -/
def fnExactBoxFaultSpec : ChangeSpec := { name := "fnExactBoxFault", fn := fun _ => fun
  | [d] => { results := [.lit (.bool true)], args := [d] }
  | _ => none }
def fnExactBoxFaultRow : OpenClaim := { program := "ytknkogghhanhaan", sum := "2551e52cf3801a27a31a0014a470fb9a8b389da0cfffc8fe2c4bfa6fc403a1c6", func := "loop.example/g00057/laws.FnExactBoxFault", spec := "fnExactBoxFault", apart := false }
def FnExactBoxFaultSaid : Prop := fnExactBoxFaultRow.holds Try.pinned (OpenSpec.ofChange fnExactBoxFaultSpec)

/-- ITS FALSE NEIGHBOUR: 'it returns false'. Refute it at one input. -/
def fnExactBoxFaultWrong : ChangeSpec := { name := "fnExactBoxFault", fn := fun _ => fun
  | [d] => { results := [.lit (.bool false)], args := [d] }
  | _ => none }
def FnExactBoxFaultWrongFalsely : Prop := fnExactBoxFaultRow.holds Try.pinned (OpenSpec.ofChange fnExactBoxFaultWrong)

/-- 'laws.FnExactShapeFault': WHATEVER THE INPUT: true; the input reads as it did. -/
def fnExactShapeFaultSpec : ChangeSpec := { name := "fnExactShapeFault", fn := fun _ => fun
  | [d] => { results := [.lit (.bool true)], args := [d] }
  | _ => none }
def fnExactShapeFaultRow : OpenClaim := { program := "ytknkogghhanhaan", sum := "2551e52cf3801a27a31a0014a470fb9a8b389da0cfffc8fe2c4bfa6fc403a1c6", func := "loop.example/g00057/laws.FnExactShapeFault", spec := "fnExactShapeFault", apart := false }
def FnExactShapeFaultSaid : Prop := fnExactShapeFaultRow.holds Try.pinned (OpenSpec.ofChange fnExactShapeFaultSpec)

/-- ITS FALSE NEIGHBOUR: 'it returns false'. Refute it at one input. -/
def fnExactShapeFaultWrong : ChangeSpec := { name := "fnExactShapeFault", fn := fun _ => fun
  | [d] => { results := [.lit (.bool false)], args := [d] }
  | _ => none }
def FnExactShapeFaultWrongFalsely : Prop := fnExactShapeFaultRow.holds Try.pinned (OpenSpec.ofChange fnExactShapeFaultWrong)

/-- 'laws.FnExactShapeOf': WHATEVER THE INPUT: true; the input reads as it did. -/
def fnExactShapeOfSpec : ChangeSpec := { name := "fnExactShapeOf", fn := fun _ => fun
  | [d] => { results := [.lit (.bool true)], args := [d] }
  | _ => none }
def fnExactShapeOfRow : OpenClaim := { program := "ytknkogghhanhaan", sum := "2551e52cf3801a27a31a0014a470fb9a8b389da0cfffc8fe2c4bfa6fc403a1c6", func := "loop.example/g00057/laws.FnExactShapeOf", spec := "fnExactShapeOf", unfollowed := true, recurses := true, apart := false }
def FnExactShapeOfSaid : Prop := fnExactShapeOfRow.holds Try.pinned (OpenSpec.ofChange fnExactShapeOfSpec)

/-- ITS FALSE NEIGHBOUR: 'it returns false'. Refute it at one input. -/
def fnExactShapeOfWrong : ChangeSpec := { name := "fnExactShapeOf", fn := fun _ => fun
  | [d] => { results := [.lit (.bool false)], args := [d] }
  | _ => none }
def FnExactShapeOfWrongFalsely : Prop := fnExactShapeOfRow.holds Try.pinned (OpenSpec.ofChange fnExactShapeOfWrong)

/-- 'laws.FnExactCombineShapes': WHATEVER THE INPUT: true; the input reads as it did. -/
def fnExactCombineShapesSpec : ChangeSpec := { name := "fnExactCombineShapes", fn := fun _ => fun
  | [d1, d2, d3] => { results := [.lit (.bool true)], args := [d1, d2, d3] }
  | _ => none }
def fnExactCombineShapesRow : OpenClaim := { program := "ytknkogghhanhaan", sum := "2551e52cf3801a27a31a0014a470fb9a8b389da0cfffc8fe2c4bfa6fc403a1c6", func := "loop.example/g00057/laws.FnExactCombineShapes", spec := "fnExactCombineShapes", unfollowed := true, recurses := true, apart := false }
def FnExactCombineShapesSaid : Prop := fnExactCombineShapesRow.holds Try.pinned (OpenSpec.ofChange fnExactCombineShapesSpec)

/-- ITS FALSE NEIGHBOUR: 'it returns false'. Refute it at one input. -/
def fnExactCombineShapesWrong : ChangeSpec := { name := "fnExactCombineShapes", fn := fun _ => fun
  | [d1, d2, d3] => { results := [.lit (.bool false)], args := [d1, d2, d3] }
  | _ => none }
def FnExactCombineShapesWrongFalsely : Prop := fnExactCombineShapesRow.holds Try.pinned (OpenSpec.ofChange fnExactCombineShapesWrong)

/-- 'laws.FnExactAreaOf': WHATEVER THE INPUT: true; the input reads as it did. -/
def fnExactAreaOfSpec : ChangeSpec := { name := "fnExactAreaOf", fn := fun _ => fun
  | [d] => { results := [.lit (.bool true)], args := [d] }
  | _ => none }
def fnExactAreaOfRow : OpenClaim := { program := "ytknkogghhanhaan", sum := "2551e52cf3801a27a31a0014a470fb9a8b389da0cfffc8fe2c4bfa6fc403a1c6", func := "loop.example/g00057/laws.FnExactAreaOf", spec := "fnExactAreaOf", apart := false }
def FnExactAreaOfSaid : Prop := fnExactAreaOfRow.holds Try.pinned (OpenSpec.ofChange fnExactAreaOfSpec)

/-- ITS FALSE NEIGHBOUR: 'it returns false'. Refute it at one input. -/
def fnExactAreaOfWrong : ChangeSpec := { name := "fnExactAreaOf", fn := fun _ => fun
  | [d] => { results := [.lit (.bool false)], args := [d] }
  | _ => none }
def FnExactAreaOfWrongFalsely : Prop := fnExactAreaOfRow.holds Try.pinned (OpenSpec.ofChange fnExactAreaOfWrong)

/-- 'laws.FnExactInShape': WHATEVER THE INPUT: true; the input reads as it did. -/
def fnExactInShapeSpec : ChangeSpec := { name := "fnExactInShape", fn := fun _ => fun
  | [d1, d2, d3] => { results := [.lit (.bool true)], args := [d1, d2, d3] }
  | _ => none }
def fnExactInShapeRow : OpenClaim := { program := "ytknkogghhanhaan", sum := "2551e52cf3801a27a31a0014a470fb9a8b389da0cfffc8fe2c4bfa6fc403a1c6", func := "loop.example/g00057/laws.FnExactInShape", spec := "fnExactInShape", apart := false }
def FnExactInShapeSaid : Prop := fnExactInShapeRow.holds Try.pinned (OpenSpec.ofChange fnExactInShapeSpec)

/-- ITS FALSE NEIGHBOUR: 'it returns false'. Refute it at one input. -/
def fnExactInShapeWrong : ChangeSpec := { name := "fnExactInShape", fn := fun _ => fun
  | [d1, d2, d3] => { results := [.lit (.bool false)], args := [d1, d2, d3] }
  | _ => none }
def FnExactInShapeWrongFalsely : Prop := fnExactInShapeRow.holds Try.pinned (OpenSpec.ofChange fnExactInShapeWrong)

/- THE SECOND FORM. 'bulk': how many values and letters a reading holds, each counted each time it is reached (what is shared counts as often as it is met; a slice's spare places count too). A statement '..UptoSaid' is the law's where the arguments, and the package variables that the reading takes, are together of bulk at most 1048576: NARROWER than '..Said'. Prove '..Said' where nothing that the law and all that it calls make is longer than what came in: it says more and counts as full. Else prove '..UptoSaid'. A law counts once. -/
mutual
def uptoBulk {H : Type} : DataW H → Nat
  | .lit (.string bytes) => bytes.length + 1
  | .lit _ => 1
  | .nil => 1
  | .ptr d => uptoBulk d + 1
  | .slice elems spare => uptoBulkAll elems + uptoBulkAll spare + 1
  | .agg parts => uptoBulkAll parts + 1
  | .iface _ d => uptoBulk d + 1
  | .map entries => uptoBulkEntries entries + 1
  | .held _ => 1
def uptoBulkAll {H : Type} : List (DataW H) → Nat
  | [] => 0
  | d :: r => uptoBulk d + uptoBulkAll r
def uptoBulkEntries {H : Type} : List (Lit × DataW H) → Nat
  | [] => 0
  | x :: r => uptoBulkEntry x + uptoBulkEntries r
def uptoBulkEntry {H : Type} : Lit × DataW H → Nat
  | (.string bytes, d) => bytes.length + uptoBulk d + 1
  | (_, d) => uptoBulk d + 1
 end
def uptoSmall : (H : Type) → List (DataW H) → Bool := fun _ ds => decide (uptoBulkAll ds ≤ 1048576)
def OpenSpec.upto (s : _root_.Go.ChangeSpec) : _root_.Go.OpenSpec := { _root_.Go.OpenSpec.ofChange s with cond := some uptoSmall }

/-- 'laws.FnExactBoxFault', WHERE WHAT IT READS IS OF BULK AT MOST 1048576: true; the input reads as it did. -/
def fnExactBoxFaultUptoRow : OpenClaim := { program := "ytknkogghhanhaan", sum := "2551e52cf3801a27a31a0014a470fb9a8b389da0cfffc8fe2c4bfa6fc403a1c6", func := "loop.example/g00057/laws.FnExactBoxFault", spec := "fnExactBoxFault", apart := false, narrowed := true }
def FnExactBoxFaultUptoSaid : Prop := fnExactBoxFaultUptoRow.holds Try.pinned (OpenSpec.upto fnExactBoxFaultSpec)

/-- 'laws.FnExactShapeFault', WHERE WHAT IT READS IS OF BULK AT MOST 1048576: true; the input reads as it did. -/
def fnExactShapeFaultUptoRow : OpenClaim := { program := "ytknkogghhanhaan", sum := "2551e52cf3801a27a31a0014a470fb9a8b389da0cfffc8fe2c4bfa6fc403a1c6", func := "loop.example/g00057/laws.FnExactShapeFault", spec := "fnExactShapeFault", apart := false, narrowed := true }
def FnExactShapeFaultUptoSaid : Prop := fnExactShapeFaultUptoRow.holds Try.pinned (OpenSpec.upto fnExactShapeFaultSpec)

/-- 'laws.FnExactShapeOf', WHERE WHAT IT READS IS OF BULK AT MOST 1048576: true; the input reads as it did. -/
def fnExactShapeOfUptoRow : OpenClaim := { program := "ytknkogghhanhaan", sum := "2551e52cf3801a27a31a0014a470fb9a8b389da0cfffc8fe2c4bfa6fc403a1c6", func := "loop.example/g00057/laws.FnExactShapeOf", spec := "fnExactShapeOf", unfollowed := true, recurses := true, apart := false, narrowed := true }
def FnExactShapeOfUptoSaid : Prop := fnExactShapeOfUptoRow.holds Try.pinned (OpenSpec.upto fnExactShapeOfSpec)

/-- 'laws.FnExactCombineShapes', WHERE WHAT IT READS IS OF BULK AT MOST 1048576: true; the input reads as it did. -/
def fnExactCombineShapesUptoRow : OpenClaim := { program := "ytknkogghhanhaan", sum := "2551e52cf3801a27a31a0014a470fb9a8b389da0cfffc8fe2c4bfa6fc403a1c6", func := "loop.example/g00057/laws.FnExactCombineShapes", spec := "fnExactCombineShapes", unfollowed := true, recurses := true, apart := false, narrowed := true }
def FnExactCombineShapesUptoSaid : Prop := fnExactCombineShapesUptoRow.holds Try.pinned (OpenSpec.upto fnExactCombineShapesSpec)

/-- 'laws.FnExactAreaOf', WHERE WHAT IT READS IS OF BULK AT MOST 1048576: true; the input reads as it did. -/
def fnExactAreaOfUptoRow : OpenClaim := { program := "ytknkogghhanhaan", sum := "2551e52cf3801a27a31a0014a470fb9a8b389da0cfffc8fe2c4bfa6fc403a1c6", func := "loop.example/g00057/laws.FnExactAreaOf", spec := "fnExactAreaOf", apart := false, narrowed := true }
def FnExactAreaOfUptoSaid : Prop := fnExactAreaOfUptoRow.holds Try.pinned (OpenSpec.upto fnExactAreaOfSpec)

/-- 'laws.FnExactInShape', WHERE WHAT IT READS IS OF BULK AT MOST 1048576: true; the input reads as it did. -/
def fnExactInShapeUptoRow : OpenClaim := { program := "ytknkogghhanhaan", sum := "2551e52cf3801a27a31a0014a470fb9a8b389da0cfffc8fe2c4bfa6fc403a1c6", func := "loop.example/g00057/laws.FnExactInShape", spec := "fnExactInShape", apart := false, narrowed := true }
def FnExactInShapeUptoSaid : Prop := fnExactInShapeUptoRow.holds Try.pinned (OpenSpec.upto fnExactInShapeSpec)

end Rows
end Go.Proofs.Ytknkogghhanhaan
