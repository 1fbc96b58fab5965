/-
  No cell of these rows narrows 'for every input' (looked for: loops, veiled, ifaces, maps, wideKeys, modest, calm, conditions, laid).
  DERIVED. THE GIVEN ROWS OF THIS SEAT. 6 by the template 'for every input the law returns true; each argument reads behind the call as it read before'; 0 by the template 'total and deterministic' (their statements: YtfjcebgknpccbaaTotals.lean).
  GIVEN WITH THE SEED: the statements are not yours to turn. If you find one false, say at which input.
  Laid BY PROGRAM, IN A SANDBOX (cutbox-rows.mjs): the forced cells as the released guide's own fill.sh prints them over the translation 2d98cda29e572396… (all of the seat's roots in one cut). By AI agents, Wed Nov 11 2026. No macro, syntax, notation, axiom, sorry.
-/
import Derived.Test.YtfjcebgknpccbaaChecked
import GoSem.Claim
import GoSem.ClaimJoined
import GoSem.ClaimMapViews
import Derived.JoinedTies
import Derived.KernelRfl
namespace Go.Proofs.Ytfjcebgknpccbaa
/- THE CELL 'sum', in the pinned program and in every row, IS THE sha256 OF THE DUMP (.gsa) THAT YtfjcebgknpccbaaProg.lean LOADS. Nothing in Lean hashes anything: it is a label: what it is worth is what the hold of that sum in a sandbox is worth. -/
noncomputable def Try.pinned : Pinned := { name := "ytfjcebgknpccbaa", sum := "2d98cda29e572396e7994ae80e75aea95c3993a1fe079c6c3a15c5198b875447", checked := Try.checked }
namespace Rows
def none {H : Type} : Left H := { results := [], args := [] }

/-- 'laws.FnExactLinesFault': WHATEVER THE INPUT: true; the input reads as it did. -/
def fnExactLinesFaultSpec : ChangeSpec := { name := "fnExactLinesFault", fn := fun _ => fun
  | [d1, d2] => { results := [.lit (.bool true)], args := [d1, d2] }
  | _ => none }
def fnExactLinesFaultRow : OpenClaim := { program := "ytfjcebgknpccbaa", sum := "2d98cda29e572396e7994ae80e75aea95c3993a1fe079c6c3a15c5198b875447", func := "loop.example/g00057/laws.FnExactLinesFault", spec := "fnExactLinesFault", apart := false }
def FnExactLinesFaultSaid : Prop := fnExactLinesFaultRow.holds Try.pinned (OpenSpec.ofChange fnExactLinesFaultSpec)

/-- ITS FALSE NEIGHBOUR: 'it returns false'. Refute it at one input. -/
def fnExactLinesFaultWrong : ChangeSpec := { name := "fnExactLinesFault", fn := fun _ => fun
  | [d1, d2] => { results := [.lit (.bool false)], args := [d1, d2] }
  | _ => none }
def FnExactLinesFaultWrongFalsely : Prop := fnExactLinesFaultRow.holds Try.pinned (OpenSpec.ofChange fnExactLinesFaultWrong)

/-- 'laws.FnExactKernelFault': WHATEVER THE INPUT: true; the input reads as it did. -/
def fnExactKernelFaultSpec : ChangeSpec := { name := "fnExactKernelFault", fn := fun _ => fun
  | [d] => { results := [.lit (.bool true)], args := [d] }
  | _ => none }
def fnExactKernelFaultRow : OpenClaim := { program := "ytfjcebgknpccbaa", sum := "2d98cda29e572396e7994ae80e75aea95c3993a1fe079c6c3a15c5198b875447", func := "loop.example/g00057/laws.FnExactKernelFault", spec := "fnExactKernelFault", apart := false }
def FnExactKernelFaultSaid : Prop := fnExactKernelFaultRow.holds Try.pinned (OpenSpec.ofChange fnExactKernelFaultSpec)

/-- ITS FALSE NEIGHBOUR: 'it returns false'. Refute it at one input. -/
def fnExactKernelFaultWrong : ChangeSpec := { name := "fnExactKernelFault", fn := fun _ => fun
  | [d] => { results := [.lit (.bool false)], args := [d] }
  | _ => none }
def FnExactKernelFaultWrongFalsely : Prop := fnExactKernelFaultRow.holds Try.pinned (OpenSpec.ofChange fnExactKernelFaultWrong)

/-- 'laws.FnExactIntensityOf': WHATEVER THE INPUT: true; the input reads as it did. -/
def fnExactIntensityOfSpec : ChangeSpec := { name := "fnExactIntensityOf", fn := fun _ => fun
  | [d1, d2, d3] => { results := [.lit (.bool true)], args := [d1, d2, d3] }
  | _ => none }
def fnExactIntensityOfRow : OpenClaim := { program := "ytfjcebgknpccbaa", sum := "2d98cda29e572396e7994ae80e75aea95c3993a1fe079c6c3a15c5198b875447", func := "loop.example/g00057/laws.FnExactIntensityOf", spec := "fnExactIntensityOf", apart := false }
def FnExactIntensityOfSaid : Prop := fnExactIntensityOfRow.holds Try.pinned (OpenSpec.ofChange fnExactIntensityOfSpec)

/-- ITS FALSE NEIGHBOUR: 'it returns false'. Refute it at one input. -/
def fnExactIntensityOfWrong : ChangeSpec := { name := "fnExactIntensityOf", fn := fun _ => fun
  | [d1, d2, d3] => { results := [.lit (.bool false)], args := [d1, d2, d3] }
  | _ => none }
def FnExactIntensityOfWrongFalsely : Prop := fnExactIntensityOfRow.holds Try.pinned (OpenSpec.ofChange fnExactIntensityOfWrong)

/-- 'laws.FnExactPrintOf': WHATEVER THE INPUT: true; the input reads as it did. -/
def fnExactPrintOfSpec : ChangeSpec := { name := "fnExactPrintOf", fn := fun _ => fun
  | [d1, d2, d3] => { results := [.lit (.bool true)], args := [d1, d2, d3] }
  | _ => none }
def fnExactPrintOfRow : OpenClaim := { program := "ytfjcebgknpccbaa", sum := "2d98cda29e572396e7994ae80e75aea95c3993a1fe079c6c3a15c5198b875447", func := "loop.example/g00057/laws.FnExactPrintOf", spec := "fnExactPrintOf", apart := false }
def FnExactPrintOfSaid : Prop := fnExactPrintOfRow.holds Try.pinned (OpenSpec.ofChange fnExactPrintOfSpec)

/-- ITS FALSE NEIGHBOUR: 'it returns false'. Refute it at one input. -/
def fnExactPrintOfWrong : ChangeSpec := { name := "fnExactPrintOf", fn := fun _ => fun
  | [d1, d2, d3] => { results := [.lit (.bool false)], args := [d1, d2, d3] }
  | _ => none }
def FnExactPrintOfWrongFalsely : Prop := fnExactPrintOfRow.holds Try.pinned (OpenSpec.ofChange fnExactPrintOfWrong)

/-- 'laws.FnExactPrintError': WHATEVER THE INPUT: true; the input reads as it did. -/
def fnExactPrintErrorSpec : ChangeSpec := { name := "fnExactPrintError", fn := fun _ => fun
  | [d1, d2, d3, d4] => { results := [.lit (.bool true)], args := [d1, d2, d3, d4] }
  | _ => none }
def fnExactPrintErrorRow : OpenClaim := { program := "ytfjcebgknpccbaa", sum := "2d98cda29e572396e7994ae80e75aea95c3993a1fe079c6c3a15c5198b875447", func := "loop.example/g00057/laws.FnExactPrintError", spec := "fnExactPrintError", apart := false }
def FnExactPrintErrorSaid : Prop := fnExactPrintErrorRow.holds Try.pinned (OpenSpec.ofChange fnExactPrintErrorSpec)

/-- ITS FALSE NEIGHBOUR: 'it returns false'. Refute it at one input. -/
def fnExactPrintErrorWrong : ChangeSpec := { name := "fnExactPrintError", fn := fun _ => fun
  | [d1, d2, d3, d4] => { results := [.lit (.bool false)], args := [d1, d2, d3, d4] }
  | _ => none }
def FnExactPrintErrorWrongFalsely : Prop := fnExactPrintErrorRow.holds Try.pinned (OpenSpec.ofChange fnExactPrintErrorWrong)

/-- 'laws.FnExactAssistOf': WHATEVER THE INPUT: true; the input reads as it did. -/
def fnExactAssistOfSpec : ChangeSpec := { name := "fnExactAssistOf", fn := fun _ => fun
  | [d1, d2, d3, d4] => { results := [.lit (.bool true)], args := [d1, d2, d3, d4] }
  | _ => none }
def fnExactAssistOfRow : OpenClaim := { program := "ytfjcebgknpccbaa", sum := "2d98cda29e572396e7994ae80e75aea95c3993a1fe079c6c3a15c5198b875447", func := "loop.example/g00057/laws.FnExactAssistOf", spec := "fnExactAssistOf", recurses := true, apart := false }
def FnExactAssistOfSaid : Prop := fnExactAssistOfRow.holds Try.pinned (OpenSpec.ofChange fnExactAssistOfSpec)

/-- ITS FALSE NEIGHBOUR: 'it returns false'. Refute it at one input. -/
def fnExactAssistOfWrong : ChangeSpec := { name := "fnExactAssistOf", fn := fun _ => fun
  | [d1, d2, d3, d4] => { results := [.lit (.bool false)], args := [d1, d2, d3, d4] }
  | _ => none }
def FnExactAssistOfWrongFalsely : Prop := fnExactAssistOfRow.holds Try.pinned (OpenSpec.ofChange fnExactAssistOfWrong)

/- THE SECOND FORM. 'bulk': how many values and letters a reading holds, each counted each time it is reached (what is shared counts as often as it is met; a slice's spare places count too). A statement '..UptoSaid' is the law's where the arguments, and the package variables that the reading takes, are together of bulk at most 1048576: NARROWER than '..Said'. Prove '..Said' where nothing that the law and all that it calls make is longer than what came in: it says more and counts as full. Else prove '..UptoSaid'. A law counts once. -/
mutual
def uptoBulk {H : Type} : DataW H → Nat
  | .lit (.string bytes) => bytes.length + 1
  | .lit _ => 1
  | .nil => 1
  | .ptr d => uptoBulk d + 1
  | .slice elems spare => uptoBulkAll elems + uptoBulkAll spare + 1
  | .agg parts => uptoBulkAll parts + 1
  | .iface _ d => uptoBulk d + 1
  | .map entries => uptoBulkEntries entries + 1
  | .held _ => 1
def uptoBulkAll {H : Type} : List (DataW H) → Nat
  | [] => 0
  | d :: r => uptoBulk d + uptoBulkAll r
def uptoBulkEntries {H : Type} : List (Lit × DataW H) → Nat
  | [] => 0
  | x :: r => uptoBulkEntry x + uptoBulkEntries r
def uptoBulkEntry {H : Type} : Lit × DataW H → Nat
  | (.string bytes, d) => bytes.length + uptoBulk d + 1
  | (_, d) => uptoBulk d + 1
 end
def uptoSmall : (H : Type) → List (DataW H) → Bool := fun _ ds => decide (uptoBulkAll ds ≤ 1048576)
def OpenSpec.upto (s : _root_.Go.ChangeSpec) : _root_.Go.OpenSpec := { _root_.Go.OpenSpec.ofChange s with cond := some uptoSmall }

/-- 'laws.FnExactLinesFault', WHERE WHAT IT READS IS OF BULK AT MOST 1048576: true; the input reads as it did. -/
def fnExactLinesFaultUptoRow : OpenClaim := { program := "ytfjcebgknpccbaa", sum := "2d98cda29e572396e7994ae80e75aea95c3993a1fe079c6c3a15c5198b875447", func := "loop.example/g00057/laws.FnExactLinesFault", spec := "fnExactLinesFault", apart := false, narrowed := true }
def FnExactLinesFaultUptoSaid : Prop := fnExactLinesFaultUptoRow.holds Try.pinned (OpenSpec.upto fnExactLinesFaultSpec)

/-- 'laws.FnExactKernelFault', WHERE WHAT IT READS IS OF BULK AT MOST 1048576: true; the input reads as it did. -/
def fnExactKernelFaultUptoRow : OpenClaim := { program := "ytfjcebgknpccbaa", sum := "2d98cda29e572396e7994ae80e75aea95c3993a1fe079c6c3a15c5198b875447", func := "loop.example/g00057/laws.FnExactKernelFault", spec := "fnExactKernelFault", apart := false, narrowed := true }
def FnExactKernelFaultUptoSaid : Prop := fnExactKernelFaultUptoRow.holds Try.pinned (OpenSpec.upto fnExactKernelFaultSpec)

/-- 'laws.FnExactIntensityOf', WHERE WHAT IT READS IS OF BULK AT MOST 1048576: true; the input reads as it did. -/
def fnExactIntensityOfUptoRow : OpenClaim := { program := "ytfjcebgknpccbaa", sum := "2d98cda29e572396e7994ae80e75aea95c3993a1fe079c6c3a15c5198b875447", func := "loop.example/g00057/laws.FnExactIntensityOf", spec := "fnExactIntensityOf", apart := false, narrowed := true }
def FnExactIntensityOfUptoSaid : Prop := fnExactIntensityOfUptoRow.holds Try.pinned (OpenSpec.upto fnExactIntensityOfSpec)

/-- 'laws.FnExactPrintOf', WHERE WHAT IT READS IS OF BULK AT MOST 1048576: true; the input reads as it did. -/
def fnExactPrintOfUptoRow : OpenClaim := { program := "ytfjcebgknpccbaa", sum := "2d98cda29e572396e7994ae80e75aea95c3993a1fe079c6c3a15c5198b875447", func := "loop.example/g00057/laws.FnExactPrintOf", spec := "fnExactPrintOf", apart := false, narrowed := true }
def FnExactPrintOfUptoSaid : Prop := fnExactPrintOfUptoRow.holds Try.pinned (OpenSpec.upto fnExactPrintOfSpec)

/-- 'laws.FnExactPrintError', WHERE WHAT IT READS IS OF BULK AT MOST 1048576: true; the input reads as it did. -/
def fnExactPrintErrorUptoRow : OpenClaim := { program := "ytfjcebgknpccbaa", sum := "2d98cda29e572396e7994ae80e75aea95c3993a1fe079c6c3a15c5198b875447", func := "loop.example/g00057/laws.FnExactPrintError", spec := "fnExactPrintError", apart := false, narrowed := true }
def FnExactPrintErrorUptoSaid : Prop := fnExactPrintErrorUptoRow.holds Try.pinned (OpenSpec.upto fnExactPrintErrorSpec)

/-- 'laws.FnExactAssistOf', WHERE WHAT IT READS IS OF BULK AT MOST 1048576: true; the input reads as it did. -/
def fnExactAssistOfUptoRow : OpenClaim := { program := "ytfjcebgknpccbaa", sum := "2d98cda29e572396e7994ae80e75aea95c3993a1fe079c6c3a15c5198b875447", func := "loop.example/g00057/laws.FnExactAssistOf", spec := "fnExactAssistOf", recurses := true, apart := false, narrowed := true }
def FnExactAssistOfUptoSaid : Prop := fnExactAssistOfUptoRow.holds Try.pinned (OpenSpec.upto fnExactAssistOfSpec)

end Rows
end Go.Proofs.Ytfjcebgknpccbaa
