/-
  No cell of these rows narrows 'for every input' (looked for: loops, veiled, ifaces, maps, wideKeys, modest, calm, conditions, laid).
  DERIVED. THE GIVEN ROWS OF THIS SEAT. 6 by the template 'for every input the law returns true; each argument reads behind the call as it read before'; 0 by the template 'total and deterministic' (their statements: YtiipepddlbgodaaTotals.lean).
  GIVEN WITH THE SEED: the statements are not yours to turn. If you find one false, say at which input.
  Laid BY PROGRAM, IN A SANDBOX (cutbox-rows.mjs): the forced cells as the released guide's own fill.sh prints them over the translation 72643fb72d96c0c7… (all of the seat's roots in one cut). By AI agents, Wed Nov 11 2026. No macro, syntax, notation, axiom, sorry.
-/
import Derived.Test.YtiipepddlbgodaaChecked
import GoSem.Claim
import GoSem.ClaimJoined
import GoSem.ClaimMapViews
import Derived.JoinedTies
import Derived.KernelRfl
namespace Go.Proofs.Ytiipepddlbgodaa
/- THE CELL 'sum', in the pinned program and in every row, IS THE sha256 OF THE DUMP (.gsa) THAT YtiipepddlbgodaaProg.lean LOADS. Nothing in Lean hashes anything: it is a label: what it is worth is what the hold of that sum in a sandbox is worth. -/
noncomputable def Try.pinned : Pinned := { name := "ytiipepddlbgodaa", sum := "72643fb72d96c0c76cd04831e37b47a4c81473376e4bb3901d854b248d3a30a8", checked := Try.checked }
namespace Rows
def none {H : Type} : Left H := { results := [], args := [] }

/-- 'laws.FnExactChartFault': WHATEVER THE INPUT: true; the input reads as it did. -/
def fnExactChartFaultSpec : ChangeSpec := { name := "fnExactChartFault", fn := fun _ => fun
  | [d] => { results := [.lit (.bool true)], args := [d] }
  | _ => none }
def fnExactChartFaultRow : OpenClaim := { program := "ytiipepddlbgodaa", sum := "72643fb72d96c0c76cd04831e37b47a4c81473376e4bb3901d854b248d3a30a8", func := "loop.example/g00057/laws.FnExactChartFault", spec := "fnExactChartFault", apart := false }
def FnExactChartFaultSaid : Prop := fnExactChartFaultRow.holds Try.pinned (OpenSpec.ofChange fnExactChartFaultSpec)

/-- ITS FALSE NEIGHBOUR: 'it returns false'. Refute it at one input. -/
def fnExactChartFaultWrong : ChangeSpec := { name := "fnExactChartFault", fn := fun _ => fun
  | [d] => { results := [.lit (.bool false)], args := [d] }
  | _ => none }
def FnExactChartFaultWrongFalsely : Prop := fnExactChartFaultRow.holds Try.pinned (OpenSpec.ofChange fnExactChartFaultWrong)

/-- 'laws.FnExactCusumOf': WHATEVER THE INPUT: true; the input reads as it did. -/
def fnExactCusumOfSpec : ChangeSpec := { name := "fnExactCusumOf", fn := fun _ => fun
  | [d1, d2, d3, d4] => { results := [.lit (.bool true)], args := [d1, d2, d3, d4] }
  | _ => none }
def fnExactCusumOfRow : OpenClaim := { program := "ytiipepddlbgodaa", sum := "72643fb72d96c0c76cd04831e37b47a4c81473376e4bb3901d854b248d3a30a8", func := "loop.example/g00057/laws.FnExactCusumOf", spec := "fnExactCusumOf", apart := false }
def FnExactCusumOfSaid : Prop := fnExactCusumOfRow.holds Try.pinned (OpenSpec.ofChange fnExactCusumOfSpec)

/-- ITS FALSE NEIGHBOUR: 'it returns false'. Refute it at one input. -/
def fnExactCusumOfWrong : ChangeSpec := { name := "fnExactCusumOf", fn := fun _ => fun
  | [d1, d2, d3, d4] => { results := [.lit (.bool false)], args := [d1, d2, d3, d4] }
  | _ => none }
def FnExactCusumOfWrongFalsely : Prop := fnExactCusumOfRow.holds Try.pinned (OpenSpec.ofChange fnExactCusumOfWrong)

/-- 'laws.FnExactEwmaOf': WHATEVER THE INPUT: true; the input reads as it did. -/
def fnExactEwmaOfSpec : ChangeSpec := { name := "fnExactEwmaOf", fn := fun _ => fun
  | [d1, d2, d3] => { results := [.lit (.bool true)], args := [d1, d2, d3] }
  | _ => none }
def fnExactEwmaOfRow : OpenClaim := { program := "ytiipepddlbgodaa", sum := "72643fb72d96c0c76cd04831e37b47a4c81473376e4bb3901d854b248d3a30a8", func := "loop.example/g00057/laws.FnExactEwmaOf", spec := "fnExactEwmaOf", apart := false }
def FnExactEwmaOfSaid : Prop := fnExactEwmaOfRow.holds Try.pinned (OpenSpec.ofChange fnExactEwmaOfSpec)

/-- ITS FALSE NEIGHBOUR: 'it returns false'. Refute it at one input. -/
def fnExactEwmaOfWrong : ChangeSpec := { name := "fnExactEwmaOf", fn := fun _ => fun
  | [d1, d2, d3] => { results := [.lit (.bool false)], args := [d1, d2, d3] }
  | _ => none }
def FnExactEwmaOfWrongFalsely : Prop := fnExactEwmaOfRow.holds Try.pinned (OpenSpec.ofChange fnExactEwmaOfWrong)

/-- 'laws.FnExactLoopFault': WHATEVER THE INPUT: true; the input reads as it did. -/
def fnExactLoopFaultSpec : ChangeSpec := { name := "fnExactLoopFault", fn := fun _ => fun
  | [d] => { results := [.lit (.bool true)], args := [d] }
  | _ => none }
def fnExactLoopFaultRow : OpenClaim := { program := "ytiipepddlbgodaa", sum := "72643fb72d96c0c76cd04831e37b47a4c81473376e4bb3901d854b248d3a30a8", func := "loop.example/g00057/laws.FnExactLoopFault", spec := "fnExactLoopFault", apart := false }
def FnExactLoopFaultSaid : Prop := fnExactLoopFaultRow.holds Try.pinned (OpenSpec.ofChange fnExactLoopFaultSpec)

/-- ITS FALSE NEIGHBOUR: 'it returns false'. Refute it at one input. -/
def fnExactLoopFaultWrong : ChangeSpec := { name := "fnExactLoopFault", fn := fun _ => fun
  | [d] => { results := [.lit (.bool false)], args := [d] }
  | _ => none }
def FnExactLoopFaultWrongFalsely : Prop := fnExactLoopFaultRow.holds Try.pinned (OpenSpec.ofChange fnExactLoopFaultWrong)

/-- 'laws.FnExactRunLoop': WHATEVER THE INPUT: true; the input reads as it did. -/
def fnExactRunLoopSpec : ChangeSpec := { name := "fnExactRunLoop", fn := fun _ => fun
  | [d1, d2] => { results := [.lit (.bool true)], args := [d1, d2] }
  | _ => none }
def fnExactRunLoopRow : OpenClaim := { program := "ytiipepddlbgodaa", sum := "72643fb72d96c0c76cd04831e37b47a4c81473376e4bb3901d854b248d3a30a8", func := "loop.example/g00057/laws.FnExactRunLoop", spec := "fnExactRunLoop", recurses := true, apart := false }
def FnExactRunLoopSaid : Prop := fnExactRunLoopRow.holds Try.pinned (OpenSpec.ofChange fnExactRunLoopSpec)

/-- ITS FALSE NEIGHBOUR: 'it returns false'. Refute it at one input. -/
def fnExactRunLoopWrong : ChangeSpec := { name := "fnExactRunLoop", fn := fun _ => fun
  | [d1, d2] => { results := [.lit (.bool false)], args := [d1, d2] }
  | _ => none }
def FnExactRunLoopWrongFalsely : Prop := fnExactRunLoopRow.holds Try.pinned (OpenSpec.ofChange fnExactRunLoopWrong)

/-- 'laws.FnExactWearOf': WHATEVER THE INPUT: true; the input reads as it did. -/
def fnExactWearOfSpec : ChangeSpec := { name := "fnExactWearOf", fn := fun _ => fun
  | [d1, d2] => { results := [.lit (.bool true)], args := [d1, d2] }
  | _ => none }
def fnExactWearOfRow : OpenClaim := { program := "ytiipepddlbgodaa", sum := "72643fb72d96c0c76cd04831e37b47a4c81473376e4bb3901d854b248d3a30a8", func := "loop.example/g00057/laws.FnExactWearOf", spec := "fnExactWearOf", apart := false }
def FnExactWearOfSaid : Prop := fnExactWearOfRow.holds Try.pinned (OpenSpec.ofChange fnExactWearOfSpec)

/-- ITS FALSE NEIGHBOUR: 'it returns false'. Refute it at one input. -/
def fnExactWearOfWrong : ChangeSpec := { name := "fnExactWearOf", fn := fun _ => fun
  | [d1, d2] => { results := [.lit (.bool false)], args := [d1, d2] }
  | _ => none }
def FnExactWearOfWrongFalsely : Prop := fnExactWearOfRow.holds Try.pinned (OpenSpec.ofChange fnExactWearOfWrong)

/- THE SECOND FORM. 'bulk': how many values and letters a reading holds, each counted each time it is reached (what is shared counts as often as it is met; a slice's spare places count too). A statement '..UptoSaid' is the law's where the arguments, and the package variables that the reading takes, are together of bulk at most 1048576: NARROWER than '..Said'. Prove '..Said' where nothing that the law and all that it calls make is longer than what came in: it says more and counts as full. Else prove '..UptoSaid'. A law counts once. -/
mutual
def uptoBulk {H : Type} : DataW H → Nat
  | .lit (.string bytes) => bytes.length + 1
  | .lit _ => 1
  | .nil => 1
  | .ptr d => uptoBulk d + 1
  | .slice elems spare => uptoBulkAll elems + uptoBulkAll spare + 1
  | .agg parts => uptoBulkAll parts + 1
  | .iface _ d => uptoBulk d + 1
  | .map entries => uptoBulkEntries entries + 1
  | .held _ => 1
def uptoBulkAll {H : Type} : List (DataW H) → Nat
  | [] => 0
  | d :: r => uptoBulk d + uptoBulkAll r
def uptoBulkEntries {H : Type} : List (Lit × DataW H) → Nat
  | [] => 0
  | x :: r => uptoBulkEntry x + uptoBulkEntries r
def uptoBulkEntry {H : Type} : Lit × DataW H → Nat
  | (.string bytes, d) => bytes.length + uptoBulk d + 1
  | (_, d) => uptoBulk d + 1
 end
def uptoSmall : (H : Type) → List (DataW H) → Bool := fun _ ds => decide (uptoBulkAll ds ≤ 1048576)
def OpenSpec.upto (s : _root_.Go.ChangeSpec) : _root_.Go.OpenSpec := { _root_.Go.OpenSpec.ofChange s with cond := some uptoSmall }

/-- 'laws.FnExactChartFault', WHERE WHAT IT READS IS OF BULK AT MOST 1048576: true; the input reads as it did. -/
def fnExactChartFaultUptoRow : OpenClaim := { program := "ytiipepddlbgodaa", sum := "72643fb72d96c0c76cd04831e37b47a4c81473376e4bb3901d854b248d3a30a8", func := "loop.example/g00057/laws.FnExactChartFault", spec := "fnExactChartFault", apart := false, narrowed := true }
def FnExactChartFaultUptoSaid : Prop := fnExactChartFaultUptoRow.holds Try.pinned (OpenSpec.upto fnExactChartFaultSpec)

/-- 'laws.FnExactCusumOf', WHERE WHAT IT READS IS OF BULK AT MOST 1048576: true; the input reads as it did. -/
def fnExactCusumOfUptoRow : OpenClaim := { program := "ytiipepddlbgodaa", sum := "72643fb72d96c0c76cd04831e37b47a4c81473376e4bb3901d854b248d3a30a8", func := "loop.example/g00057/laws.FnExactCusumOf", spec := "fnExactCusumOf", apart := false, narrowed := true }
def FnExactCusumOfUptoSaid : Prop := fnExactCusumOfUptoRow.holds Try.pinned (OpenSpec.upto fnExactCusumOfSpec)

/-- 'laws.FnExactEwmaOf', WHERE WHAT IT READS IS OF BULK AT MOST 1048576: true; the input reads as it did. -/
def fnExactEwmaOfUptoRow : OpenClaim := { program := "ytiipepddlbgodaa", sum := "72643fb72d96c0c76cd04831e37b47a4c81473376e4bb3901d854b248d3a30a8", func := "loop.example/g00057/laws.FnExactEwmaOf", spec := "fnExactEwmaOf", apart := false, narrowed := true }
def FnExactEwmaOfUptoSaid : Prop := fnExactEwmaOfUptoRow.holds Try.pinned (OpenSpec.upto fnExactEwmaOfSpec)

/-- 'laws.FnExactLoopFault', WHERE WHAT IT READS IS OF BULK AT MOST 1048576: true; the input reads as it did. -/
def fnExactLoopFaultUptoRow : OpenClaim := { program := "ytiipepddlbgodaa", sum := "72643fb72d96c0c76cd04831e37b47a4c81473376e4bb3901d854b248d3a30a8", func := "loop.example/g00057/laws.FnExactLoopFault", spec := "fnExactLoopFault", apart := false, narrowed := true }
def FnExactLoopFaultUptoSaid : Prop := fnExactLoopFaultUptoRow.holds Try.pinned (OpenSpec.upto fnExactLoopFaultSpec)

/-- 'laws.FnExactRunLoop', WHERE WHAT IT READS IS OF BULK AT MOST 1048576: true; the input reads as it did. -/
def fnExactRunLoopUptoRow : OpenClaim := { program := "ytiipepddlbgodaa", sum := "72643fb72d96c0c76cd04831e37b47a4c81473376e4bb3901d854b248d3a30a8", func := "loop.example/g00057/laws.FnExactRunLoop", spec := "fnExactRunLoop", recurses := true, apart := false, narrowed := true }
def FnExactRunLoopUptoSaid : Prop := fnExactRunLoopUptoRow.holds Try.pinned (OpenSpec.upto fnExactRunLoopSpec)

/-- 'laws.FnExactWearOf', WHERE WHAT IT READS IS OF BULK AT MOST 1048576: true; the input reads as it did. -/
def fnExactWearOfUptoRow : OpenClaim := { program := "ytiipepddlbgodaa", sum := "72643fb72d96c0c76cd04831e37b47a4c81473376e4bb3901d854b248d3a30a8", func := "loop.example/g00057/laws.FnExactWearOf", spec := "fnExactWearOf", apart := false, narrowed := true }
def FnExactWearOfUptoSaid : Prop := fnExactWearOfUptoRow.holds Try.pinned (OpenSpec.upto fnExactWearOfSpec)

end Rows
end Go.Proofs.Ytiipepddlbgodaa
