/-
  No cell of these rows narrows 'for every input' (looked for: loops, veiled, ifaces, maps, wideKeys, modest, calm, conditions, laid).
  DERIVED. THE GIVEN ROWS OF THIS SEAT. 5 by the template 'for every input the law returns true; each argument reads behind the call as it read before'; 0 by the template 'total and deterministic' (their statements: YtbfieehlekgjeaaTotals.lean).
  GIVEN WITH THE SEED: the statements are not yours to turn. If you find one false, say at which input.
  Laid BY PROGRAM, IN A SANDBOX (cutbox-rows.mjs): the forced cells as the released guide's own fill.sh prints them over the translation f8f3e45584369748… (all of the seat's roots in one cut). By AI agents, Wed Nov 11 2026. No macro, syntax, notation, axiom, sorry.
-/
import Derived.Test.YtbfieehlekgjeaaChecked
import GoSem.Claim
import GoSem.ClaimJoined
import GoSem.ClaimMapViews
import Derived.JoinedTies
import Derived.KernelRfl
namespace Go.Proofs.Ytbfieehlekgjeaa
/- THE CELL 'sum', in the pinned program and in every row, IS THE sha256 OF THE DUMP (.gsa) THAT YtbfieehlekgjeaaProg.lean LOADS. Nothing in Lean hashes anything: it is a label: what it is worth is what the hold of that sum in a sandbox is worth. -/
noncomputable def Try.pinned : Pinned := { name := "ytbfieehlekgjeaa", sum := "f8f3e45584369748940319274d253ed7bafc782c900a6f9237210fb9f03411c0", checked := Try.checked }
namespace Rows
def none {H : Type} : Left H := { results := [], args := [] }

/-- 'laws.FnExactWiringFault': WHATEVER THE INPUT: true; the input reads as it did. -/
def fnExactWiringFaultSpec : ChangeSpec := { name := "fnExactWiringFault", fn := fun _ => fun
  | [d] => { results := [.lit (.bool true)], args := [d] }
  | _ => none }
def fnExactWiringFaultRow : OpenClaim := { program := "ytbfieehlekgjeaa", sum := "f8f3e45584369748940319274d253ed7bafc782c900a6f9237210fb9f03411c0", func := "loop.example/g00057/laws.FnExactWiringFault", spec := "fnExactWiringFault", apart := false }
def FnExactWiringFaultSaid : Prop := fnExactWiringFaultRow.holds Try.pinned (OpenSpec.ofChange fnExactWiringFaultSpec)

/-- ITS FALSE NEIGHBOUR: 'it returns false'. Refute it at one input. -/
def fnExactWiringFaultWrong : ChangeSpec := { name := "fnExactWiringFault", fn := fun _ => fun
  | [d] => { results := [.lit (.bool false)], args := [d] }
  | _ => none }
def FnExactWiringFaultWrongFalsely : Prop := fnExactWiringFaultRow.holds Try.pinned (OpenSpec.ofChange fnExactWiringFaultWrong)

/-- 'laws.FnExactNetlistFault': WHATEVER THE INPUT: true; the input reads as it did. -/
def fnExactNetlistFaultSpec : ChangeSpec := { name := "fnExactNetlistFault", fn := fun _ => fun
  | [d] => { results := [.lit (.bool true)], args := [d] }
  | _ => none }
def fnExactNetlistFaultRow : OpenClaim := { program := "ytbfieehlekgjeaa", sum := "f8f3e45584369748940319274d253ed7bafc782c900a6f9237210fb9f03411c0", func := "loop.example/g00057/laws.FnExactNetlistFault", spec := "fnExactNetlistFault", apart := false }
def FnExactNetlistFaultSaid : Prop := fnExactNetlistFaultRow.holds Try.pinned (OpenSpec.ofChange fnExactNetlistFaultSpec)

/-- ITS FALSE NEIGHBOUR: 'it returns false'. Refute it at one input. -/
def fnExactNetlistFaultWrong : ChangeSpec := { name := "fnExactNetlistFault", fn := fun _ => fun
  | [d] => { results := [.lit (.bool false)], args := [d] }
  | _ => none }
def FnExactNetlistFaultWrongFalsely : Prop := fnExactNetlistFaultRow.holds Try.pinned (OpenSpec.ofChange fnExactNetlistFaultWrong)

/-- 'laws.FnExactRenameNets': WHATEVER THE INPUT: true; the input reads as it did. -/
def fnExactRenameNetsSpec : ChangeSpec := { name := "fnExactRenameNets", fn := fun _ => fun
  | [d1, d2] => { results := [.lit (.bool true)], args := [d1, d2] }
  | _ => none }
def fnExactRenameNetsRow : OpenClaim := { program := "ytbfieehlekgjeaa", sum := "f8f3e45584369748940319274d253ed7bafc782c900a6f9237210fb9f03411c0", func := "loop.example/g00057/laws.FnExactRenameNets", spec := "fnExactRenameNets", apart := false }
def FnExactRenameNetsSaid : Prop := fnExactRenameNetsRow.holds Try.pinned (OpenSpec.ofChange fnExactRenameNetsSpec)

/-- ITS FALSE NEIGHBOUR: 'it returns false'. Refute it at one input. -/
def fnExactRenameNetsWrong : ChangeSpec := { name := "fnExactRenameNets", fn := fun _ => fun
  | [d1, d2] => { results := [.lit (.bool false)], args := [d1, d2] }
  | _ => none }
def FnExactRenameNetsWrongFalsely : Prop := fnExactRenameNetsRow.holds Try.pinned (OpenSpec.ofChange fnExactRenameNetsWrong)

/-- 'laws.FnExactCheckMatch': WHATEVER THE INPUT: true; the input reads as it did. -/
def fnExactCheckMatchSpec : ChangeSpec := { name := "fnExactCheckMatch", fn := fun _ => fun
  | [d1, d2, d3] => { results := [.lit (.bool true)], args := [d1, d2, d3] }
  | _ => none }
def fnExactCheckMatchRow : OpenClaim := { program := "ytbfieehlekgjeaa", sum := "f8f3e45584369748940319274d253ed7bafc782c900a6f9237210fb9f03411c0", func := "loop.example/g00057/laws.FnExactCheckMatch", spec := "fnExactCheckMatch", apart := false }
def FnExactCheckMatchSaid : Prop := fnExactCheckMatchRow.holds Try.pinned (OpenSpec.ofChange fnExactCheckMatchSpec)

/-- ITS FALSE NEIGHBOUR: 'it returns false'. Refute it at one input. -/
def fnExactCheckMatchWrong : ChangeSpec := { name := "fnExactCheckMatch", fn := fun _ => fun
  | [d1, d2, d3] => { results := [.lit (.bool false)], args := [d1, d2, d3] }
  | _ => none }
def FnExactCheckMatchWrongFalsely : Prop := fnExactCheckMatchRow.holds Try.pinned (OpenSpec.ofChange fnExactCheckMatchWrong)

/-- 'laws.FnExactMatchNets': WHATEVER THE INPUT: true; the input reads as it did. -/
def fnExactMatchNetsSpec : ChangeSpec := { name := "fnExactMatchNets", fn := fun _ => fun
  | [d1, d2] => { results := [.lit (.bool true)], args := [d1, d2] }
  | _ => none }
def fnExactMatchNetsRow : OpenClaim := { program := "ytbfieehlekgjeaa", sum := "f8f3e45584369748940319274d253ed7bafc782c900a6f9237210fb9f03411c0", func := "loop.example/g00057/laws.FnExactMatchNets", spec := "fnExactMatchNets", recurses := true, apart := false }
def FnExactMatchNetsSaid : Prop := fnExactMatchNetsRow.holds Try.pinned (OpenSpec.ofChange fnExactMatchNetsSpec)

/-- ITS FALSE NEIGHBOUR: 'it returns false'. Refute it at one input. -/
def fnExactMatchNetsWrong : ChangeSpec := { name := "fnExactMatchNets", fn := fun _ => fun
  | [d1, d2] => { results := [.lit (.bool false)], args := [d1, d2] }
  | _ => none }
def FnExactMatchNetsWrongFalsely : Prop := fnExactMatchNetsRow.holds Try.pinned (OpenSpec.ofChange fnExactMatchNetsWrong)

/- THE SECOND FORM. 'bulk': how many values and letters a reading holds, each counted each time it is reached (what is shared counts as often as it is met; a slice's spare places count too). A statement '..UptoSaid' is the law's where the arguments, and the package variables that the reading takes, are together of bulk at most 1048576: NARROWER than '..Said'. Prove '..Said' where nothing that the law and all that it calls make is longer than what came in: it says more and counts as full. Else prove '..UptoSaid'. A law counts once. -/
mutual
def uptoBulk {H : Type} : DataW H → Nat
  | .lit (.string bytes) => bytes.length + 1
  | .lit _ => 1
  | .nil => 1
  | .ptr d => uptoBulk d + 1
  | .slice elems spare => uptoBulkAll elems + uptoBulkAll spare + 1
  | .agg parts => uptoBulkAll parts + 1
  | .iface _ d => uptoBulk d + 1
  | .map entries => uptoBulkEntries entries + 1
  | .held _ => 1
def uptoBulkAll {H : Type} : List (DataW H) → Nat
  | [] => 0
  | d :: r => uptoBulk d + uptoBulkAll r
def uptoBulkEntries {H : Type} : List (Lit × DataW H) → Nat
  | [] => 0
  | x :: r => uptoBulkEntry x + uptoBulkEntries r
def uptoBulkEntry {H : Type} : Lit × DataW H → Nat
  | (.string bytes, d) => bytes.length + uptoBulk d + 1
  | (_, d) => uptoBulk d + 1
 end
def uptoSmall : (H : Type) → List (DataW H) → Bool := fun _ ds => decide (uptoBulkAll ds ≤ 1048576)
def OpenSpec.upto (s : _root_.Go.ChangeSpec) : _root_.Go.OpenSpec := { _root_.Go.OpenSpec.ofChange s with cond := some uptoSmall }

/-- 'laws.FnExactWiringFault', WHERE WHAT IT READS IS OF BULK AT MOST 1048576: true; the input reads as it did. -/
def fnExactWiringFaultUptoRow : OpenClaim := { program := "ytbfieehlekgjeaa", sum := "f8f3e45584369748940319274d253ed7bafc782c900a6f9237210fb9f03411c0", func := "loop.example/g00057/laws.FnExactWiringFault", spec := "fnExactWiringFault", apart := false, narrowed := true }
def FnExactWiringFaultUptoSaid : Prop := fnExactWiringFaultUptoRow.holds Try.pinned (OpenSpec.upto fnExactWiringFaultSpec)

/-- 'laws.FnExactNetlistFault', WHERE WHAT IT READS IS OF BULK AT MOST 1048576: true; the input reads as it did. -/
def fnExactNetlistFaultUptoRow : OpenClaim := { program := "ytbfieehlekgjeaa", sum := "f8f3e45584369748940319274d253ed7bafc782c900a6f9237210fb9f03411c0", func := "loop.example/g00057/laws.FnExactNetlistFault", spec := "fnExactNetlistFault", apart := false, narrowed := true }
def FnExactNetlistFaultUptoSaid : Prop := fnExactNetlistFaultUptoRow.holds Try.pinned (OpenSpec.upto fnExactNetlistFaultSpec)

/-- 'laws.FnExactRenameNets', WHERE WHAT IT READS IS OF BULK AT MOST 1048576: true; the input reads as it did. -/
def fnExactRenameNetsUptoRow : OpenClaim := { program := "ytbfieehlekgjeaa", sum := "f8f3e45584369748940319274d253ed7bafc782c900a6f9237210fb9f03411c0", func := "loop.example/g00057/laws.FnExactRenameNets", spec := "fnExactRenameNets", apart := false, narrowed := true }
def FnExactRenameNetsUptoSaid : Prop := fnExactRenameNetsUptoRow.holds Try.pinned (OpenSpec.upto fnExactRenameNetsSpec)

/-- 'laws.FnExactCheckMatch', WHERE WHAT IT READS IS OF BULK AT MOST 1048576: true; the input reads as it did. -/
def fnExactCheckMatchUptoRow : OpenClaim := { program := "ytbfieehlekgjeaa", sum := "f8f3e45584369748940319274d253ed7bafc782c900a6f9237210fb9f03411c0", func := "loop.example/g00057/laws.FnExactCheckMatch", spec := "fnExactCheckMatch", apart := false, narrowed := true }
def FnExactCheckMatchUptoSaid : Prop := fnExactCheckMatchUptoRow.holds Try.pinned (OpenSpec.upto fnExactCheckMatchSpec)

/-- 'laws.FnExactMatchNets', WHERE WHAT IT READS IS OF BULK AT MOST 1048576: true; the input reads as it did. -/
def fnExactMatchNetsUptoRow : OpenClaim := { program := "ytbfieehlekgjeaa", sum := "f8f3e45584369748940319274d253ed7bafc782c900a6f9237210fb9f03411c0", func := "loop.example/g00057/laws.FnExactMatchNets", spec := "fnExactMatchNets", recurses := true, apart := false, narrowed := true }
def FnExactMatchNetsUptoSaid : Prop := fnExactMatchNetsUptoRow.holds Try.pinned (OpenSpec.upto fnExactMatchNetsSpec)

end Rows
end Go.Proofs.Ytbfieehlekgjeaa
