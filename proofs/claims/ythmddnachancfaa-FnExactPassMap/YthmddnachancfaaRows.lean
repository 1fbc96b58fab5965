/-
  No cell of these rows narrows 'for every input' (looked for: loops, veiled, ifaces, maps, wideKeys, modest, calm, conditions, laid).
  DERIVED. THE GIVEN ROWS OF THIS SEAT. 6 by the template 'for every input the law returns true; each argument reads behind the call as it read before'; 0 by the template 'total and deterministic' (their statements: YthmddnachancfaaTotals.lean).
  GIVEN WITH THE SEED: the statements are not yours to turn. If you find one false, say at which input.
  Laid BY PROGRAM, IN A SANDBOX (cutbox-rows.mjs): the forced cells as the released guide's own fill.sh prints them over the translation d53e95ef6ef49197… (all of the seat's roots in one cut). By AI agents, Wed Nov 11 2026. No macro, syntax, notation, axiom, sorry.
-/
import Derived.Test.YthmddnachancfaaChecked
import GoSem.Claim
import GoSem.ClaimJoined
import GoSem.ClaimMapViews
import Derived.JoinedTies
import Derived.KernelRfl
namespace Go.Proofs.Ythmddnachancfaa
/- THE CELL 'sum', in the pinned program and in every row, IS THE sha256 OF THE DUMP (.gsa) THAT YthmddnachancfaaProg.lean LOADS. Nothing in Lean hashes anything: it is a label: what it is worth is what the hold of that sum in a sandbox is worth. -/
noncomputable def Try.pinned : Pinned := { name := "ythmddnachancfaa", sum := "d53e95ef6ef49197f1a59982544b1a174e4e2822086a2c9ccbf1a05935233a7b", checked := Try.checked }
namespace Rows
def none {H : Type} : Left H := { results := [], args := [] }

/-- 'laws.FnExactPassMap': WHATEVER THE INPUT: true; the input reads as it did. -/
def fnExactPassMapSpec : ChangeSpec := { name := "fnExactPassMap", fn := fun _ => fun
  | [d1, d2, d3] => { results := [.lit (.bool true)], args := [d1, d2, d3] }
  | _ => none }
def fnExactPassMapRow : OpenClaim := { program := "ythmddnachancfaa", sum := "d53e95ef6ef49197f1a59982544b1a174e4e2822086a2c9ccbf1a05935233a7b", func := "loop.example/g00057/laws.FnExactPassMap", spec := "fnExactPassMap", unfollowed := true, recurses := true, apart := false }
def FnExactPassMapSaid : Prop := fnExactPassMapRow.holds Try.pinned (OpenSpec.ofChange fnExactPassMapSpec)

/-- ITS FALSE NEIGHBOUR: 'it returns false'. Refute it at one input. -/
def fnExactPassMapWrong : ChangeSpec := { name := "fnExactPassMap", fn := fun _ => fun
  | [d1, d2, d3] => { results := [.lit (.bool false)], args := [d1, d2, d3] }
  | _ => none }
def FnExactPassMapWrongFalsely : Prop := fnExactPassMapRow.holds Try.pinned (OpenSpec.ofChange fnExactPassMapWrong)

/-- 'laws.FnExactBothPass': WHATEVER THE INPUT: true; the input reads as it did. -/
def fnExactBothPassSpec : ChangeSpec := { name := "fnExactBothPass", fn := fun _ => fun
  | [d1, d2] => { results := [.lit (.bool true)], args := [d1, d2] }
  | _ => none }
def fnExactBothPassRow : OpenClaim := { program := "ythmddnachancfaa", sum := "d53e95ef6ef49197f1a59982544b1a174e4e2822086a2c9ccbf1a05935233a7b", func := "loop.example/g00057/laws.FnExactBothPass", spec := "fnExactBothPass", unfollowed := true, recurses := true, apart := false }
def FnExactBothPassSaid : Prop := fnExactBothPassRow.holds Try.pinned (OpenSpec.ofChange fnExactBothPassSpec)

/-- ITS FALSE NEIGHBOUR: 'it returns false'. Refute it at one input. -/
def fnExactBothPassWrong : ChangeSpec := { name := "fnExactBothPass", fn := fun _ => fun
  | [d1, d2] => { results := [.lit (.bool false)], args := [d1, d2] }
  | _ => none }
def FnExactBothPassWrongFalsely : Prop := fnExactBothPassRow.holds Try.pinned (OpenSpec.ofChange fnExactBothPassWrong)

/-- 'laws.FnExactLargestWindow': WHATEVER THE INPUT: true; the input reads as it did. -/
def fnExactLargestWindowSpec : ChangeSpec := { name := "fnExactLargestWindow", fn := fun _ => fun
  | [d] => { results := [.lit (.bool true)], args := [d] }
  | _ => none }
def fnExactLargestWindowRow : OpenClaim := { program := "ythmddnachancfaa", sum := "d53e95ef6ef49197f1a59982544b1a174e4e2822086a2c9ccbf1a05935233a7b", func := "loop.example/g00057/laws.FnExactLargestWindow", spec := "fnExactLargestWindow", unfollowed := true, recurses := true, apart := false }
def FnExactLargestWindowSaid : Prop := fnExactLargestWindowRow.holds Try.pinned (OpenSpec.ofChange fnExactLargestWindowSpec)

/-- ITS FALSE NEIGHBOUR: 'it returns false'. Refute it at one input. -/
def fnExactLargestWindowWrong : ChangeSpec := { name := "fnExactLargestWindow", fn := fun _ => fun
  | [d] => { results := [.lit (.bool false)], args := [d] }
  | _ => none }
def FnExactLargestWindowWrongFalsely : Prop := fnExactLargestWindowRow.holds Try.pinned (OpenSpec.ofChange fnExactLargestWindowWrong)

/-- 'laws.FnExactCheckWindow': WHATEVER THE INPUT: true; the input reads as it did. -/
def fnExactCheckWindowSpec : ChangeSpec := { name := "fnExactCheckWindow", fn := fun _ => fun
  | [d1, d2] => { results := [.lit (.bool true)], args := [d1, d2] }
  | _ => none }
def fnExactCheckWindowRow : OpenClaim := { program := "ythmddnachancfaa", sum := "d53e95ef6ef49197f1a59982544b1a174e4e2822086a2c9ccbf1a05935233a7b", func := "loop.example/g00057/laws.FnExactCheckWindow", spec := "fnExactCheckWindow", unfollowed := true, recurses := true, apart := false }
def FnExactCheckWindowSaid : Prop := fnExactCheckWindowRow.holds Try.pinned (OpenSpec.ofChange fnExactCheckWindowSpec)

/-- ITS FALSE NEIGHBOUR: 'it returns false'. Refute it at one input. -/
def fnExactCheckWindowWrong : ChangeSpec := { name := "fnExactCheckWindow", fn := fun _ => fun
  | [d1, d2] => { results := [.lit (.bool false)], args := [d1, d2] }
  | _ => none }
def FnExactCheckWindowWrongFalsely : Prop := fnExactCheckWindowRow.holds Try.pinned (OpenSpec.ofChange fnExactCheckWindowWrong)

/-- 'laws.FnExactDepthAt': WHATEVER THE INPUT: true; the input reads as it did. -/
def fnExactDepthAtSpec : ChangeSpec := { name := "fnExactDepthAt", fn := fun _ => fun
  | [d1, d2] => { results := [.lit (.bool true)], args := [d1, d2] }
  | _ => none }
def fnExactDepthAtRow : OpenClaim := { program := "ythmddnachancfaa", sum := "d53e95ef6ef49197f1a59982544b1a174e4e2822086a2c9ccbf1a05935233a7b", func := "loop.example/g00057/laws.FnExactDepthAt", spec := "fnExactDepthAt", unfollowed := true, recurses := true, apart := false }
def FnExactDepthAtSaid : Prop := fnExactDepthAtRow.holds Try.pinned (OpenSpec.ofChange fnExactDepthAtSpec)

/-- ITS FALSE NEIGHBOUR: 'it returns false'. Refute it at one input. -/
def fnExactDepthAtWrong : ChangeSpec := { name := "fnExactDepthAt", fn := fun _ => fun
  | [d1, d2] => { results := [.lit (.bool false)], args := [d1, d2] }
  | _ => none }
def FnExactDepthAtWrongFalsely : Prop := fnExactDepthAtRow.holds Try.pinned (OpenSpec.ofChange fnExactDepthAtWrong)

/-- 'laws.FnExactLatitudeAt': WHATEVER THE INPUT: true; the input reads as it did. -/
def fnExactLatitudeAtSpec : ChangeSpec := { name := "fnExactLatitudeAt", fn := fun _ => fun
  | [d1, d2] => { results := [.lit (.bool true)], args := [d1, d2] }
  | _ => none }
def fnExactLatitudeAtRow : OpenClaim := { program := "ythmddnachancfaa", sum := "d53e95ef6ef49197f1a59982544b1a174e4e2822086a2c9ccbf1a05935233a7b", func := "loop.example/g00057/laws.FnExactLatitudeAt", spec := "fnExactLatitudeAt", unfollowed := true, recurses := true, apart := false }
def FnExactLatitudeAtSaid : Prop := fnExactLatitudeAtRow.holds Try.pinned (OpenSpec.ofChange fnExactLatitudeAtSpec)

/-- ITS FALSE NEIGHBOUR: 'it returns false'. Refute it at one input. -/
def fnExactLatitudeAtWrong : ChangeSpec := { name := "fnExactLatitudeAt", fn := fun _ => fun
  | [d1, d2] => { results := [.lit (.bool false)], args := [d1, d2] }
  | _ => none }
def FnExactLatitudeAtWrongFalsely : Prop := fnExactLatitudeAtRow.holds Try.pinned (OpenSpec.ofChange fnExactLatitudeAtWrong)

/- THE SECOND FORM. 'bulk': how many values and letters a reading holds, each counted each time it is reached (what is shared counts as often as it is met; a slice's spare places count too). A statement '..UptoSaid' is the law's where the arguments, and the package variables that the reading takes, are together of bulk at most 1048576: NARROWER than '..Said'. Prove '..Said' where nothing that the law and all that it calls make is longer than what came in: it says more and counts as full. Else prove '..UptoSaid'. A law counts once. -/
mutual
def uptoBulk {H : Type} : DataW H → Nat
  | .lit (.string bytes) => bytes.length + 1
  | .lit _ => 1
  | .nil => 1
  | .ptr d => uptoBulk d + 1
  | .slice elems spare => uptoBulkAll elems + uptoBulkAll spare + 1
  | .agg parts => uptoBulkAll parts + 1
  | .iface _ d => uptoBulk d + 1
  | .map entries => uptoBulkEntries entries + 1
  | .held _ => 1
def uptoBulkAll {H : Type} : List (DataW H) → Nat
  | [] => 0
  | d :: r => uptoBulk d + uptoBulkAll r
def uptoBulkEntries {H : Type} : List (Lit × DataW H) → Nat
  | [] => 0
  | x :: r => uptoBulkEntry x + uptoBulkEntries r
def uptoBulkEntry {H : Type} : Lit × DataW H → Nat
  | (.string bytes, d) => bytes.length + uptoBulk d + 1
  | (_, d) => uptoBulk d + 1
 end
def uptoSmall : (H : Type) → List (DataW H) → Bool := fun _ ds => decide (uptoBulkAll ds ≤ 1048576)
def OpenSpec.upto (s : _root_.Go.ChangeSpec) : _root_.Go.OpenSpec := { _root_.Go.OpenSpec.ofChange s with cond := some uptoSmall }

/-- 'laws.FnExactPassMap', WHERE WHAT IT READS IS OF BULK AT MOST 1048576: true; the input reads as it did. -/
def fnExactPassMapUptoRow : OpenClaim := { program := "ythmddnachancfaa", sum := "d53e95ef6ef49197f1a59982544b1a174e4e2822086a2c9ccbf1a05935233a7b", func := "loop.example/g00057/laws.FnExactPassMap", spec := "fnExactPassMap", unfollowed := true, recurses := true, apart := false, narrowed := true }
def FnExactPassMapUptoSaid : Prop := fnExactPassMapUptoRow.holds Try.pinned (OpenSpec.upto fnExactPassMapSpec)

/-- 'laws.FnExactBothPass', WHERE WHAT IT READS IS OF BULK AT MOST 1048576: true; the input reads as it did. -/
def fnExactBothPassUptoRow : OpenClaim := { program := "ythmddnachancfaa", sum := "d53e95ef6ef49197f1a59982544b1a174e4e2822086a2c9ccbf1a05935233a7b", func := "loop.example/g00057/laws.FnExactBothPass", spec := "fnExactBothPass", unfollowed := true, recurses := true, apart := false, narrowed := true }
def FnExactBothPassUptoSaid : Prop := fnExactBothPassUptoRow.holds Try.pinned (OpenSpec.upto fnExactBothPassSpec)

/-- 'laws.FnExactLargestWindow', WHERE WHAT IT READS IS OF BULK AT MOST 1048576: true; the input reads as it did. -/
def fnExactLargestWindowUptoRow : OpenClaim := { program := "ythmddnachancfaa", sum := "d53e95ef6ef49197f1a59982544b1a174e4e2822086a2c9ccbf1a05935233a7b", func := "loop.example/g00057/laws.FnExactLargestWindow", spec := "fnExactLargestWindow", unfollowed := true, recurses := true, apart := false, narrowed := true }
def FnExactLargestWindowUptoSaid : Prop := fnExactLargestWindowUptoRow.holds Try.pinned (OpenSpec.upto fnExactLargestWindowSpec)

/-- 'laws.FnExactCheckWindow', WHERE WHAT IT READS IS OF BULK AT MOST 1048576: true; the input reads as it did. -/
def fnExactCheckWindowUptoRow : OpenClaim := { program := "ythmddnachancfaa", sum := "d53e95ef6ef49197f1a59982544b1a174e4e2822086a2c9ccbf1a05935233a7b", func := "loop.example/g00057/laws.FnExactCheckWindow", spec := "fnExactCheckWindow", unfollowed := true, recurses := true, apart := false, narrowed := true }
def FnExactCheckWindowUptoSaid : Prop := fnExactCheckWindowUptoRow.holds Try.pinned (OpenSpec.upto fnExactCheckWindowSpec)

/-- 'laws.FnExactDepthAt', WHERE WHAT IT READS IS OF BULK AT MOST 1048576: true; the input reads as it did. -/
def fnExactDepthAtUptoRow : OpenClaim := { program := "ythmddnachancfaa", sum := "d53e95ef6ef49197f1a59982544b1a174e4e2822086a2c9ccbf1a05935233a7b", func := "loop.example/g00057/laws.FnExactDepthAt", spec := "fnExactDepthAt", unfollowed := true, recurses := true, apart := false, narrowed := true }
def FnExactDepthAtUptoSaid : Prop := fnExactDepthAtUptoRow.holds Try.pinned (OpenSpec.upto fnExactDepthAtSpec)

/-- 'laws.FnExactLatitudeAt', WHERE WHAT IT READS IS OF BULK AT MOST 1048576: true; the input reads as it did. -/
def fnExactLatitudeAtUptoRow : OpenClaim := { program := "ythmddnachancfaa", sum := "d53e95ef6ef49197f1a59982544b1a174e4e2822086a2c9ccbf1a05935233a7b", func := "loop.example/g00057/laws.FnExactLatitudeAt", spec := "fnExactLatitudeAt", unfollowed := true, recurses := true, apart := false, narrowed := true }
def FnExactLatitudeAtUptoSaid : Prop := fnExactLatitudeAtUptoRow.holds Try.pinned (OpenSpec.upto fnExactLatitudeAtSpec)

end Rows
end Go.Proofs.Ythmddnachancfaa
