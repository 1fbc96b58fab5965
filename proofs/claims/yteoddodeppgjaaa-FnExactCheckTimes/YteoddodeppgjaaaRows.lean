/-
  No cell of these rows narrows 'for every input' (looked for: loops, veiled, ifaces, maps, wideKeys, modest, calm, conditions, laid).
  DERIVED. THE GIVEN ROWS OF THIS SEAT. 6 by the template 'for every input the law returns true; each argument reads behind the call as it read before'; 0 by the template 'total and deterministic' (their statements: YteoddodeppgjaaaTotals.lean).
  GIVEN WITH THE SEED: the statements are not yours to turn. If you find one false, say at which input.
  Laid BY PROGRAM, IN A SANDBOX (cutbox-rows.mjs): the forced cells as the released guide's own fill.sh prints them over the translation d601067ee8f7c8be… (all of the seat's roots in one cut). By AI agents, Wed Nov 11 2026. No macro, syntax, notation, axiom, sorry.
-/
import Derived.Test.YteoddodeppgjaaaChecked
import GoSem.Claim
import GoSem.ClaimJoined
import GoSem.ClaimMapViews
import Derived.JoinedTies
import Derived.KernelRfl
namespace Go.Proofs.Yteoddodeppgjaaa
/- THE CELL 'sum', in the pinned program and in every row, IS THE sha256 OF THE DUMP (.gsa) THAT YteoddodeppgjaaaProg.lean LOADS. Nothing in Lean hashes anything: it is a label: what it is worth is what the hold of that sum in a sandbox is worth. -/
noncomputable def Try.pinned : Pinned := { name := "yteoddodeppgjaaa", sum := "d601067ee8f7c8be1ef0baa82b4099fc922cc64c64e12aa5edceac958e7a7dba", checked := Try.checked }
namespace Rows
def none {H : Type} : Left H := { results := [], args := [] }

/-- 'laws.FnExactGridFault': WHATEVER THE INPUT: true; the input reads as it did. -/
def fnExactGridFaultSpec : ChangeSpec := { name := "fnExactGridFault", fn := fun _ => fun
  | [d] => { results := [.lit (.bool true)], args := [d] }
  | _ => none }
def fnExactGridFaultRow : OpenClaim := { program := "yteoddodeppgjaaa", sum := "d601067ee8f7c8be1ef0baa82b4099fc922cc64c64e12aa5edceac958e7a7dba", func := "loop.example/g00057/laws.FnExactGridFault", spec := "fnExactGridFault", unfollowed := true, recurses := true, apart := false }
def FnExactGridFaultSaid : Prop := fnExactGridFaultRow.holds Try.pinned (OpenSpec.ofChange fnExactGridFaultSpec)

/-- ITS FALSE NEIGHBOUR: 'it returns false'. Refute it at one input. -/
def fnExactGridFaultWrong : ChangeSpec := { name := "fnExactGridFault", fn := fun _ => fun
  | [d] => { results := [.lit (.bool false)], args := [d] }
  | _ => none }
def FnExactGridFaultWrongFalsely : Prop := fnExactGridFaultRow.holds Try.pinned (OpenSpec.ofChange fnExactGridFaultWrong)

/-- 'laws.FnExactSumOf': WHATEVER THE INPUT: true; the input reads as it did. -/
def fnExactSumOfSpec : ChangeSpec := { name := "fnExactSumOf", fn := fun _ => fun
  | [d] => { results := [.lit (.bool true)], args := [d] }
  | _ => none }
def fnExactSumOfRow : OpenClaim := { program := "yteoddodeppgjaaa", sum := "d601067ee8f7c8be1ef0baa82b4099fc922cc64c64e12aa5edceac958e7a7dba", func := "loop.example/g00057/laws.FnExactSumOf", spec := "fnExactSumOf", unfollowed := true, recurses := true, apart := false }
def FnExactSumOfSaid : Prop := fnExactSumOfRow.holds Try.pinned (OpenSpec.ofChange fnExactSumOfSpec)

/-- ITS FALSE NEIGHBOUR: 'it returns false'. Refute it at one input. -/
def fnExactSumOfWrong : ChangeSpec := { name := "fnExactSumOf", fn := fun _ => fun
  | [d] => { results := [.lit (.bool false)], args := [d] }
  | _ => none }
def FnExactSumOfWrongFalsely : Prop := fnExactSumOfRow.holds Try.pinned (OpenSpec.ofChange fnExactSumOfWrong)

/-- 'laws.FnExactCutGrid': WHATEVER THE INPUT: true; the input reads as it did. -/
def fnExactCutGridSpec : ChangeSpec := { name := "fnExactCutGrid", fn := fun _ => fun
  | [d1, d2] => { results := [.lit (.bool true)], args := [d1, d2] }
  | _ => none }
def fnExactCutGridRow : OpenClaim := { program := "yteoddodeppgjaaa", sum := "d601067ee8f7c8be1ef0baa82b4099fc922cc64c64e12aa5edceac958e7a7dba", func := "loop.example/g00057/laws.FnExactCutGrid", spec := "fnExactCutGrid", unfollowed := true, recurses := true, apart := false }
def FnExactCutGridSaid : Prop := fnExactCutGridRow.holds Try.pinned (OpenSpec.ofChange fnExactCutGridSpec)

/-- ITS FALSE NEIGHBOUR: 'it returns false'. Refute it at one input. -/
def fnExactCutGridWrong : ChangeSpec := { name := "fnExactCutGrid", fn := fun _ => fun
  | [d1, d2] => { results := [.lit (.bool false)], args := [d1, d2] }
  | _ => none }
def FnExactCutGridWrongFalsely : Prop := fnExactCutGridRow.holds Try.pinned (OpenSpec.ofChange fnExactCutGridWrong)

/-- 'laws.FnExactRatesOf': WHATEVER THE INPUT: true; the input reads as it did. -/
def fnExactRatesOfSpec : ChangeSpec := { name := "fnExactRatesOf", fn := fun _ => fun
  | [d1, d2] => { results := [.lit (.bool true)], args := [d1, d2] }
  | _ => none }
def fnExactRatesOfRow : OpenClaim := { program := "yteoddodeppgjaaa", sum := "d601067ee8f7c8be1ef0baa82b4099fc922cc64c64e12aa5edceac958e7a7dba", func := "loop.example/g00057/laws.FnExactRatesOf", spec := "fnExactRatesOf", unfollowed := true, recurses := true, apart := false }
def FnExactRatesOfSaid : Prop := fnExactRatesOfRow.holds Try.pinned (OpenSpec.ofChange fnExactRatesOfSpec)

/-- ITS FALSE NEIGHBOUR: 'it returns false'. Refute it at one input. -/
def fnExactRatesOfWrong : ChangeSpec := { name := "fnExactRatesOf", fn := fun _ => fun
  | [d1, d2] => { results := [.lit (.bool false)], args := [d1, d2] }
  | _ => none }
def FnExactRatesOfWrongFalsely : Prop := fnExactRatesOfRow.holds Try.pinned (OpenSpec.ofChange fnExactRatesOfWrong)

/-- 'laws.FnExactOpenAt': WHATEVER THE INPUT: true; the input reads as it did. -/
def fnExactOpenAtSpec : ChangeSpec := { name := "fnExactOpenAt", fn := fun _ => fun
  | [d1, d2] => { results := [.lit (.bool true)], args := [d1, d2] }
  | _ => none }
def fnExactOpenAtRow : OpenClaim := { program := "yteoddodeppgjaaa", sum := "d601067ee8f7c8be1ef0baa82b4099fc922cc64c64e12aa5edceac958e7a7dba", func := "loop.example/g00057/laws.FnExactOpenAt", spec := "fnExactOpenAt", unfollowed := true, recurses := true, apart := false }
def FnExactOpenAtSaid : Prop := fnExactOpenAtRow.holds Try.pinned (OpenSpec.ofChange fnExactOpenAtSpec)

/-- ITS FALSE NEIGHBOUR: 'it returns false'. Refute it at one input. -/
def fnExactOpenAtWrong : ChangeSpec := { name := "fnExactOpenAt", fn := fun _ => fun
  | [d1, d2] => { results := [.lit (.bool false)], args := [d1, d2] }
  | _ => none }
def FnExactOpenAtWrongFalsely : Prop := fnExactOpenAtRow.holds Try.pinned (OpenSpec.ofChange fnExactOpenAtWrong)

/-- 'laws.FnExactCheckTimes': WHATEVER THE INPUT: true; the input reads as it did. -/
def fnExactCheckTimesSpec : ChangeSpec := { name := "fnExactCheckTimes", fn := fun _ => fun
  | [d1, d2] => { results := [.lit (.bool true)], args := [d1, d2] }
  | _ => none }
def fnExactCheckTimesRow : OpenClaim := { program := "yteoddodeppgjaaa", sum := "d601067ee8f7c8be1ef0baa82b4099fc922cc64c64e12aa5edceac958e7a7dba", func := "loop.example/g00057/laws.FnExactCheckTimes", spec := "fnExactCheckTimes", unfollowed := true, recurses := true, apart := false }
def FnExactCheckTimesSaid : Prop := fnExactCheckTimesRow.holds Try.pinned (OpenSpec.ofChange fnExactCheckTimesSpec)

/-- ITS FALSE NEIGHBOUR: 'it returns false'. Refute it at one input. -/
def fnExactCheckTimesWrong : ChangeSpec := { name := "fnExactCheckTimes", fn := fun _ => fun
  | [d1, d2] => { results := [.lit (.bool false)], args := [d1, d2] }
  | _ => none }
def FnExactCheckTimesWrongFalsely : Prop := fnExactCheckTimesRow.holds Try.pinned (OpenSpec.ofChange fnExactCheckTimesWrong)

/- THE SECOND FORM. 'bulk': how many values and letters a reading holds, each counted each time it is reached (what is shared counts as often as it is met; a slice's spare places count too). A statement '..UptoSaid' is the law's where the arguments, and the package variables that the reading takes, are together of bulk at most 1048576: NARROWER than '..Said'. Prove '..Said' where nothing that the law and all that it calls make is longer than what came in: it says more and counts as full. Else prove '..UptoSaid'. A law counts once. -/
mutual
def uptoBulk {H : Type} : DataW H → Nat
  | .lit (.string bytes) => bytes.length + 1
  | .lit _ => 1
  | .nil => 1
  | .ptr d => uptoBulk d + 1
  | .slice elems spare => uptoBulkAll elems + uptoBulkAll spare + 1
  | .agg parts => uptoBulkAll parts + 1
  | .iface _ d => uptoBulk d + 1
  | .map entries => uptoBulkEntries entries + 1
  | .held _ => 1
def uptoBulkAll {H : Type} : List (DataW H) → Nat
  | [] => 0
  | d :: r => uptoBulk d + uptoBulkAll r
def uptoBulkEntries {H : Type} : List (Lit × DataW H) → Nat
  | [] => 0
  | x :: r => uptoBulkEntry x + uptoBulkEntries r
def uptoBulkEntry {H : Type} : Lit × DataW H → Nat
  | (.string bytes, d) => bytes.length + uptoBulk d + 1
  | (_, d) => uptoBulk d + 1
 end
def uptoSmall : (H : Type) → List (DataW H) → Bool := fun _ ds => decide (uptoBulkAll ds ≤ 1048576)
def OpenSpec.upto (s : _root_.Go.ChangeSpec) : _root_.Go.OpenSpec := { _root_.Go.OpenSpec.ofChange s with cond := some uptoSmall }

/-- 'laws.FnExactGridFault', WHERE WHAT IT READS IS OF BULK AT MOST 1048576: true; the input reads as it did. -/
def fnExactGridFaultUptoRow : OpenClaim := { program := "yteoddodeppgjaaa", sum := "d601067ee8f7c8be1ef0baa82b4099fc922cc64c64e12aa5edceac958e7a7dba", func := "loop.example/g00057/laws.FnExactGridFault", spec := "fnExactGridFault", unfollowed := true, recurses := true, apart := false, narrowed := true }
def FnExactGridFaultUptoSaid : Prop := fnExactGridFaultUptoRow.holds Try.pinned (OpenSpec.upto fnExactGridFaultSpec)

/-- 'laws.FnExactSumOf', WHERE WHAT IT READS IS OF BULK AT MOST 1048576: true; the input reads as it did. -/
def fnExactSumOfUptoRow : OpenClaim := { program := "yteoddodeppgjaaa", sum := "d601067ee8f7c8be1ef0baa82b4099fc922cc64c64e12aa5edceac958e7a7dba", func := "loop.example/g00057/laws.FnExactSumOf", spec := "fnExactSumOf", unfollowed := true, recurses := true, apart := false, narrowed := true }
def FnExactSumOfUptoSaid : Prop := fnExactSumOfUptoRow.holds Try.pinned (OpenSpec.upto fnExactSumOfSpec)

/-- 'laws.FnExactCutGrid', WHERE WHAT IT READS IS OF BULK AT MOST 1048576: true; the input reads as it did. -/
def fnExactCutGridUptoRow : OpenClaim := { program := "yteoddodeppgjaaa", sum := "d601067ee8f7c8be1ef0baa82b4099fc922cc64c64e12aa5edceac958e7a7dba", func := "loop.example/g00057/laws.FnExactCutGrid", spec := "fnExactCutGrid", unfollowed := true, recurses := true, apart := false, narrowed := true }
def FnExactCutGridUptoSaid : Prop := fnExactCutGridUptoRow.holds Try.pinned (OpenSpec.upto fnExactCutGridSpec)

/-- 'laws.FnExactRatesOf', WHERE WHAT IT READS IS OF BULK AT MOST 1048576: true; the input reads as it did. -/
def fnExactRatesOfUptoRow : OpenClaim := { program := "yteoddodeppgjaaa", sum := "d601067ee8f7c8be1ef0baa82b4099fc922cc64c64e12aa5edceac958e7a7dba", func := "loop.example/g00057/laws.FnExactRatesOf", spec := "fnExactRatesOf", unfollowed := true, recurses := true, apart := false, narrowed := true }
def FnExactRatesOfUptoSaid : Prop := fnExactRatesOfUptoRow.holds Try.pinned (OpenSpec.upto fnExactRatesOfSpec)

/-- 'laws.FnExactOpenAt', WHERE WHAT IT READS IS OF BULK AT MOST 1048576: true; the input reads as it did. -/
def fnExactOpenAtUptoRow : OpenClaim := { program := "yteoddodeppgjaaa", sum := "d601067ee8f7c8be1ef0baa82b4099fc922cc64c64e12aa5edceac958e7a7dba", func := "loop.example/g00057/laws.FnExactOpenAt", spec := "fnExactOpenAt", unfollowed := true, recurses := true, apart := false, narrowed := true }
def FnExactOpenAtUptoSaid : Prop := fnExactOpenAtUptoRow.holds Try.pinned (OpenSpec.upto fnExactOpenAtSpec)

/-- 'laws.FnExactCheckTimes', WHERE WHAT IT READS IS OF BULK AT MOST 1048576: true; the input reads as it did. -/
def fnExactCheckTimesUptoRow : OpenClaim := { program := "yteoddodeppgjaaa", sum := "d601067ee8f7c8be1ef0baa82b4099fc922cc64c64e12aa5edceac958e7a7dba", func := "loop.example/g00057/laws.FnExactCheckTimes", spec := "fnExactCheckTimes", unfollowed := true, recurses := true, apart := false, narrowed := true }
def FnExactCheckTimesUptoSaid : Prop := fnExactCheckTimesUptoRow.holds Try.pinned (OpenSpec.upto fnExactCheckTimesSpec)

end Rows
end Go.Proofs.Yteoddodeppgjaaa
