/-
  No cell of these rows narrows 'for every input' (looked for: loops, veiled, ifaces, maps, wideKeys, modest, calm, conditions, laid).
  DERIVED. THE GIVEN ROWS OF THIS SEAT. 4 by the template 'for every input the law returns true; each argument reads behind the call as it read before'; 0 by the template 'total and deterministic' (their statements: YtcfcknfaeliodaaTotals.lean).
  GIVEN WITH THE SEED: the statements are not yours to turn. If you find one false, say at which input.
  Laid BY PROGRAM, IN A SANDBOX (cutbox-rows.mjs): the forced cells as the released guide's own fill.sh prints them over the translation 5b1bc1abf1685ee9… (all of the seat's roots in one cut). By AI agents, Wed Nov 11 2026. No macro, syntax, notation, axiom, sorry.
-/
import Derived.Test.YtcfcknfaeliodaaChecked
import GoSem.Claim
import GoSem.ClaimJoined
import GoSem.ClaimMapViews
import Derived.JoinedTies
import Derived.KernelRfl
namespace Go.Proofs.Ytcfcknfaeliodaa
/- THE CELL 'sum', in the pinned program and in every row, IS THE sha256 OF THE DUMP (.gsa) THAT YtcfcknfaeliodaaProg.lean LOADS. Nothing in Lean hashes anything: it is a label: what it is worth is what the hold of that sum in a sandbox is worth. -/
noncomputable def Try.pinned : Pinned := { name := "ytcfcknfaeliodaa", sum := "5b1bc1abf1685ee9823d79e1c1c365f31a3c2ad352e9430b2108d5664a9873d5", checked := Try.checked }
namespace Rows
def none {H : Type} : Left H := { results := [], args := [] }

/-- 'laws.FnExactToolFault': WHATEVER THE INPUT: true; the input reads as it did. -/
def fnExactToolFaultSpec : ChangeSpec := { name := "fnExactToolFault", fn := fun _ => fun
  | [d] => { results := [.lit (.bool true)], args := [d] }
  | _ => none }
def fnExactToolFaultRow : OpenClaim := { program := "ytcfcknfaeliodaa", sum := "5b1bc1abf1685ee9823d79e1c1c365f31a3c2ad352e9430b2108d5664a9873d5", func := "loop.example/g00057/laws.FnExactToolFault", spec := "fnExactToolFault", unfollowed := true, recurses := true, apart := false }
def FnExactToolFaultSaid : Prop := fnExactToolFaultRow.holds Try.pinned (OpenSpec.ofChange fnExactToolFaultSpec)

/-- ITS FALSE NEIGHBOUR: 'it returns false'. Refute it at one input. -/
def fnExactToolFaultWrong : ChangeSpec := { name := "fnExactToolFault", fn := fun _ => fun
  | [d] => { results := [.lit (.bool false)], args := [d] }
  | _ => none }
def FnExactToolFaultWrongFalsely : Prop := fnExactToolFaultRow.holds Try.pinned (OpenSpec.ofChange fnExactToolFaultWrong)

/-- 'laws.FnExactRecoverTool': WHATEVER THE INPUT: true; the input reads as it did. -/
def fnExactRecoverToolSpec : ChangeSpec := { name := "fnExactRecoverTool", fn := fun _ => fun
  | [d] => { results := [.lit (.bool true)], args := [d] }
  | _ => none }
def fnExactRecoverToolRow : OpenClaim := { program := "ytcfcknfaeliodaa", sum := "5b1bc1abf1685ee9823d79e1c1c365f31a3c2ad352e9430b2108d5664a9873d5", func := "loop.example/g00057/laws.FnExactRecoverTool", spec := "fnExactRecoverTool", unfollowed := true, recurses := true, apart := false }
def FnExactRecoverToolSaid : Prop := fnExactRecoverToolRow.holds Try.pinned (OpenSpec.ofChange fnExactRecoverToolSpec)

/-- ITS FALSE NEIGHBOUR: 'it returns false'. Refute it at one input. -/
def fnExactRecoverToolWrong : ChangeSpec := { name := "fnExactRecoverTool", fn := fun _ => fun
  | [d] => { results := [.lit (.bool false)], args := [d] }
  | _ => none }
def FnExactRecoverToolWrongFalsely : Prop := fnExactRecoverToolRow.holds Try.pinned (OpenSpec.ofChange fnExactRecoverToolWrong)

/-- 'laws.FnExactCheckRuns': WHATEVER THE INPUT: true; the input reads as it did. -/
def fnExactCheckRunsSpec : ChangeSpec := { name := "fnExactCheckRuns", fn := fun _ => fun
  | [d1, d2] => { results := [.lit (.bool true)], args := [d1, d2] }
  | _ => none }
def fnExactCheckRunsRow : OpenClaim := { program := "ytcfcknfaeliodaa", sum := "5b1bc1abf1685ee9823d79e1c1c365f31a3c2ad352e9430b2108d5664a9873d5", func := "loop.example/g00057/laws.FnExactCheckRuns", spec := "fnExactCheckRuns", unfollowed := true, recurses := true, apart := false }
def FnExactCheckRunsSaid : Prop := fnExactCheckRunsRow.holds Try.pinned (OpenSpec.ofChange fnExactCheckRunsSpec)

/-- ITS FALSE NEIGHBOUR: 'it returns false'. Refute it at one input. -/
def fnExactCheckRunsWrong : ChangeSpec := { name := "fnExactCheckRuns", fn := fun _ => fun
  | [d1, d2] => { results := [.lit (.bool false)], args := [d1, d2] }
  | _ => none }
def FnExactCheckRunsWrongFalsely : Prop := fnExactCheckRunsRow.holds Try.pinned (OpenSpec.ofChange fnExactCheckRunsWrong)

/-- 'laws.FnExactLeastEnd': WHATEVER THE INPUT: true; the input reads as it did. -/
def fnExactLeastEndSpec : ChangeSpec := { name := "fnExactLeastEnd", fn := fun _ => fun
  | [d1, d2] => { results := [.lit (.bool true)], args := [d1, d2] }
  | _ => none }
def fnExactLeastEndRow : OpenClaim := { program := "ytcfcknfaeliodaa", sum := "5b1bc1abf1685ee9823d79e1c1c365f31a3c2ad352e9430b2108d5664a9873d5", func := "loop.example/g00057/laws.FnExactLeastEnd", spec := "fnExactLeastEnd", apart := false }
def FnExactLeastEndSaid : Prop := fnExactLeastEndRow.holds Try.pinned (OpenSpec.ofChange fnExactLeastEndSpec)

/-- ITS FALSE NEIGHBOUR: 'it returns false'. Refute it at one input. -/
def fnExactLeastEndWrong : ChangeSpec := { name := "fnExactLeastEnd", fn := fun _ => fun
  | [d1, d2] => { results := [.lit (.bool false)], args := [d1, d2] }
  | _ => none }
def FnExactLeastEndWrongFalsely : Prop := fnExactLeastEndRow.holds Try.pinned (OpenSpec.ofChange fnExactLeastEndWrong)

/- THE SECOND FORM. 'bulk': how many values and letters a reading holds, each counted each time it is reached (what is shared counts as often as it is met; a slice's spare places count too). A statement '..UptoSaid' is the law's where the arguments, and the package variables that the reading takes, are together of bulk at most 1048576: NARROWER than '..Said'. Prove '..Said' where nothing that the law and all that it calls make is longer than what came in: it says more and counts as full. Else prove '..UptoSaid'. A law counts once. -/
mutual
def uptoBulk {H : Type} : DataW H → Nat
  | .lit (.string bytes) => bytes.length + 1
  | .lit _ => 1
  | .nil => 1
  | .ptr d => uptoBulk d + 1
  | .slice elems spare => uptoBulkAll elems + uptoBulkAll spare + 1
  | .agg parts => uptoBulkAll parts + 1
  | .iface _ d => uptoBulk d + 1
  | .map entries => uptoBulkEntries entries + 1
  | .held _ => 1
def uptoBulkAll {H : Type} : List (DataW H) → Nat
  | [] => 0
  | d :: r => uptoBulk d + uptoBulkAll r
def uptoBulkEntries {H : Type} : List (Lit × DataW H) → Nat
  | [] => 0
  | x :: r => uptoBulkEntry x + uptoBulkEntries r
def uptoBulkEntry {H : Type} : Lit × DataW H → Nat
  | (.string bytes, d) => bytes.length + uptoBulk d + 1
  | (_, d) => uptoBulk d + 1
 end
def uptoSmall : (H : Type) → List (DataW H) → Bool := fun _ ds => decide (uptoBulkAll ds ≤ 1048576)
def OpenSpec.upto (s : _root_.Go.ChangeSpec) : _root_.Go.OpenSpec := { _root_.Go.OpenSpec.ofChange s with cond := some uptoSmall }

/-- 'laws.FnExactToolFault', WHERE WHAT IT READS IS OF BULK AT MOST 1048576: true; the input reads as it did. -/
def fnExactToolFaultUptoRow : OpenClaim := { program := "ytcfcknfaeliodaa", sum := "5b1bc1abf1685ee9823d79e1c1c365f31a3c2ad352e9430b2108d5664a9873d5", func := "loop.example/g00057/laws.FnExactToolFault", spec := "fnExactToolFault", unfollowed := true, recurses := true, apart := false, narrowed := true }
def FnExactToolFaultUptoSaid : Prop := fnExactToolFaultUptoRow.holds Try.pinned (OpenSpec.upto fnExactToolFaultSpec)

/-- 'laws.FnExactRecoverTool', WHERE WHAT IT READS IS OF BULK AT MOST 1048576: true; the input reads as it did. -/
def fnExactRecoverToolUptoRow : OpenClaim := { program := "ytcfcknfaeliodaa", sum := "5b1bc1abf1685ee9823d79e1c1c365f31a3c2ad352e9430b2108d5664a9873d5", func := "loop.example/g00057/laws.FnExactRecoverTool", spec := "fnExactRecoverTool", unfollowed := true, recurses := true, apart := false, narrowed := true }
def FnExactRecoverToolUptoSaid : Prop := fnExactRecoverToolUptoRow.holds Try.pinned (OpenSpec.upto fnExactRecoverToolSpec)

/-- 'laws.FnExactCheckRuns', WHERE WHAT IT READS IS OF BULK AT MOST 1048576: true; the input reads as it did. -/
def fnExactCheckRunsUptoRow : OpenClaim := { program := "ytcfcknfaeliodaa", sum := "5b1bc1abf1685ee9823d79e1c1c365f31a3c2ad352e9430b2108d5664a9873d5", func := "loop.example/g00057/laws.FnExactCheckRuns", spec := "fnExactCheckRuns", unfollowed := true, recurses := true, apart := false, narrowed := true }
def FnExactCheckRunsUptoSaid : Prop := fnExactCheckRunsUptoRow.holds Try.pinned (OpenSpec.upto fnExactCheckRunsSpec)

/-- 'laws.FnExactLeastEnd', WHERE WHAT IT READS IS OF BULK AT MOST 1048576: true; the input reads as it did. -/
def fnExactLeastEndUptoRow : OpenClaim := { program := "ytcfcknfaeliodaa", sum := "5b1bc1abf1685ee9823d79e1c1c365f31a3c2ad352e9430b2108d5664a9873d5", func := "loop.example/g00057/laws.FnExactLeastEnd", spec := "fnExactLeastEnd", apart := false, narrowed := true }
def FnExactLeastEndUptoSaid : Prop := fnExactLeastEndUptoRow.holds Try.pinned (OpenSpec.upto fnExactLeastEndSpec)

end Rows
end Go.Proofs.Ytcfcknfaeliodaa
