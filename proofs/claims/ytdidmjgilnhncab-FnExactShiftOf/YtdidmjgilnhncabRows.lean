/-
  No cell of these rows narrows 'for every input' (looked for: loops, veiled, ifaces, maps, wideKeys, modest, calm, conditions, laid).
  DERIVED. THE GIVEN ROWS OF THIS SEAT. 4 by the template 'for every input the law returns true; each argument reads behind the call as it read before'; 0 by the template 'total and deterministic' (their statements: YtdidmjgilnhncabTotals.lean).
  GIVEN WITH THE SEED: the statements are not yours to turn. If you find one false, say at which input.
  Laid BY PROGRAM, IN A SANDBOX (cutbox-rows.mjs): the forced cells as the released guide's own fill.sh prints them over the translation ccf04d98bcda827e… (all of the seat's roots in one cut). By AI agents, Wed Nov 11 2026. No macro, syntax, notation, axiom, sorry.
-/
import Derived.Test.YtdidmjgilnhncabChecked
import GoSem.Claim
import GoSem.ClaimJoined
import GoSem.ClaimMapViews
import Derived.JoinedTies
import Derived.KernelRfl
namespace Go.Proofs.Ytdidmjgilnhncab
/- THE CELL 'sum', in the pinned program and in every row, IS THE sha256 OF THE DUMP (.gsa) THAT YtdidmjgilnhncabProg.lean LOADS. Nothing in Lean hashes anything: it is a label: what it is worth is what the hold of that sum in a sandbox is worth. -/
noncomputable def Try.pinned : Pinned := { name := "ytdidmjgilnhncab", sum := "ccf04d98bcda827e2edd64ea7a610573134ae49f146a8b14939907690a95d65b", checked := Try.checked }
namespace Rows
def none {H : Type} : Left H := { results := [], args := [] }

/-- 'laws.FnExactCheckFit': WHATEVER THE INPUT: true; the input reads as it did. -/
def fnExactCheckFitSpec : ChangeSpec := { name := "fnExactCheckFit", fn := fun _ => fun
  | [d1, d2] => { results := [.lit (.bool true)], args := [d1, d2] }
  | _ => none }
def fnExactCheckFitRow : OpenClaim := { program := "ytdidmjgilnhncab", sum := "ccf04d98bcda827e2edd64ea7a610573134ae49f146a8b14939907690a95d65b", func := "loop.example/g00057/laws.FnExactCheckFit", spec := "fnExactCheckFit", unfollowed := true, recurses := true, apart := false }
def FnExactCheckFitSaid : Prop := fnExactCheckFitRow.holds Try.pinned (OpenSpec.ofChange fnExactCheckFitSpec)

/-- ITS FALSE NEIGHBOUR: 'it returns false'. Refute it at one input. -/
def fnExactCheckFitWrong : ChangeSpec := { name := "fnExactCheckFit", fn := fun _ => fun
  | [d1, d2] => { results := [.lit (.bool false)], args := [d1, d2] }
  | _ => none }
def FnExactCheckFitWrongFalsely : Prop := fnExactCheckFitRow.holds Try.pinned (OpenSpec.ofChange fnExactCheckFitWrong)

/-- 'laws.FnExactMissOf': WHATEVER THE INPUT: true; the input reads as it did. -/
def fnExactMissOfSpec : ChangeSpec := { name := "fnExactMissOf", fn := fun _ => fun
  | [d1, d2] => { results := [.lit (.bool true)], args := [d1, d2] }
  | _ => none }
def fnExactMissOfRow : OpenClaim := { program := "ytdidmjgilnhncab", sum := "ccf04d98bcda827e2edd64ea7a610573134ae49f146a8b14939907690a95d65b", func := "loop.example/g00057/laws.FnExactMissOf", spec := "fnExactMissOf", unfollowed := true, recurses := true, apart := false }
def FnExactMissOfSaid : Prop := fnExactMissOfRow.holds Try.pinned (OpenSpec.ofChange fnExactMissOfSpec)

/-- ITS FALSE NEIGHBOUR: 'it returns false'. Refute it at one input. -/
def fnExactMissOfWrong : ChangeSpec := { name := "fnExactMissOf", fn := fun _ => fun
  | [d1, d2] => { results := [.lit (.bool false)], args := [d1, d2] }
  | _ => none }
def FnExactMissOfWrongFalsely : Prop := fnExactMissOfRow.holds Try.pinned (OpenSpec.ofChange fnExactMissOfWrong)

/-- 'laws.FnExactSolveRows': WHATEVER THE INPUT: true; the input reads as it did. -/
def fnExactSolveRowsSpec : ChangeSpec := { name := "fnExactSolveRows", fn := fun _ => fun
  | [d1, d2] => { results := [.lit (.bool true)], args := [d1, d2] }
  | _ => none }
def fnExactSolveRowsRow : OpenClaim := { program := "ytdidmjgilnhncab", sum := "ccf04d98bcda827e2edd64ea7a610573134ae49f146a8b14939907690a95d65b", func := "loop.example/g00057/laws.FnExactSolveRows", spec := "fnExactSolveRows", unfollowed := true, recurses := true, apart := false }
def FnExactSolveRowsSaid : Prop := fnExactSolveRowsRow.holds Try.pinned (OpenSpec.ofChange fnExactSolveRowsSpec)

/-- ITS FALSE NEIGHBOUR: 'it returns false'. Refute it at one input. -/
def fnExactSolveRowsWrong : ChangeSpec := { name := "fnExactSolveRows", fn := fun _ => fun
  | [d1, d2] => { results := [.lit (.bool false)], args := [d1, d2] }
  | _ => none }
def FnExactSolveRowsWrongFalsely : Prop := fnExactSolveRowsRow.holds Try.pinned (OpenSpec.ofChange fnExactSolveRowsWrong)

/-- 'laws.FnExactShiftOf': WHATEVER THE INPUT: true; the input reads as it did. -/
def fnExactShiftOfSpec : ChangeSpec := { name := "fnExactShiftOf", fn := fun _ => fun
  | [d1, d2, d3] => { results := [.lit (.bool true)], args := [d1, d2, d3] }
  | _ => none }
def fnExactShiftOfRow : OpenClaim := { program := "ytdidmjgilnhncab", sum := "ccf04d98bcda827e2edd64ea7a610573134ae49f146a8b14939907690a95d65b", func := "loop.example/g00057/laws.FnExactShiftOf", spec := "fnExactShiftOf", unfollowed := true, recurses := true, apart := false }
def FnExactShiftOfSaid : Prop := fnExactShiftOfRow.holds Try.pinned (OpenSpec.ofChange fnExactShiftOfSpec)

/-- ITS FALSE NEIGHBOUR: 'it returns false'. Refute it at one input. -/
def fnExactShiftOfWrong : ChangeSpec := { name := "fnExactShiftOf", fn := fun _ => fun
  | [d1, d2, d3] => { results := [.lit (.bool false)], args := [d1, d2, d3] }
  | _ => none }
def FnExactShiftOfWrongFalsely : Prop := fnExactShiftOfRow.holds Try.pinned (OpenSpec.ofChange fnExactShiftOfWrong)

/- THE SECOND FORM. 'bulk': how many values and letters a reading holds, each counted each time it is reached (what is shared counts as often as it is met; a slice's spare places count too). A statement '..UptoSaid' is the law's where the arguments, and the package variables that the reading takes, are together of bulk at most 1048576: NARROWER than '..Said'. Prove '..Said' where nothing that the law and all that it calls make is longer than what came in: it says more and counts as full. Else prove '..UptoSaid'. A law counts once. -/
mutual
def uptoBulk {H : Type} : DataW H → Nat
  | .lit (.string bytes) => bytes.length + 1
  | .lit _ => 1
  | .nil => 1
  | .ptr d => uptoBulk d + 1
  | .slice elems spare => uptoBulkAll elems + uptoBulkAll spare + 1
  | .agg parts => uptoBulkAll parts + 1
  | .iface _ d => uptoBulk d + 1
  | .map entries => uptoBulkEntries entries + 1
  | .held _ => 1
def uptoBulkAll {H : Type} : List (DataW H) → Nat
  | [] => 0
  | d :: r => uptoBulk d + uptoBulkAll r
def uptoBulkEntries {H : Type} : List (Lit × DataW H) → Nat
  | [] => 0
  | x :: r => uptoBulkEntry x + uptoBulkEntries r
def uptoBulkEntry {H : Type} : Lit × DataW H → Nat
  | (.string bytes, d) => bytes.length + uptoBulk d + 1
  | (_, d) => uptoBulk d + 1
 end
def uptoSmall : (H : Type) → List (DataW H) → Bool := fun _ ds => decide (uptoBulkAll ds ≤ 1048576)
def OpenSpec.upto (s : _root_.Go.ChangeSpec) : _root_.Go.OpenSpec := { _root_.Go.OpenSpec.ofChange s with cond := some uptoSmall }

/-- 'laws.FnExactCheckFit', WHERE WHAT IT READS IS OF BULK AT MOST 1048576: true; the input reads as it did. -/
def fnExactCheckFitUptoRow : OpenClaim := { program := "ytdidmjgilnhncab", sum := "ccf04d98bcda827e2edd64ea7a610573134ae49f146a8b14939907690a95d65b", func := "loop.example/g00057/laws.FnExactCheckFit", spec := "fnExactCheckFit", unfollowed := true, recurses := true, apart := false, narrowed := true }
def FnExactCheckFitUptoSaid : Prop := fnExactCheckFitUptoRow.holds Try.pinned (OpenSpec.upto fnExactCheckFitSpec)

/-- 'laws.FnExactMissOf', WHERE WHAT IT READS IS OF BULK AT MOST 1048576: true; the input reads as it did. -/
def fnExactMissOfUptoRow : OpenClaim := { program := "ytdidmjgilnhncab", sum := "ccf04d98bcda827e2edd64ea7a610573134ae49f146a8b14939907690a95d65b", func := "loop.example/g00057/laws.FnExactMissOf", spec := "fnExactMissOf", unfollowed := true, recurses := true, apart := false, narrowed := true }
def FnExactMissOfUptoSaid : Prop := fnExactMissOfUptoRow.holds Try.pinned (OpenSpec.upto fnExactMissOfSpec)

/-- 'laws.FnExactSolveRows', WHERE WHAT IT READS IS OF BULK AT MOST 1048576: true; the input reads as it did. -/
def fnExactSolveRowsUptoRow : OpenClaim := { program := "ytdidmjgilnhncab", sum := "ccf04d98bcda827e2edd64ea7a610573134ae49f146a8b14939907690a95d65b", func := "loop.example/g00057/laws.FnExactSolveRows", spec := "fnExactSolveRows", unfollowed := true, recurses := true, apart := false, narrowed := true }
def FnExactSolveRowsUptoSaid : Prop := fnExactSolveRowsUptoRow.holds Try.pinned (OpenSpec.upto fnExactSolveRowsSpec)

/-- 'laws.FnExactShiftOf', WHERE WHAT IT READS IS OF BULK AT MOST 1048576: true; the input reads as it did. -/
def fnExactShiftOfUptoRow : OpenClaim := { program := "ytdidmjgilnhncab", sum := "ccf04d98bcda827e2edd64ea7a610573134ae49f146a8b14939907690a95d65b", func := "loop.example/g00057/laws.FnExactShiftOf", spec := "fnExactShiftOf", unfollowed := true, recurses := true, apart := false, narrowed := true }
def FnExactShiftOfUptoSaid : Prop := fnExactShiftOfUptoRow.holds Try.pinned (OpenSpec.upto fnExactShiftOfSpec)

end Rows
end Go.Proofs.Ytdidmjgilnhncab
