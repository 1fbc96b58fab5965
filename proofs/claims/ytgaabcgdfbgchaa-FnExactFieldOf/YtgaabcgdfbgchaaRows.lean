/-
  No cell of these rows narrows 'for every input' (looked for: loops, veiled, ifaces, maps, wideKeys, modest, calm, conditions, laid).
  DERIVED. THE GIVEN ROWS OF THIS SEAT. 5 by the template 'for every input the law returns true; each argument reads behind the call as it read before'; 0 by the template 'total and deterministic' (their statements: YtgaabcgdfbgchaaTotals.lean).
  GIVEN WITH THE SEED: the statements are not yours to turn. If you find one false, say at which input.
  Laid BY PROGRAM, IN A SANDBOX (cutbox-rows.mjs): the forced cells as the released guide's own fill.sh prints them over the translation c9b9d746af908434… (all of the seat's roots in one cut). By AI agents, Wed Nov 11 2026. No macro, syntax, notation, axiom, sorry.
-/
import Derived.Test.YtgaabcgdfbgchaaChecked
import GoSem.Claim
import GoSem.ClaimJoined
import GoSem.ClaimMapViews
import Derived.JoinedTies
import Derived.KernelRfl
namespace Go.Proofs.Ytgaabcgdfbgchaa
/- THE CELL 'sum', in the pinned program and in every row, IS THE sha256 OF THE DUMP (.gsa) THAT YtgaabcgdfbgchaaProg.lean LOADS. Nothing in Lean hashes anything: it is a label: what it is worth is what the hold of that sum in a sandbox is worth. -/
noncomputable def Try.pinned : Pinned := { name := "ytgaabcgdfbgchaa", sum := "c9b9d746af908434b3436e8b3b354118ec55621f205bc1bc30349c6bac902d87", checked := Try.checked }
namespace Rows
def none {H : Type} : Left H := { results := [], args := [] }

/-- 'laws.FnExactTurnZ': WHATEVER THE INPUT: true; the input reads as it did. -/
def fnExactTurnZSpec : ChangeSpec := { name := "fnExactTurnZ", fn := fun _ => fun
  | [d] => { results := [.lit (.bool true)], args := [d] }
  | _ => none }
def fnExactTurnZRow : OpenClaim := { program := "ytgaabcgdfbgchaa", sum := "c9b9d746af908434b3436e8b3b354118ec55621f205bc1bc30349c6bac902d87", func := "loop.example/g00057/laws.FnExactTurnZ", spec := "fnExactTurnZ", inPlace := ["math.sqrt"], apart := false }
def FnExactTurnZSaid : Prop := fnExactTurnZRow.holds Try.pinned (OpenSpec.ofChange fnExactTurnZSpec)

/-- ITS FALSE NEIGHBOUR: 'it returns false'. Refute it at one input. -/
def fnExactTurnZWrong : ChangeSpec := { name := "fnExactTurnZ", fn := fun _ => fun
  | [d] => { results := [.lit (.bool false)], args := [d] }
  | _ => none }
def FnExactTurnZWrongFalsely : Prop := fnExactTurnZRow.holds Try.pinned (OpenSpec.ofChange fnExactTurnZWrong)

/-- 'laws.FnExactOrdersOf': WHATEVER THE INPUT: true; the input reads as it did. -/
def fnExactOrdersOfSpec : ChangeSpec := { name := "fnExactOrdersOf", fn := fun _ => fun
  | [d] => { results := [.lit (.bool true)], args := [d] }
  | _ => none }
def fnExactOrdersOfRow : OpenClaim := { program := "ytgaabcgdfbgchaa", sum := "c9b9d746af908434b3436e8b3b354118ec55621f205bc1bc30349c6bac902d87", func := "loop.example/g00057/laws.FnExactOrdersOf", spec := "fnExactOrdersOf", inPlace := ["math.sqrt"], apart := false }
def FnExactOrdersOfSaid : Prop := fnExactOrdersOfRow.holds Try.pinned (OpenSpec.ofChange fnExactOrdersOfSpec)

/-- ITS FALSE NEIGHBOUR: 'it returns false'. Refute it at one input. -/
def fnExactOrdersOfWrong : ChangeSpec := { name := "fnExactOrdersOf", fn := fun _ => fun
  | [d] => { results := [.lit (.bool false)], args := [d] }
  | _ => none }
def FnExactOrdersOfWrongFalsely : Prop := fnExactOrdersOfRow.holds Try.pinned (OpenSpec.ofChange fnExactOrdersOfWrong)

/-- 'laws.FnExactPupilAt': WHATEVER THE INPUT: true; the input reads as it did. -/
def fnExactPupilAtSpec : ChangeSpec := { name := "fnExactPupilAt", fn := fun _ => fun
  | [d1, d2] => { results := [.lit (.bool true)], args := [d1, d2] }
  | _ => none }
def fnExactPupilAtRow : OpenClaim := { program := "ytgaabcgdfbgchaa", sum := "c9b9d746af908434b3436e8b3b354118ec55621f205bc1bc30349c6bac902d87", func := "loop.example/g00057/laws.FnExactPupilAt", spec := "fnExactPupilAt", inPlace := ["math.sqrt"], apart := false }
def FnExactPupilAtSaid : Prop := fnExactPupilAtRow.holds Try.pinned (OpenSpec.ofChange fnExactPupilAtSpec)

/-- ITS FALSE NEIGHBOUR: 'it returns false'. Refute it at one input. -/
def fnExactPupilAtWrong : ChangeSpec := { name := "fnExactPupilAt", fn := fun _ => fun
  | [d1, d2] => { results := [.lit (.bool false)], args := [d1, d2] }
  | _ => none }
def FnExactPupilAtWrongFalsely : Prop := fnExactPupilAtRow.holds Try.pinned (OpenSpec.ofChange fnExactPupilAtWrong)

/-- 'laws.FnExactFieldOf': WHATEVER THE INPUT: true; the input reads as it did. -/
def fnExactFieldOfSpec : ChangeSpec := { name := "fnExactFieldOf", fn := fun _ => fun
  | [d1, d2, d3] => { results := [.lit (.bool true)], args := [d1, d2, d3] }
  | _ => none }
def fnExactFieldOfRow : OpenClaim := { program := "ytgaabcgdfbgchaa", sum := "c9b9d746af908434b3436e8b3b354118ec55621f205bc1bc30349c6bac902d87", func := "loop.example/g00057/laws.FnExactFieldOf", spec := "fnExactFieldOf", inPlace := ["math.sqrt"], apart := false }
def FnExactFieldOfSaid : Prop := fnExactFieldOfRow.holds Try.pinned (OpenSpec.ofChange fnExactFieldOfSpec)

/-- ITS FALSE NEIGHBOUR: 'it returns false'. Refute it at one input. -/
def fnExactFieldOfWrong : ChangeSpec := { name := "fnExactFieldOf", fn := fun _ => fun
  | [d1, d2, d3] => { results := [.lit (.bool false)], args := [d1, d2, d3] }
  | _ => none }
def FnExactFieldOfWrongFalsely : Prop := fnExactFieldOfRow.holds Try.pinned (OpenSpec.ofChange fnExactFieldOfWrong)

/-- 'laws.FnExactImageOf': WHATEVER THE INPUT: true; the input reads as it did. -/
def fnExactImageOfSpec : ChangeSpec := { name := "fnExactImageOf", fn := fun _ => fun
  | [d1, d2, d3] => { results := [.lit (.bool true)], args := [d1, d2, d3] }
  | _ => none }
def fnExactImageOfRow : OpenClaim := { program := "ytgaabcgdfbgchaa", sum := "c9b9d746af908434b3436e8b3b354118ec55621f205bc1bc30349c6bac902d87", func := "loop.example/g00057/laws.FnExactImageOf", spec := "fnExactImageOf", inPlace := ["math.sqrt"], apart := false }
def FnExactImageOfSaid : Prop := fnExactImageOfRow.holds Try.pinned (OpenSpec.ofChange fnExactImageOfSpec)

/-- ITS FALSE NEIGHBOUR: 'it returns false'. Refute it at one input. -/
def fnExactImageOfWrong : ChangeSpec := { name := "fnExactImageOf", fn := fun _ => fun
  | [d1, d2, d3] => { results := [.lit (.bool false)], args := [d1, d2, d3] }
  | _ => none }
def FnExactImageOfWrongFalsely : Prop := fnExactImageOfRow.holds Try.pinned (OpenSpec.ofChange fnExactImageOfWrong)

/- THE SECOND FORM. 'bulk': how many values and letters a reading holds, each counted each time it is reached (what is shared counts as often as it is met; a slice's spare places count too). A statement '..UptoSaid' is the law's where the arguments, and the package variables that the reading takes, are together of bulk at most 1048576: NARROWER than '..Said'. Prove '..Said' where nothing that the law and all that it calls make is longer than what came in: it says more and counts as full. Else prove '..UptoSaid'. A law counts once. -/
mutual
def uptoBulk {H : Type} : DataW H → Nat
  | .lit (.string bytes) => bytes.length + 1
  | .lit _ => 1
  | .nil => 1
  | .ptr d => uptoBulk d + 1
  | .slice elems spare => uptoBulkAll elems + uptoBulkAll spare + 1
  | .agg parts => uptoBulkAll parts + 1
  | .iface _ d => uptoBulk d + 1
  | .map entries => uptoBulkEntries entries + 1
  | .held _ => 1
def uptoBulkAll {H : Type} : List (DataW H) → Nat
  | [] => 0
  | d :: r => uptoBulk d + uptoBulkAll r
def uptoBulkEntries {H : Type} : List (Lit × DataW H) → Nat
  | [] => 0
  | x :: r => uptoBulkEntry x + uptoBulkEntries r
def uptoBulkEntry {H : Type} : Lit × DataW H → Nat
  | (.string bytes, d) => bytes.length + uptoBulk d + 1
  | (_, d) => uptoBulk d + 1
 end
def uptoSmall : (H : Type) → List (DataW H) → Bool := fun _ ds => decide (uptoBulkAll ds ≤ 1048576)
def OpenSpec.upto (s : _root_.Go.ChangeSpec) : _root_.Go.OpenSpec := { _root_.Go.OpenSpec.ofChange s with cond := some uptoSmall }

/-- 'laws.FnExactTurnZ', WHERE WHAT IT READS IS OF BULK AT MOST 1048576: true; the input reads as it did. -/
def fnExactTurnZUptoRow : OpenClaim := { program := "ytgaabcgdfbgchaa", sum := "c9b9d746af908434b3436e8b3b354118ec55621f205bc1bc30349c6bac902d87", func := "loop.example/g00057/laws.FnExactTurnZ", spec := "fnExactTurnZ", inPlace := ["math.sqrt"], apart := false, narrowed := true }
def FnExactTurnZUptoSaid : Prop := fnExactTurnZUptoRow.holds Try.pinned (OpenSpec.upto fnExactTurnZSpec)

/-- 'laws.FnExactOrdersOf', WHERE WHAT IT READS IS OF BULK AT MOST 1048576: true; the input reads as it did. -/
def fnExactOrdersOfUptoRow : OpenClaim := { program := "ytgaabcgdfbgchaa", sum := "c9b9d746af908434b3436e8b3b354118ec55621f205bc1bc30349c6bac902d87", func := "loop.example/g00057/laws.FnExactOrdersOf", spec := "fnExactOrdersOf", inPlace := ["math.sqrt"], apart := false, narrowed := true }
def FnExactOrdersOfUptoSaid : Prop := fnExactOrdersOfUptoRow.holds Try.pinned (OpenSpec.upto fnExactOrdersOfSpec)

/-- 'laws.FnExactPupilAt', WHERE WHAT IT READS IS OF BULK AT MOST 1048576: true; the input reads as it did. -/
def fnExactPupilAtUptoRow : OpenClaim := { program := "ytgaabcgdfbgchaa", sum := "c9b9d746af908434b3436e8b3b354118ec55621f205bc1bc30349c6bac902d87", func := "loop.example/g00057/laws.FnExactPupilAt", spec := "fnExactPupilAt", inPlace := ["math.sqrt"], apart := false, narrowed := true }
def FnExactPupilAtUptoSaid : Prop := fnExactPupilAtUptoRow.holds Try.pinned (OpenSpec.upto fnExactPupilAtSpec)

/-- 'laws.FnExactFieldOf', WHERE WHAT IT READS IS OF BULK AT MOST 1048576: true; the input reads as it did. -/
def fnExactFieldOfUptoRow : OpenClaim := { program := "ytgaabcgdfbgchaa", sum := "c9b9d746af908434b3436e8b3b354118ec55621f205bc1bc30349c6bac902d87", func := "loop.example/g00057/laws.FnExactFieldOf", spec := "fnExactFieldOf", inPlace := ["math.sqrt"], apart := false, narrowed := true }
def FnExactFieldOfUptoSaid : Prop := fnExactFieldOfUptoRow.holds Try.pinned (OpenSpec.upto fnExactFieldOfSpec)

/-- 'laws.FnExactImageOf', WHERE WHAT IT READS IS OF BULK AT MOST 1048576: true; the input reads as it did. -/
def fnExactImageOfUptoRow : OpenClaim := { program := "ytgaabcgdfbgchaa", sum := "c9b9d746af908434b3436e8b3b354118ec55621f205bc1bc30349c6bac902d87", func := "loop.example/g00057/laws.FnExactImageOf", spec := "fnExactImageOf", inPlace := ["math.sqrt"], apart := false, narrowed := true }
def FnExactImageOfUptoSaid : Prop := fnExactImageOfUptoRow.holds Try.pinned (OpenSpec.upto fnExactImageOfSpec)

end Rows
end Go.Proofs.Ytgaabcgdfbgchaa
