/-
  No cell of these rows narrows 'for every input' (looked for: loops, veiled, ifaces, maps, wideKeys, modest, calm, conditions, laid).
  DERIVED. THE GIVEN ROWS OF THIS SEAT. 5 by the template 'for every input the law returns true; each argument reads behind the call as it read before'; 0 by the template 'total and deterministic' (their statements: YtkbbhdnaemjamaaTotals.lean).
  GIVEN WITH THE SEED: the statements are not yours to turn. If you find one false, say at which input.
  Laid BY PROGRAM, IN A SANDBOX (cutbox-rows.mjs): the forced cells as the released guide's own fill.sh prints them over the translation 4044b3dacabf9378… (all of the seat's roots in one cut). By AI agents, Wed Nov 11 2026. No macro, syntax, notation, axiom, sorry.
-/
import Derived.Test.YtkbbhdnaemjamaaChecked
import GoSem.Claim
import GoSem.ClaimJoined
import GoSem.ClaimMapViews
import Derived.JoinedTies
import Derived.KernelRfl
namespace Go.Proofs.Ytkbbhdnaemjamaa
/- THE CELL 'sum', in the pinned program and in every row, IS THE sha256 OF THE DUMP (.gsa) THAT YtkbbhdnaemjamaaProg.lean LOADS. Nothing in Lean hashes anything: it is a label: what it is worth is what the hold of that sum in a sandbox is worth. -/
noncomputable def Try.pinned : Pinned := { name := "ytkbbhdnaemjamaa", sum := "4044b3dacabf93785c917ef30d647c429c55a1cc3f2e82422502ef11c83e8400", checked := Try.checked }
namespace Rows
def none {H : Type} : Left H := { results := [], args := [] }

/-- 'laws.FnExactShotsFault': WHATEVER THE INPUT: true; the input reads as it did. -/
def fnExactShotsFaultSpec : ChangeSpec := { name := "fnExactShotsFault", fn := fun _ => fun
  | [d] => { results := [.lit (.bool true)], args := [d] }
  | _ => none }
def fnExactShotsFaultRow : OpenClaim := { program := "ytkbbhdnaemjamaa", sum := "4044b3dacabf93785c917ef30d647c429c55a1cc3f2e82422502ef11c83e8400", func := "loop.example/g00057/laws.FnExactShotsFault", spec := "fnExactShotsFault", apart := false }
def FnExactShotsFaultSaid : Prop := fnExactShotsFaultRow.holds Try.pinned (OpenSpec.ofChange fnExactShotsFaultSpec)

/-- ITS FALSE NEIGHBOUR: 'it returns false'. Refute it at one input. -/
def fnExactShotsFaultWrong : ChangeSpec := { name := "fnExactShotsFault", fn := fun _ => fun
  | [d] => { results := [.lit (.bool false)], args := [d] }
  | _ => none }
def FnExactShotsFaultWrongFalsely : Prop := fnExactShotsFaultRow.holds Try.pinned (OpenSpec.ofChange fnExactShotsFaultWrong)

/-- 'laws.FnExactWriterFault': WHATEVER THE INPUT: true; the input reads as it did. -/
def fnExactWriterFaultSpec : ChangeSpec := { name := "fnExactWriterFault", fn := fun _ => fun
  | [d] => { results := [.lit (.bool true)], args := [d] }
  | _ => none }
def fnExactWriterFaultRow : OpenClaim := { program := "ytkbbhdnaemjamaa", sum := "4044b3dacabf93785c917ef30d647c429c55a1cc3f2e82422502ef11c83e8400", func := "loop.example/g00057/laws.FnExactWriterFault", spec := "fnExactWriterFault", apart := false }
def FnExactWriterFaultSaid : Prop := fnExactWriterFaultRow.holds Try.pinned (OpenSpec.ofChange fnExactWriterFaultSpec)

/-- ITS FALSE NEIGHBOUR: 'it returns false'. Refute it at one input. -/
def fnExactWriterFaultWrong : ChangeSpec := { name := "fnExactWriterFault", fn := fun _ => fun
  | [d] => { results := [.lit (.bool false)], args := [d] }
  | _ => none }
def FnExactWriterFaultWrongFalsely : Prop := fnExactWriterFaultRow.holds Try.pinned (OpenSpec.ofChange fnExactWriterFaultWrong)

/-- 'laws.FnExactFracture': WHATEVER THE INPUT: true; the input reads as it did. -/
def fnExactFractureSpec : ChangeSpec := { name := "fnExactFracture", fn := fun _ => fun
  | [d1, d2] => { results := [.lit (.bool true)], args := [d1, d2] }
  | _ => none }
def fnExactFractureRow : OpenClaim := { program := "ytkbbhdnaemjamaa", sum := "4044b3dacabf93785c917ef30d647c429c55a1cc3f2e82422502ef11c83e8400", func := "loop.example/g00057/laws.FnExactFracture", spec := "fnExactFracture", apart := false }
def FnExactFractureSaid : Prop := fnExactFractureRow.holds Try.pinned (OpenSpec.ofChange fnExactFractureSpec)

/-- ITS FALSE NEIGHBOUR: 'it returns false'. Refute it at one input. -/
def fnExactFractureWrong : ChangeSpec := { name := "fnExactFracture", fn := fun _ => fun
  | [d1, d2] => { results := [.lit (.bool false)], args := [d1, d2] }
  | _ => none }
def FnExactFractureWrongFalsely : Prop := fnExactFractureRow.holds Try.pinned (OpenSpec.ofChange fnExactFractureWrong)

/-- 'laws.FnExactCheckShots': WHATEVER THE INPUT: true; the input reads as it did. -/
def fnExactCheckShotsSpec : ChangeSpec := { name := "fnExactCheckShots", fn := fun _ => fun
  | [d1, d2] => { results := [.lit (.bool true)], args := [d1, d2] }
  | _ => none }
def fnExactCheckShotsRow : OpenClaim := { program := "ytkbbhdnaemjamaa", sum := "4044b3dacabf93785c917ef30d647c429c55a1cc3f2e82422502ef11c83e8400", func := "loop.example/g00057/laws.FnExactCheckShots", spec := "fnExactCheckShots", unfollowed := true, recurses := true, apart := false }
def FnExactCheckShotsSaid : Prop := fnExactCheckShotsRow.holds Try.pinned (OpenSpec.ofChange fnExactCheckShotsSpec)

/-- ITS FALSE NEIGHBOUR: 'it returns false'. Refute it at one input. -/
def fnExactCheckShotsWrong : ChangeSpec := { name := "fnExactCheckShots", fn := fun _ => fun
  | [d1, d2] => { results := [.lit (.bool false)], args := [d1, d2] }
  | _ => none }
def FnExactCheckShotsWrongFalsely : Prop := fnExactCheckShotsRow.holds Try.pinned (OpenSpec.ofChange fnExactCheckShotsWrong)

/-- 'laws.FnExactDoseMap': WHATEVER THE INPUT: true; the input reads as it did. -/
def fnExactDoseMapSpec : ChangeSpec := { name := "fnExactDoseMap", fn := fun _ => fun
  | [d1, d2] => { results := [.lit (.bool true)], args := [d1, d2] }
  | _ => none }
def fnExactDoseMapRow : OpenClaim := { program := "ytkbbhdnaemjamaa", sum := "4044b3dacabf93785c917ef30d647c429c55a1cc3f2e82422502ef11c83e8400", func := "loop.example/g00057/laws.FnExactDoseMap", spec := "fnExactDoseMap", apart := false }
def FnExactDoseMapSaid : Prop := fnExactDoseMapRow.holds Try.pinned (OpenSpec.ofChange fnExactDoseMapSpec)

/-- ITS FALSE NEIGHBOUR: 'it returns false'. Refute it at one input. -/
def fnExactDoseMapWrong : ChangeSpec := { name := "fnExactDoseMap", fn := fun _ => fun
  | [d1, d2] => { results := [.lit (.bool false)], args := [d1, d2] }
  | _ => none }
def FnExactDoseMapWrongFalsely : Prop := fnExactDoseMapRow.holds Try.pinned (OpenSpec.ofChange fnExactDoseMapWrong)

/- THE SECOND FORM. 'bulk': how many values and letters a reading holds, each counted each time it is reached (what is shared counts as often as it is met; a slice's spare places count too). A statement '..UptoSaid' is the law's where the arguments, and the package variables that the reading takes, are together of bulk at most 1048576: NARROWER than '..Said'. Prove '..Said' where nothing that the law and all that it calls make is longer than what came in: it says more and counts as full. Else prove '..UptoSaid'. A law counts once. -/
mutual
def uptoBulk {H : Type} : DataW H → Nat
  | .lit (.string bytes) => bytes.length + 1
  | .lit _ => 1
  | .nil => 1
  | .ptr d => uptoBulk d + 1
  | .slice elems spare => uptoBulkAll elems + uptoBulkAll spare + 1
  | .agg parts => uptoBulkAll parts + 1
  | .iface _ d => uptoBulk d + 1
  | .map entries => uptoBulkEntries entries + 1
  | .held _ => 1
def uptoBulkAll {H : Type} : List (DataW H) → Nat
  | [] => 0
  | d :: r => uptoBulk d + uptoBulkAll r
def uptoBulkEntries {H : Type} : List (Lit × DataW H) → Nat
  | [] => 0
  | x :: r => uptoBulkEntry x + uptoBulkEntries r
def uptoBulkEntry {H : Type} : Lit × DataW H → Nat
  | (.string bytes, d) => bytes.length + uptoBulk d + 1
  | (_, d) => uptoBulk d + 1
 end
def uptoSmall : (H : Type) → List (DataW H) → Bool := fun _ ds => decide (uptoBulkAll ds ≤ 1048576)
def OpenSpec.upto (s : _root_.Go.ChangeSpec) : _root_.Go.OpenSpec := { _root_.Go.OpenSpec.ofChange s with cond := some uptoSmall }

/-- 'laws.FnExactShotsFault', WHERE WHAT IT READS IS OF BULK AT MOST 1048576: true; the input reads as it did. -/
def fnExactShotsFaultUptoRow : OpenClaim := { program := "ytkbbhdnaemjamaa", sum := "4044b3dacabf93785c917ef30d647c429c55a1cc3f2e82422502ef11c83e8400", func := "loop.example/g00057/laws.FnExactShotsFault", spec := "fnExactShotsFault", apart := false, narrowed := true }
def FnExactShotsFaultUptoSaid : Prop := fnExactShotsFaultUptoRow.holds Try.pinned (OpenSpec.upto fnExactShotsFaultSpec)

/-- 'laws.FnExactWriterFault', WHERE WHAT IT READS IS OF BULK AT MOST 1048576: true; the input reads as it did. -/
def fnExactWriterFaultUptoRow : OpenClaim := { program := "ytkbbhdnaemjamaa", sum := "4044b3dacabf93785c917ef30d647c429c55a1cc3f2e82422502ef11c83e8400", func := "loop.example/g00057/laws.FnExactWriterFault", spec := "fnExactWriterFault", apart := false, narrowed := true }
def FnExactWriterFaultUptoSaid : Prop := fnExactWriterFaultUptoRow.holds Try.pinned (OpenSpec.upto fnExactWriterFaultSpec)

/-- 'laws.FnExactFracture', WHERE WHAT IT READS IS OF BULK AT MOST 1048576: true; the input reads as it did. -/
def fnExactFractureUptoRow : OpenClaim := { program := "ytkbbhdnaemjamaa", sum := "4044b3dacabf93785c917ef30d647c429c55a1cc3f2e82422502ef11c83e8400", func := "loop.example/g00057/laws.FnExactFracture", spec := "fnExactFracture", apart := false, narrowed := true }
def FnExactFractureUptoSaid : Prop := fnExactFractureUptoRow.holds Try.pinned (OpenSpec.upto fnExactFractureSpec)

/-- 'laws.FnExactCheckShots', WHERE WHAT IT READS IS OF BULK AT MOST 1048576: true; the input reads as it did. -/
def fnExactCheckShotsUptoRow : OpenClaim := { program := "ytkbbhdnaemjamaa", sum := "4044b3dacabf93785c917ef30d647c429c55a1cc3f2e82422502ef11c83e8400", func := "loop.example/g00057/laws.FnExactCheckShots", spec := "fnExactCheckShots", unfollowed := true, recurses := true, apart := false, narrowed := true }
def FnExactCheckShotsUptoSaid : Prop := fnExactCheckShotsUptoRow.holds Try.pinned (OpenSpec.upto fnExactCheckShotsSpec)

/-- 'laws.FnExactDoseMap', WHERE WHAT IT READS IS OF BULK AT MOST 1048576: true; the input reads as it did. -/
def fnExactDoseMapUptoRow : OpenClaim := { program := "ytkbbhdnaemjamaa", sum := "4044b3dacabf93785c917ef30d647c429c55a1cc3f2e82422502ef11c83e8400", func := "loop.example/g00057/laws.FnExactDoseMap", spec := "fnExactDoseMap", apart := false, narrowed := true }
def FnExactDoseMapUptoSaid : Prop := fnExactDoseMapUptoRow.holds Try.pinned (OpenSpec.upto fnExactDoseMapSpec)

end Rows
end Go.Proofs.Ytkbbhdnaemjamaa
