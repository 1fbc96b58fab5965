/-
  No cell of these rows narrows 'for every input' (looked for: loops, veiled, ifaces, maps, wideKeys, modest, calm, conditions, laid).
  DERIVED. THE GIVEN ROWS OF THIS SEAT. 6 by the template 'for every input the law returns true; each argument reads behind the call as it read before'; 0 by the template 'total and deterministic' (their statements: YtgbbigokbbllgaaTotals.lean).
  GIVEN WITH THE SEED: the statements are not yours to turn. If you find one false, say at which input.
  Laid BY PROGRAM, IN A SANDBOX (cutbox-rows.mjs): the forced cells as the released guide's own fill.sh prints them over the translation 8f0ecd4538548504… (all of the seat's roots in one cut). By AI agents, Wed Nov 11 2026. No macro, syntax, notation, axiom, sorry.
-/
import Derived.Test.YtgbbigokbbllgaaChecked
import GoSem.Claim
import GoSem.ClaimJoined
import GoSem.ClaimMapViews
import Derived.JoinedTies
import Derived.KernelRfl
namespace Go.Proofs.Ytgbbigokbbllgaa
/- THE CELL 'sum', in the pinned program and in every row, IS THE sha256 OF THE DUMP (.gsa) THAT YtgbbigokbbllgaaProg.lean LOADS. Nothing in Lean hashes anything: it is a label: what it is worth is what the hold of that sum in a sandbox is worth. -/
noncomputable def Try.pinned : Pinned := { name := "ytgbbigokbbllgaa", sum := "8f0ecd4538548504caa5b84def4672d77cae16342f7eb03978f32a32c99687ea", checked := Try.checked }
namespace Rows
def none {H : Type} : Left H := { results := [], args := [] }

/-- 'laws.FnExactClusterFault': WHATEVER THE INPUT: true; the input reads as it did. -/
def fnExactClusterFaultSpec : ChangeSpec := { name := "fnExactClusterFault", fn := fun _ => fun
  | [d] => { results := [.lit (.bool true)], args := [d] }
  | _ => none }
def fnExactClusterFaultRow : OpenClaim := { program := "ytgbbigokbbllgaa", sum := "8f0ecd4538548504caa5b84def4672d77cae16342f7eb03978f32a32c99687ea", func := "loop.example/g00057/laws.FnExactClusterFault", spec := "fnExactClusterFault", apart := false }
def FnExactClusterFaultSaid : Prop := fnExactClusterFaultRow.holds Try.pinned (OpenSpec.ofChange fnExactClusterFaultSpec)

/-- ITS FALSE NEIGHBOUR: 'it returns false'. Refute it at one input. -/
def fnExactClusterFaultWrong : ChangeSpec := { name := "fnExactClusterFault", fn := fun _ => fun
  | [d] => { results := [.lit (.bool false)], args := [d] }
  | _ => none }
def FnExactClusterFaultWrongFalsely : Prop := fnExactClusterFaultRow.holds Try.pinned (OpenSpec.ofChange fnExactClusterFaultWrong)

/-- 'laws.FnExactEndOf': WHATEVER THE INPUT: true; the input reads as it did. -/
def fnExactEndOfSpec : ChangeSpec := { name := "fnExactEndOf", fn := fun _ => fun
  | [d1, d2] => { results := [.lit (.bool true)], args := [d1, d2] }
  | _ => none }
def fnExactEndOfRow : OpenClaim := { program := "ytgbbigokbbllgaa", sum := "8f0ecd4538548504caa5b84def4672d77cae16342f7eb03978f32a32c99687ea", func := "loop.example/g00057/laws.FnExactEndOf", spec := "fnExactEndOf", apart := false }
def FnExactEndOfSaid : Prop := fnExactEndOfRow.holds Try.pinned (OpenSpec.ofChange fnExactEndOfSpec)

/-- ITS FALSE NEIGHBOUR: 'it returns false'. Refute it at one input. -/
def fnExactEndOfWrong : ChangeSpec := { name := "fnExactEndOf", fn := fun _ => fun
  | [d1, d2] => { results := [.lit (.bool false)], args := [d1, d2] }
  | _ => none }
def FnExactEndOfWrongFalsely : Prop := fnExactEndOfRow.holds Try.pinned (OpenSpec.ofChange fnExactEndOfWrong)

/-- 'laws.FnExactFleetFault': WHATEVER THE INPUT: true; the input reads as it did. -/
def fnExactFleetFaultSpec : ChangeSpec := { name := "fnExactFleetFault", fn := fun _ => fun
  | [d] => { results := [.lit (.bool true)], args := [d] }
  | _ => none }
def fnExactFleetFaultRow : OpenClaim := { program := "ytgbbigokbbllgaa", sum := "8f0ecd4538548504caa5b84def4672d77cae16342f7eb03978f32a32c99687ea", func := "loop.example/g00057/laws.FnExactFleetFault", spec := "fnExactFleetFault", apart := false }
def FnExactFleetFaultSaid : Prop := fnExactFleetFaultRow.holds Try.pinned (OpenSpec.ofChange fnExactFleetFaultSpec)

/-- ITS FALSE NEIGHBOUR: 'it returns false'. Refute it at one input. -/
def fnExactFleetFaultWrong : ChangeSpec := { name := "fnExactFleetFault", fn := fun _ => fun
  | [d] => { results := [.lit (.bool false)], args := [d] }
  | _ => none }
def FnExactFleetFaultWrongFalsely : Prop := fnExactFleetFaultRow.holds Try.pinned (OpenSpec.ofChange fnExactFleetFaultWrong)

/-- 'laws.FnExactUrgesOf': WHATEVER THE INPUT: true; the input reads as it did. -/
def fnExactUrgesOfSpec : ChangeSpec := { name := "fnExactUrgesOf", fn := fun _ => fun
  | [d] => { results := [.lit (.bool true)], args := [d] }
  | _ => none }
def fnExactUrgesOfRow : OpenClaim := { program := "ytgbbigokbbllgaa", sum := "8f0ecd4538548504caa5b84def4672d77cae16342f7eb03978f32a32c99687ea", func := "loop.example/g00057/laws.FnExactUrgesOf", spec := "fnExactUrgesOf", apart := false }
def FnExactUrgesOfSaid : Prop := fnExactUrgesOfRow.holds Try.pinned (OpenSpec.ofChange fnExactUrgesOfSpec)

/-- ITS FALSE NEIGHBOUR: 'it returns false'. Refute it at one input. -/
def fnExactUrgesOfWrong : ChangeSpec := { name := "fnExactUrgesOf", fn := fun _ => fun
  | [d] => { results := [.lit (.bool false)], args := [d] }
  | _ => none }
def FnExactUrgesOfWrongFalsely : Prop := fnExactUrgesOfRow.holds Try.pinned (OpenSpec.ofChange fnExactUrgesOfWrong)

/-- 'laws.FnExactMoveFleet': WHATEVER THE INPUT: true; the input reads as it did. -/
def fnExactMoveFleetSpec : ChangeSpec := { name := "fnExactMoveFleet", fn := fun _ => fun
  | [d] => { results := [.lit (.bool true)], args := [d] }
  | _ => none }
def fnExactMoveFleetRow : OpenClaim := { program := "ytgbbigokbbllgaa", sum := "8f0ecd4538548504caa5b84def4672d77cae16342f7eb03978f32a32c99687ea", func := "loop.example/g00057/laws.FnExactMoveFleet", spec := "fnExactMoveFleet", apart := false }
def FnExactMoveFleetSaid : Prop := fnExactMoveFleetRow.holds Try.pinned (OpenSpec.ofChange fnExactMoveFleetSpec)

/-- ITS FALSE NEIGHBOUR: 'it returns false'. Refute it at one input. -/
def fnExactMoveFleetWrong : ChangeSpec := { name := "fnExactMoveFleet", fn := fun _ => fun
  | [d] => { results := [.lit (.bool false)], args := [d] }
  | _ => none }
def FnExactMoveFleetWrongFalsely : Prop := fnExactMoveFleetRow.holds Try.pinned (OpenSpec.ofChange fnExactMoveFleetWrong)

/-- 'laws.FnExactRunFleet': WHATEVER THE INPUT: true; the input reads as it did. -/
def fnExactRunFleetSpec : ChangeSpec := { name := "fnExactRunFleet", fn := fun _ => fun
  | [d1, d2] => { results := [.lit (.bool true)], args := [d1, d2] }
  | _ => none }
def fnExactRunFleetRow : OpenClaim := { program := "ytgbbigokbbllgaa", sum := "8f0ecd4538548504caa5b84def4672d77cae16342f7eb03978f32a32c99687ea", func := "loop.example/g00057/laws.FnExactRunFleet", spec := "fnExactRunFleet", apart := false }
def FnExactRunFleetSaid : Prop := fnExactRunFleetRow.holds Try.pinned (OpenSpec.ofChange fnExactRunFleetSpec)

/-- ITS FALSE NEIGHBOUR: 'it returns false'. Refute it at one input. -/
def fnExactRunFleetWrong : ChangeSpec := { name := "fnExactRunFleet", fn := fun _ => fun
  | [d1, d2] => { results := [.lit (.bool false)], args := [d1, d2] }
  | _ => none }
def FnExactRunFleetWrongFalsely : Prop := fnExactRunFleetRow.holds Try.pinned (OpenSpec.ofChange fnExactRunFleetWrong)

/- THE SECOND FORM. 'bulk': how many values and letters a reading holds, each counted each time it is reached (what is shared counts as often as it is met; a slice's spare places count too). A statement '..UptoSaid' is the law's where the arguments, and the package variables that the reading takes, are together of bulk at most 1048576: NARROWER than '..Said'. Prove '..Said' where nothing that the law and all that it calls make is longer than what came in: it says more and counts as full. Else prove '..UptoSaid'. A law counts once. -/
mutual
def uptoBulk {H : Type} : DataW H → Nat
  | .lit (.string bytes) => bytes.length + 1
  | .lit _ => 1
  | .nil => 1
  | .ptr d => uptoBulk d + 1
  | .slice elems spare => uptoBulkAll elems + uptoBulkAll spare + 1
  | .agg parts => uptoBulkAll parts + 1
  | .iface _ d => uptoBulk d + 1
  | .map entries => uptoBulkEntries entries + 1
  | .held _ => 1
def uptoBulkAll {H : Type} : List (DataW H) → Nat
  | [] => 0
  | d :: r => uptoBulk d + uptoBulkAll r
def uptoBulkEntries {H : Type} : List (Lit × DataW H) → Nat
  | [] => 0
  | x :: r => uptoBulkEntry x + uptoBulkEntries r
def uptoBulkEntry {H : Type} : Lit × DataW H → Nat
  | (.string bytes, d) => bytes.length + uptoBulk d + 1
  | (_, d) => uptoBulk d + 1
 end
def uptoSmall : (H : Type) → List (DataW H) → Bool := fun _ ds => decide (uptoBulkAll ds ≤ 1048576)
def OpenSpec.upto (s : _root_.Go.ChangeSpec) : _root_.Go.OpenSpec := { _root_.Go.OpenSpec.ofChange s with cond := some uptoSmall }

/-- 'laws.FnExactClusterFault', WHERE WHAT IT READS IS OF BULK AT MOST 1048576: true; the input reads as it did. -/
def fnExactClusterFaultUptoRow : OpenClaim := { program := "ytgbbigokbbllgaa", sum := "8f0ecd4538548504caa5b84def4672d77cae16342f7eb03978f32a32c99687ea", func := "loop.example/g00057/laws.FnExactClusterFault", spec := "fnExactClusterFault", apart := false, narrowed := true }
def FnExactClusterFaultUptoSaid : Prop := fnExactClusterFaultUptoRow.holds Try.pinned (OpenSpec.upto fnExactClusterFaultSpec)

/-- 'laws.FnExactEndOf', WHERE WHAT IT READS IS OF BULK AT MOST 1048576: true; the input reads as it did. -/
def fnExactEndOfUptoRow : OpenClaim := { program := "ytgbbigokbbllgaa", sum := "8f0ecd4538548504caa5b84def4672d77cae16342f7eb03978f32a32c99687ea", func := "loop.example/g00057/laws.FnExactEndOf", spec := "fnExactEndOf", apart := false, narrowed := true }
def FnExactEndOfUptoSaid : Prop := fnExactEndOfUptoRow.holds Try.pinned (OpenSpec.upto fnExactEndOfSpec)

/-- 'laws.FnExactFleetFault', WHERE WHAT IT READS IS OF BULK AT MOST 1048576: true; the input reads as it did. -/
def fnExactFleetFaultUptoRow : OpenClaim := { program := "ytgbbigokbbllgaa", sum := "8f0ecd4538548504caa5b84def4672d77cae16342f7eb03978f32a32c99687ea", func := "loop.example/g00057/laws.FnExactFleetFault", spec := "fnExactFleetFault", apart := false, narrowed := true }
def FnExactFleetFaultUptoSaid : Prop := fnExactFleetFaultUptoRow.holds Try.pinned (OpenSpec.upto fnExactFleetFaultSpec)

/-- 'laws.FnExactUrgesOf', WHERE WHAT IT READS IS OF BULK AT MOST 1048576: true; the input reads as it did. -/
def fnExactUrgesOfUptoRow : OpenClaim := { program := "ytgbbigokbbllgaa", sum := "8f0ecd4538548504caa5b84def4672d77cae16342f7eb03978f32a32c99687ea", func := "loop.example/g00057/laws.FnExactUrgesOf", spec := "fnExactUrgesOf", apart := false, narrowed := true }
def FnExactUrgesOfUptoSaid : Prop := fnExactUrgesOfUptoRow.holds Try.pinned (OpenSpec.upto fnExactUrgesOfSpec)

/-- 'laws.FnExactMoveFleet', WHERE WHAT IT READS IS OF BULK AT MOST 1048576: true; the input reads as it did. -/
def fnExactMoveFleetUptoRow : OpenClaim := { program := "ytgbbigokbbllgaa", sum := "8f0ecd4538548504caa5b84def4672d77cae16342f7eb03978f32a32c99687ea", func := "loop.example/g00057/laws.FnExactMoveFleet", spec := "fnExactMoveFleet", apart := false, narrowed := true }
def FnExactMoveFleetUptoSaid : Prop := fnExactMoveFleetUptoRow.holds Try.pinned (OpenSpec.upto fnExactMoveFleetSpec)

/-- 'laws.FnExactRunFleet', WHERE WHAT IT READS IS OF BULK AT MOST 1048576: true; the input reads as it did. -/
def fnExactRunFleetUptoRow : OpenClaim := { program := "ytgbbigokbbllgaa", sum := "8f0ecd4538548504caa5b84def4672d77cae16342f7eb03978f32a32c99687ea", func := "loop.example/g00057/laws.FnExactRunFleet", spec := "fnExactRunFleet", apart := false, narrowed := true }
def FnExactRunFleetUptoSaid : Prop := fnExactRunFleetUptoRow.holds Try.pinned (OpenSpec.upto fnExactRunFleetSpec)

end Rows
end Go.Proofs.Ytgbbigokbbllgaa
