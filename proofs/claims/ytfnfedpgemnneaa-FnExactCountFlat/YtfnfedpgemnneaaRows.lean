/-
  No cell of these rows narrows 'for every input' (looked for: loops, veiled, ifaces, maps, wideKeys, modest, calm, conditions, laid).
  DERIVED. THE GIVEN ROWS OF THIS SEAT. 5 by the template 'for every input the law returns true; each argument reads behind the call as it read before'; 0 by the template 'total and deterministic' (their statements: YtfnfedpgemnneaaTotals.lean).
  GIVEN WITH THE SEED: the statements are not yours to turn. If you find one false, say at which input.
  Laid BY PROGRAM, IN A SANDBOX (cutbox-rows.mjs): the forced cells as the released guide's own fill.sh prints them over the translation b7148ffdae74498d… (all of the seat's roots in one cut). By AI agents, Wed Nov 11 2026. No macro, syntax, notation, axiom, sorry.
-/
import Derived.Test.YtfnfedpgemnneaaChecked
import GoSem.Claim
import GoSem.ClaimJoined
import GoSem.ClaimMapViews
import Derived.JoinedTies
import Derived.KernelRfl
namespace Go.Proofs.Ytfnfedpgemnneaa
/- THE CELL 'sum', in the pinned program and in every row, IS THE sha256 OF THE DUMP (.gsa) THAT YtfnfedpgemnneaaProg.lean LOADS. Nothing in Lean hashes anything: it is a label: what it is worth is what the hold of that sum in a sandbox is worth. -/
noncomputable def Try.pinned : Pinned := { name := "ytfnfedpgemnneaa", sum := "b7148ffdae74498d0566bde54429b199f8a46de4d5acfd57f82245acc48ab8a3", checked := Try.checked }
namespace Rows
def none {H : Type} : Left H := { results := [], args := [] }

/-- 'laws.FnExactLibFault': WHATEVER THE INPUT: true; the input reads as it did. -/
def fnExactLibFaultSpec : ChangeSpec := { name := "fnExactLibFault", fn := fun _ => fun
  | [d] => { results := [.lit (.bool true)], args := [d] }
  | _ => none }
def fnExactLibFaultRow : OpenClaim := { program := "ytfnfedpgemnneaa", sum := "b7148ffdae74498d0566bde54429b199f8a46de4d5acfd57f82245acc48ab8a3", func := "loop.example/g00057/laws.FnExactLibFault", spec := "fnExactLibFault", apart := false }
def FnExactLibFaultSaid : Prop := fnExactLibFaultRow.holds Try.pinned (OpenSpec.ofChange fnExactLibFaultSpec)

/-- ITS FALSE NEIGHBOUR: 'it returns false'. Refute it at one input. -/
def fnExactLibFaultWrong : ChangeSpec := { name := "fnExactLibFault", fn := fun _ => fun
  | [d] => { results := [.lit (.bool false)], args := [d] }
  | _ => none }
def FnExactLibFaultWrongFalsely : Prop := fnExactLibFaultRow.holds Try.pinned (OpenSpec.ofChange fnExactLibFaultWrong)

/-- 'laws.FnExactCountFlat': WHATEVER THE INPUT: true; the input reads as it did. -/
def fnExactCountFlatSpec : ChangeSpec := { name := "fnExactCountFlat", fn := fun _ => fun
  | [d1, d2] => { results := [.lit (.bool true)], args := [d1, d2] }
  | _ => none }
def fnExactCountFlatRow : OpenClaim := { program := "ytfnfedpgemnneaa", sum := "b7148ffdae74498d0566bde54429b199f8a46de4d5acfd57f82245acc48ab8a3", func := "loop.example/g00057/laws.FnExactCountFlat", spec := "fnExactCountFlat", apart := false }
def FnExactCountFlatSaid : Prop := fnExactCountFlatRow.holds Try.pinned (OpenSpec.ofChange fnExactCountFlatSpec)

/-- ITS FALSE NEIGHBOUR: 'it returns false'. Refute it at one input. -/
def fnExactCountFlatWrong : ChangeSpec := { name := "fnExactCountFlat", fn := fun _ => fun
  | [d1, d2] => { results := [.lit (.bool false)], args := [d1, d2] }
  | _ => none }
def FnExactCountFlatWrongFalsely : Prop := fnExactCountFlatRow.holds Try.pinned (OpenSpec.ofChange fnExactCountFlatWrong)

/-- 'laws.FnExactFlatten': WHATEVER THE INPUT: true; the input reads as it did. -/
def fnExactFlattenSpec : ChangeSpec := { name := "fnExactFlatten", fn := fun _ => fun
  | [d1, d2] => { results := [.lit (.bool true)], args := [d1, d2] }
  | _ => none }
def fnExactFlattenRow : OpenClaim := { program := "ytfnfedpgemnneaa", sum := "b7148ffdae74498d0566bde54429b199f8a46de4d5acfd57f82245acc48ab8a3", func := "loop.example/g00057/laws.FnExactFlatten", spec := "fnExactFlatten", apart := false }
def FnExactFlattenSaid : Prop := fnExactFlattenRow.holds Try.pinned (OpenSpec.ofChange fnExactFlattenSpec)

/-- ITS FALSE NEIGHBOUR: 'it returns false'. Refute it at one input. -/
def fnExactFlattenWrong : ChangeSpec := { name := "fnExactFlatten", fn := fun _ => fun
  | [d1, d2] => { results := [.lit (.bool false)], args := [d1, d2] }
  | _ => none }
def FnExactFlattenWrongFalsely : Prop := fnExactFlattenRow.holds Try.pinned (OpenSpec.ofChange fnExactFlattenWrong)

/-- 'laws.FnExactDepthOf': WHATEVER THE INPUT: true; the input reads as it did. -/
def fnExactDepthOfSpec : ChangeSpec := { name := "fnExactDepthOf", fn := fun _ => fun
  | [d1, d2] => { results := [.lit (.bool true)], args := [d1, d2] }
  | _ => none }
def fnExactDepthOfRow : OpenClaim := { program := "ytfnfedpgemnneaa", sum := "b7148ffdae74498d0566bde54429b199f8a46de4d5acfd57f82245acc48ab8a3", func := "loop.example/g00057/laws.FnExactDepthOf", spec := "fnExactDepthOf", apart := false }
def FnExactDepthOfSaid : Prop := fnExactDepthOfRow.holds Try.pinned (OpenSpec.ofChange fnExactDepthOfSpec)

/-- ITS FALSE NEIGHBOUR: 'it returns false'. Refute it at one input. -/
def fnExactDepthOfWrong : ChangeSpec := { name := "fnExactDepthOf", fn := fun _ => fun
  | [d1, d2] => { results := [.lit (.bool false)], args := [d1, d2] }
  | _ => none }
def FnExactDepthOfWrongFalsely : Prop := fnExactDepthOfRow.holds Try.pinned (OpenSpec.ofChange fnExactDepthOfWrong)

/-- 'laws.FnExactTopsOf': WHATEVER THE INPUT: true; the input reads as it did. -/
def fnExactTopsOfSpec : ChangeSpec := { name := "fnExactTopsOf", fn := fun _ => fun
  | [d] => { results := [.lit (.bool true)], args := [d] }
  | _ => none }
def fnExactTopsOfRow : OpenClaim := { program := "ytfnfedpgemnneaa", sum := "b7148ffdae74498d0566bde54429b199f8a46de4d5acfd57f82245acc48ab8a3", func := "loop.example/g00057/laws.FnExactTopsOf", spec := "fnExactTopsOf", apart := false }
def FnExactTopsOfSaid : Prop := fnExactTopsOfRow.holds Try.pinned (OpenSpec.ofChange fnExactTopsOfSpec)

/-- ITS FALSE NEIGHBOUR: 'it returns false'. Refute it at one input. -/
def fnExactTopsOfWrong : ChangeSpec := { name := "fnExactTopsOf", fn := fun _ => fun
  | [d] => { results := [.lit (.bool false)], args := [d] }
  | _ => none }
def FnExactTopsOfWrongFalsely : Prop := fnExactTopsOfRow.holds Try.pinned (OpenSpec.ofChange fnExactTopsOfWrong)

/- THE SECOND FORM. 'bulk': how many values and letters a reading holds, each counted each time it is reached (what is shared counts as often as it is met; a slice's spare places count too). A statement '..UptoSaid' is the law's where the arguments, and the package variables that the reading takes, are together of bulk at most 1048576: NARROWER than '..Said'. Prove '..Said' where nothing that the law and all that it calls make is longer than what came in: it says more and counts as full. Else prove '..UptoSaid'. A law counts once. -/
mutual
def uptoBulk {H : Type} : DataW H → Nat
  | .lit (.string bytes) => bytes.length + 1
  | .lit _ => 1
  | .nil => 1
  | .ptr d => uptoBulk d + 1
  | .slice elems spare => uptoBulkAll elems + uptoBulkAll spare + 1
  | .agg parts => uptoBulkAll parts + 1
  | .iface _ d => uptoBulk d + 1
  | .map entries => uptoBulkEntries entries + 1
  | .held _ => 1
def uptoBulkAll {H : Type} : List (DataW H) → Nat
  | [] => 0
  | d :: r => uptoBulk d + uptoBulkAll r
def uptoBulkEntries {H : Type} : List (Lit × DataW H) → Nat
  | [] => 0
  | x :: r => uptoBulkEntry x + uptoBulkEntries r
def uptoBulkEntry {H : Type} : Lit × DataW H → Nat
  | (.string bytes, d) => bytes.length + uptoBulk d + 1
  | (_, d) => uptoBulk d + 1
 end
def uptoSmall : (H : Type) → List (DataW H) → Bool := fun _ ds => decide (uptoBulkAll ds ≤ 1048576)
def OpenSpec.upto (s : _root_.Go.ChangeSpec) : _root_.Go.OpenSpec := { _root_.Go.OpenSpec.ofChange s with cond := some uptoSmall }

/-- 'laws.FnExactLibFault', WHERE WHAT IT READS IS OF BULK AT MOST 1048576: true; the input reads as it did. -/
def fnExactLibFaultUptoRow : OpenClaim := { program := "ytfnfedpgemnneaa", sum := "b7148ffdae74498d0566bde54429b199f8a46de4d5acfd57f82245acc48ab8a3", func := "loop.example/g00057/laws.FnExactLibFault", spec := "fnExactLibFault", apart := false, narrowed := true }
def FnExactLibFaultUptoSaid : Prop := fnExactLibFaultUptoRow.holds Try.pinned (OpenSpec.upto fnExactLibFaultSpec)

/-- 'laws.FnExactCountFlat', WHERE WHAT IT READS IS OF BULK AT MOST 1048576: true; the input reads as it did. -/
def fnExactCountFlatUptoRow : OpenClaim := { program := "ytfnfedpgemnneaa", sum := "b7148ffdae74498d0566bde54429b199f8a46de4d5acfd57f82245acc48ab8a3", func := "loop.example/g00057/laws.FnExactCountFlat", spec := "fnExactCountFlat", apart := false, narrowed := true }
def FnExactCountFlatUptoSaid : Prop := fnExactCountFlatUptoRow.holds Try.pinned (OpenSpec.upto fnExactCountFlatSpec)

/-- 'laws.FnExactFlatten', WHERE WHAT IT READS IS OF BULK AT MOST 1048576: true; the input reads as it did. -/
def fnExactFlattenUptoRow : OpenClaim := { program := "ytfnfedpgemnneaa", sum := "b7148ffdae74498d0566bde54429b199f8a46de4d5acfd57f82245acc48ab8a3", func := "loop.example/g00057/laws.FnExactFlatten", spec := "fnExactFlatten", apart := false, narrowed := true }
def FnExactFlattenUptoSaid : Prop := fnExactFlattenUptoRow.holds Try.pinned (OpenSpec.upto fnExactFlattenSpec)

/-- 'laws.FnExactDepthOf', WHERE WHAT IT READS IS OF BULK AT MOST 1048576: true; the input reads as it did. -/
def fnExactDepthOfUptoRow : OpenClaim := { program := "ytfnfedpgemnneaa", sum := "b7148ffdae74498d0566bde54429b199f8a46de4d5acfd57f82245acc48ab8a3", func := "loop.example/g00057/laws.FnExactDepthOf", spec := "fnExactDepthOf", apart := false, narrowed := true }
def FnExactDepthOfUptoSaid : Prop := fnExactDepthOfUptoRow.holds Try.pinned (OpenSpec.upto fnExactDepthOfSpec)

/-- 'laws.FnExactTopsOf', WHERE WHAT IT READS IS OF BULK AT MOST 1048576: true; the input reads as it did. -/
def fnExactTopsOfUptoRow : OpenClaim := { program := "ytfnfedpgemnneaa", sum := "b7148ffdae74498d0566bde54429b199f8a46de4d5acfd57f82245acc48ab8a3", func := "loop.example/g00057/laws.FnExactTopsOf", spec := "fnExactTopsOf", apart := false, narrowed := true }
def FnExactTopsOfUptoSaid : Prop := fnExactTopsOfUptoRow.holds Try.pinned (OpenSpec.upto fnExactTopsOfSpec)

end Rows
end Go.Proofs.Ytfnfedpgemnneaa
