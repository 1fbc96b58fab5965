/-
  No cell of these rows narrows 'for every input' (looked for: loops, veiled, ifaces, maps, wideKeys, modest, calm, conditions, laid).
  DERIVED. THE GIVEN ROWS OF THIS SEAT. 6 by the template 'for every input the law returns true; each argument reads behind the call as it read before'; 0 by the template 'total and deterministic' (their statements: YtokdpgabmifdjaaTotals.lean).
  GIVEN WITH THE SEED: the statements are not yours to turn. If you find one false, say at which input.
  Laid BY PROGRAM, IN A SANDBOX (cutbox-rows.mjs): the forced cells as the released guide's own fill.sh prints them over the translation 3a865e32649d444f… (all of the seat's roots in one cut). By AI agents, Wed Nov 11 2026. No macro, syntax, notation, axiom, sorry.
-/
import Derived.Test.YtokdpgabmifdjaaChecked
import GoSem.Claim
import GoSem.ClaimJoined
import GoSem.ClaimMapViews
import Derived.JoinedTies
import Derived.KernelRfl
namespace Go.Proofs.Ytokdpgabmifdjaa
/- THE CELL 'sum', in the pinned program and in every row, IS THE sha256 OF THE DUMP (.gsa) THAT YtokdpgabmifdjaaProg.lean LOADS. Nothing in Lean hashes anything: it is a label: what it is worth is what the hold of that sum in a sandbox is worth. -/
noncomputable def Try.pinned : Pinned := { name := "ytokdpgabmifdjaa", sum := "3a865e32649d444f33f65e50c2fcfa969780de73e65a5e0c050f715cfd0ae0e7", checked := Try.checked }
namespace Rows
def none {H : Type} : Left H := { results := [], args := [] }

/-- 'laws.FnExactRimOf': WHATEVER THE INPUT: true; the input reads as it did. -/
def fnExactRimOfSpec : ChangeSpec := { name := "fnExactRimOf", fn := fun _ => fun
  | [d] => { results := [.lit (.bool true)], args := [d] }
  | _ => none }
def fnExactRimOfRow : OpenClaim := { program := "ytokdpgabmifdjaa", sum := "3a865e32649d444f33f65e50c2fcfa969780de73e65a5e0c050f715cfd0ae0e7", func := "loop.example/g00057/laws.FnExactRimOf", spec := "fnExactRimOf", apart := false }
def FnExactRimOfSaid : Prop := fnExactRimOfRow.holds Try.pinned (OpenSpec.ofChange fnExactRimOfSpec)

/-- ITS FALSE NEIGHBOUR: 'it returns false'. Refute it at one input. -/
def fnExactRimOfWrong : ChangeSpec := { name := "fnExactRimOf", fn := fun _ => fun
  | [d] => { results := [.lit (.bool false)], args := [d] }
  | _ => none }
def FnExactRimOfWrongFalsely : Prop := fnExactRimOfRow.holds Try.pinned (OpenSpec.ofChange fnExactRimOfWrong)

/-- 'laws.FnExactTurnShape': WHATEVER THE INPUT: true; the input reads as it did. -/
def fnExactTurnShapeSpec : ChangeSpec := { name := "fnExactTurnShape", fn := fun _ => fun
  | [d1, d2] => { results := [.lit (.bool true)], args := [d1, d2] }
  | _ => none }
def fnExactTurnShapeRow : OpenClaim := { program := "ytokdpgabmifdjaa", sum := "3a865e32649d444f33f65e50c2fcfa969780de73e65a5e0c050f715cfd0ae0e7", func := "loop.example/g00057/laws.FnExactTurnShape", spec := "fnExactTurnShape", unfollowed := true, recurses := true, apart := false }
def FnExactTurnShapeSaid : Prop := fnExactTurnShapeRow.holds Try.pinned (OpenSpec.ofChange fnExactTurnShapeSpec)

/-- ITS FALSE NEIGHBOUR: 'it returns false'. Refute it at one input. -/
def fnExactTurnShapeWrong : ChangeSpec := { name := "fnExactTurnShape", fn := fun _ => fun
  | [d1, d2] => { results := [.lit (.bool false)], args := [d1, d2] }
  | _ => none }
def FnExactTurnShapeWrongFalsely : Prop := fnExactTurnShapeRow.holds Try.pinned (OpenSpec.ofChange fnExactTurnShapeWrong)

/-- 'laws.FnExactRulesFault': WHATEVER THE INPUT: true; the input reads as it did. -/
def fnExactRulesFaultSpec : ChangeSpec := { name := "fnExactRulesFault", fn := fun _ => fun
  | [d1, d2] => { results := [.lit (.bool true)], args := [d1, d2] }
  | _ => none }
def fnExactRulesFaultRow : OpenClaim := { program := "ytokdpgabmifdjaa", sum := "3a865e32649d444f33f65e50c2fcfa969780de73e65a5e0c050f715cfd0ae0e7", func := "loop.example/g00057/laws.FnExactRulesFault", spec := "fnExactRulesFault", unfollowed := true, recurses := true, apart := false }
def FnExactRulesFaultSaid : Prop := fnExactRulesFaultRow.holds Try.pinned (OpenSpec.ofChange fnExactRulesFaultSpec)

/-- ITS FALSE NEIGHBOUR: 'it returns false'. Refute it at one input. -/
def fnExactRulesFaultWrong : ChangeSpec := { name := "fnExactRulesFault", fn := fun _ => fun
  | [d1, d2] => { results := [.lit (.bool false)], args := [d1, d2] }
  | _ => none }
def FnExactRulesFaultWrongFalsely : Prop := fnExactRulesFaultRow.holds Try.pinned (OpenSpec.ofChange fnExactRulesFaultWrong)

/-- 'laws.FnExactCoverOf': WHATEVER THE INPUT: true; the input reads as it did. -/
def fnExactCoverOfSpec : ChangeSpec := { name := "fnExactCoverOf", fn := fun _ => fun
  | [d1, d2, d3] => { results := [.lit (.bool true)], args := [d1, d2, d3] }
  | _ => none }
def fnExactCoverOfRow : OpenClaim := { program := "ytokdpgabmifdjaa", sum := "3a865e32649d444f33f65e50c2fcfa969780de73e65a5e0c050f715cfd0ae0e7", func := "loop.example/g00057/laws.FnExactCoverOf", spec := "fnExactCoverOf", unfollowed := true, recurses := true, apart := false }
def FnExactCoverOfSaid : Prop := fnExactCoverOfRow.holds Try.pinned (OpenSpec.ofChange fnExactCoverOfSpec)

/-- ITS FALSE NEIGHBOUR: 'it returns false'. Refute it at one input. -/
def fnExactCoverOfWrong : ChangeSpec := { name := "fnExactCoverOf", fn := fun _ => fun
  | [d1, d2, d3] => { results := [.lit (.bool false)], args := [d1, d2, d3] }
  | _ => none }
def FnExactCoverOfWrongFalsely : Prop := fnExactCoverOfRow.holds Try.pinned (OpenSpec.ofChange fnExactCoverOfWrong)

/-- 'laws.FnExactApartOf': WHATEVER THE INPUT: true; the input reads as it did. -/
def fnExactApartOfSpec : ChangeSpec := { name := "fnExactApartOf", fn := fun _ => fun
  | [d1, d2, d3] => { results := [.lit (.bool true)], args := [d1, d2, d3] }
  | _ => none }
def fnExactApartOfRow : OpenClaim := { program := "ytokdpgabmifdjaa", sum := "3a865e32649d444f33f65e50c2fcfa969780de73e65a5e0c050f715cfd0ae0e7", func := "loop.example/g00057/laws.FnExactApartOf", spec := "fnExactApartOf", unfollowed := true, recurses := true, apart := false }
def FnExactApartOfSaid : Prop := fnExactApartOfRow.holds Try.pinned (OpenSpec.ofChange fnExactApartOfSpec)

/-- ITS FALSE NEIGHBOUR: 'it returns false'. Refute it at one input. -/
def fnExactApartOfWrong : ChangeSpec := { name := "fnExactApartOf", fn := fun _ => fun
  | [d1, d2, d3] => { results := [.lit (.bool false)], args := [d1, d2, d3] }
  | _ => none }
def FnExactApartOfWrongFalsely : Prop := fnExactApartOfRow.holds Try.pinned (OpenSpec.ofChange fnExactApartOfWrong)

/-- 'laws.FnGrown': WHATEVER THE INPUT: true; the input reads as it did. -/
def fnGrownSpec : ChangeSpec := { name := "fnGrown", fn := fun _ => fun
  | [d] => { results := [.lit (.bool true)], args := [d] }
  | _ => none }
def fnGrownRow : OpenClaim := { program := "ytokdpgabmifdjaa", sum := "3a865e32649d444f33f65e50c2fcfa969780de73e65a5e0c050f715cfd0ae0e7", func := "loop.example/g00057/laws.FnGrown", spec := "fnGrown", unfollowed := true, recurses := true, apart := false }
def FnGrownSaid : Prop := fnGrownRow.holds Try.pinned (OpenSpec.ofChange fnGrownSpec)

/-- ITS FALSE NEIGHBOUR: 'it returns false'. Refute it at one input. -/
def fnGrownWrong : ChangeSpec := { name := "fnGrown", fn := fun _ => fun
  | [d] => { results := [.lit (.bool false)], args := [d] }
  | _ => none }
def FnGrownWrongFalsely : Prop := fnGrownRow.holds Try.pinned (OpenSpec.ofChange fnGrownWrong)

/- THE SECOND FORM. 'bulk': how many values and letters a reading holds, each counted each time it is reached (what is shared counts as often as it is met; a slice's spare places count too). A statement '..UptoSaid' is the law's where the arguments, and the package variables that the reading takes, are together of bulk at most 1048576: NARROWER than '..Said'. Prove '..Said' where nothing that the law and all that it calls make is longer than what came in: it says more and counts as full. Else prove '..UptoSaid'. A law counts once. -/
mutual
def uptoBulk {H : Type} : DataW H → Nat
  | .lit (.string bytes) => bytes.length + 1
  | .lit _ => 1
  | .nil => 1
  | .ptr d => uptoBulk d + 1
  | .slice elems spare => uptoBulkAll elems + uptoBulkAll spare + 1
  | .agg parts => uptoBulkAll parts + 1
  | .iface _ d => uptoBulk d + 1
  | .map entries => uptoBulkEntries entries + 1
  | .held _ => 1
def uptoBulkAll {H : Type} : List (DataW H) → Nat
  | [] => 0
  | d :: r => uptoBulk d + uptoBulkAll r
def uptoBulkEntries {H : Type} : List (Lit × DataW H) → Nat
  | [] => 0
  | x :: r => uptoBulkEntry x + uptoBulkEntries r
def uptoBulkEntry {H : Type} : Lit × DataW H → Nat
  | (.string bytes, d) => bytes.length + uptoBulk d + 1
  | (_, d) => uptoBulk d + 1
 end
def uptoSmall : (H : Type) → List (DataW H) → Bool := fun _ ds => decide (uptoBulkAll ds ≤ 1048576)
def OpenSpec.upto (s : _root_.Go.ChangeSpec) : _root_.Go.OpenSpec := { _root_.Go.OpenSpec.ofChange s with cond := some uptoSmall }

/-- 'laws.FnExactRimOf', WHERE WHAT IT READS IS OF BULK AT MOST 1048576: true; the input reads as it did. -/
def fnExactRimOfUptoRow : OpenClaim := { program := "ytokdpgabmifdjaa", sum := "3a865e32649d444f33f65e50c2fcfa969780de73e65a5e0c050f715cfd0ae0e7", func := "loop.example/g00057/laws.FnExactRimOf", spec := "fnExactRimOf", apart := false, narrowed := true }
def FnExactRimOfUptoSaid : Prop := fnExactRimOfUptoRow.holds Try.pinned (OpenSpec.upto fnExactRimOfSpec)

/-- 'laws.FnExactTurnShape', WHERE WHAT IT READS IS OF BULK AT MOST 1048576: true; the input reads as it did. -/
def fnExactTurnShapeUptoRow : OpenClaim := { program := "ytokdpgabmifdjaa", sum := "3a865e32649d444f33f65e50c2fcfa969780de73e65a5e0c050f715cfd0ae0e7", func := "loop.example/g00057/laws.FnExactTurnShape", spec := "fnExactTurnShape", unfollowed := true, recurses := true, apart := false, narrowed := true }
def FnExactTurnShapeUptoSaid : Prop := fnExactTurnShapeUptoRow.holds Try.pinned (OpenSpec.upto fnExactTurnShapeSpec)

/-- 'laws.FnExactRulesFault', WHERE WHAT IT READS IS OF BULK AT MOST 1048576: true; the input reads as it did. -/
def fnExactRulesFaultUptoRow : OpenClaim := { program := "ytokdpgabmifdjaa", sum := "3a865e32649d444f33f65e50c2fcfa969780de73e65a5e0c050f715cfd0ae0e7", func := "loop.example/g00057/laws.FnExactRulesFault", spec := "fnExactRulesFault", unfollowed := true, recurses := true, apart := false, narrowed := true }
def FnExactRulesFaultUptoSaid : Prop := fnExactRulesFaultUptoRow.holds Try.pinned (OpenSpec.upto fnExactRulesFaultSpec)

/-- 'laws.FnExactCoverOf', WHERE WHAT IT READS IS OF BULK AT MOST 1048576: true; the input reads as it did. -/
def fnExactCoverOfUptoRow : OpenClaim := { program := "ytokdpgabmifdjaa", sum := "3a865e32649d444f33f65e50c2fcfa969780de73e65a5e0c050f715cfd0ae0e7", func := "loop.example/g00057/laws.FnExactCoverOf", spec := "fnExactCoverOf", unfollowed := true, recurses := true, apart := false, narrowed := true }
def FnExactCoverOfUptoSaid : Prop := fnExactCoverOfUptoRow.holds Try.pinned (OpenSpec.upto fnExactCoverOfSpec)

/-- 'laws.FnExactApartOf', WHERE WHAT IT READS IS OF BULK AT MOST 1048576: true; the input reads as it did. -/
def fnExactApartOfUptoRow : OpenClaim := { program := "ytokdpgabmifdjaa", sum := "3a865e32649d444f33f65e50c2fcfa969780de73e65a5e0c050f715cfd0ae0e7", func := "loop.example/g00057/laws.FnExactApartOf", spec := "fnExactApartOf", unfollowed := true, recurses := true, apart := false, narrowed := true }
def FnExactApartOfUptoSaid : Prop := fnExactApartOfUptoRow.holds Try.pinned (OpenSpec.upto fnExactApartOfSpec)

/-- 'laws.FnGrown', WHERE WHAT IT READS IS OF BULK AT MOST 1048576: true; the input reads as it did. -/
def fnGrownUptoRow : OpenClaim := { program := "ytokdpgabmifdjaa", sum := "3a865e32649d444f33f65e50c2fcfa969780de73e65a5e0c050f715cfd0ae0e7", func := "loop.example/g00057/laws.FnGrown", spec := "fnGrown", unfollowed := true, recurses := true, apart := false, narrowed := true }
def FnGrownUptoSaid : Prop := fnGrownUptoRow.holds Try.pinned (OpenSpec.upto fnGrownSpec)

end Rows
end Go.Proofs.Ytokdpgabmifdjaa
