/-
  No cell of these rows narrows 'for every input' (looked for: loops, veiled, ifaces, maps, wideKeys, modest, calm, conditions, laid).
  DERIVED. THE GIVEN ROWS OF THIS SEAT. 6 by the template 'for every input the law returns true; each argument reads behind the call as it read before'; 0 by the template 'total and deterministic' (their statements: YtecobfhlpjlpkaaTotals.lean).
  GIVEN WITH THE SEED: the statements are not yours to turn. If you find one false, say at which input.
  Laid BY PROGRAM, IN A SANDBOX (cutbox-rows.mjs): the forced cells as the released guide's own fill.sh prints them over the translation 76e0acff2eabd8c5… (all of the seat's roots in one cut). By AI agents, Wed Nov 11 2026. No macro, syntax, notation, axiom, sorry.
-/
import Derived.Test.YtecobfhlpjlpkaaChecked
import GoSem.Claim
import GoSem.ClaimJoined
import GoSem.ClaimMapViews
import Derived.JoinedTies
import Derived.KernelRfl
namespace Go.Proofs.Ytecobfhlpjlpkaa
/- THE CELL 'sum', in the pinned program and in every row, IS THE sha256 OF THE DUMP (.gsa) THAT YtecobfhlpjlpkaaProg.lean LOADS. Nothing in Lean hashes anything: it is a label: what it is worth is what the hold of that sum in a sandbox is worth. -/
noncomputable def Try.pinned : Pinned := { name := "ytecobfhlpjlpkaa", sum := "76e0acff2eabd8c585fc8834c0ffb39d50c9c7d9509ea32512e6cd0b2d884c27", checked := Try.checked }
namespace Rows
def none {H : Type} : Left H := { results := [], args := [] }

/-- 'laws.FnExactJobsFault': WHATEVER THE INPUT: true; the input reads as it did. -/
def fnExactJobsFaultSpec : ChangeSpec := { name := "fnExactJobsFault", fn := fun _ => fun
  | [d] => { results := [.lit (.bool true)], args := [d] }
  | _ => none }
def fnExactJobsFaultRow : OpenClaim := { program := "ytecobfhlpjlpkaa", sum := "76e0acff2eabd8c585fc8834c0ffb39d50c9c7d9509ea32512e6cd0b2d884c27", func := "loop.example/g00057/laws.FnExactJobsFault", spec := "fnExactJobsFault", unfollowed := true, recurses := true, apart := false }
def FnExactJobsFaultSaid : Prop := fnExactJobsFaultRow.holds Try.pinned (OpenSpec.ofChange fnExactJobsFaultSpec)

/-- ITS FALSE NEIGHBOUR: 'it returns false'. Refute it at one input. -/
def fnExactJobsFaultWrong : ChangeSpec := { name := "fnExactJobsFault", fn := fun _ => fun
  | [d] => { results := [.lit (.bool false)], args := [d] }
  | _ => none }
def FnExactJobsFaultWrongFalsely : Prop := fnExactJobsFaultRow.holds Try.pinned (OpenSpec.ofChange fnExactJobsFaultWrong)

/-- 'laws.FnExactLateOf': WHATEVER THE INPUT: true; the input reads as it did. -/
def fnExactLateOfSpec : ChangeSpec := { name := "fnExactLateOf", fn := fun _ => fun
  | [d1, d2] => { results := [.lit (.bool true)], args := [d1, d2] }
  | _ => none }
def fnExactLateOfRow : OpenClaim := { program := "ytecobfhlpjlpkaa", sum := "76e0acff2eabd8c585fc8834c0ffb39d50c9c7d9509ea32512e6cd0b2d884c27", func := "loop.example/g00057/laws.FnExactLateOf", spec := "fnExactLateOf", unfollowed := true, recurses := true, apart := false }
def FnExactLateOfSaid : Prop := fnExactLateOfRow.holds Try.pinned (OpenSpec.ofChange fnExactLateOfSpec)

/-- ITS FALSE NEIGHBOUR: 'it returns false'. Refute it at one input. -/
def fnExactLateOfWrong : ChangeSpec := { name := "fnExactLateOf", fn := fun _ => fun
  | [d1, d2] => { results := [.lit (.bool false)], args := [d1, d2] }
  | _ => none }
def FnExactLateOfWrongFalsely : Prop := fnExactLateOfRow.holds Try.pinned (OpenSpec.ofChange fnExactLateOfWrong)

/-- 'laws.FnExactFlowEnd': WHATEVER THE INPUT: true; the input reads as it did. -/
def fnExactFlowEndSpec : ChangeSpec := { name := "fnExactFlowEnd", fn := fun _ => fun
  | [d1, d2] => { results := [.lit (.bool true)], args := [d1, d2] }
  | _ => none }
def fnExactFlowEndRow : OpenClaim := { program := "ytecobfhlpjlpkaa", sum := "76e0acff2eabd8c585fc8834c0ffb39d50c9c7d9509ea32512e6cd0b2d884c27", func := "loop.example/g00057/laws.FnExactFlowEnd", spec := "fnExactFlowEnd", unfollowed := true, recurses := true, apart := false }
def FnExactFlowEndSaid : Prop := fnExactFlowEndRow.holds Try.pinned (OpenSpec.ofChange fnExactFlowEndSpec)

/-- ITS FALSE NEIGHBOUR: 'it returns false'. Refute it at one input. -/
def fnExactFlowEndWrong : ChangeSpec := { name := "fnExactFlowEnd", fn := fun _ => fun
  | [d1, d2] => { results := [.lit (.bool false)], args := [d1, d2] }
  | _ => none }
def FnExactFlowEndWrongFalsely : Prop := fnExactFlowEndRow.holds Try.pinned (OpenSpec.ofChange fnExactFlowEndWrong)

/-- 'laws.FnExactPickJob': WHATEVER THE INPUT: true; the input reads as it did. -/
def fnExactPickJobSpec : ChangeSpec := { name := "fnExactPickJob", fn := fun _ => fun
  | [d1, d2, d3] => { results := [.lit (.bool true)], args := [d1, d2, d3] }
  | _ => none }
def fnExactPickJobRow : OpenClaim := { program := "ytecobfhlpjlpkaa", sum := "76e0acff2eabd8c585fc8834c0ffb39d50c9c7d9509ea32512e6cd0b2d884c27", func := "loop.example/g00057/laws.FnExactPickJob", spec := "fnExactPickJob", unfollowed := true, recurses := true, apart := false }
def FnExactPickJobSaid : Prop := fnExactPickJobRow.holds Try.pinned (OpenSpec.ofChange fnExactPickJobSpec)

/-- ITS FALSE NEIGHBOUR: 'it returns false'. Refute it at one input. -/
def fnExactPickJobWrong : ChangeSpec := { name := "fnExactPickJob", fn := fun _ => fun
  | [d1, d2, d3] => { results := [.lit (.bool false)], args := [d1, d2, d3] }
  | _ => none }
def FnExactPickJobWrongFalsely : Prop := fnExactPickJobRow.holds Try.pinned (OpenSpec.ofChange fnExactPickJobWrong)

/-- 'laws.FnExactRunRule': WHATEVER THE INPUT: true; the input reads as it did. -/
def fnExactRunRuleSpec : ChangeSpec := { name := "fnExactRunRule", fn := fun _ => fun
  | [d1, d2] => { results := [.lit (.bool true)], args := [d1, d2] }
  | _ => none }
def fnExactRunRuleRow : OpenClaim := { program := "ytecobfhlpjlpkaa", sum := "76e0acff2eabd8c585fc8834c0ffb39d50c9c7d9509ea32512e6cd0b2d884c27", func := "loop.example/g00057/laws.FnExactRunRule", spec := "fnExactRunRule", unfollowed := true, recurses := true, apart := false }
def FnExactRunRuleSaid : Prop := fnExactRunRuleRow.holds Try.pinned (OpenSpec.ofChange fnExactRunRuleSpec)

/-- ITS FALSE NEIGHBOUR: 'it returns false'. Refute it at one input. -/
def fnExactRunRuleWrong : ChangeSpec := { name := "fnExactRunRule", fn := fun _ => fun
  | [d1, d2] => { results := [.lit (.bool false)], args := [d1, d2] }
  | _ => none }
def FnExactRunRuleWrongFalsely : Prop := fnExactRunRuleRow.holds Try.pinned (OpenSpec.ofChange fnExactRunRuleWrong)

/-- 'laws.FnExactFlowOrder': WHATEVER THE INPUT: true; the input reads as it did. -/
def fnExactFlowOrderSpec : ChangeSpec := { name := "fnExactFlowOrder", fn := fun _ => fun
  | [d] => { results := [.lit (.bool true)], args := [d] }
  | _ => none }
def fnExactFlowOrderRow : OpenClaim := { program := "ytecobfhlpjlpkaa", sum := "76e0acff2eabd8c585fc8834c0ffb39d50c9c7d9509ea32512e6cd0b2d884c27", func := "loop.example/g00057/laws.FnExactFlowOrder", spec := "fnExactFlowOrder", unfollowed := true, recurses := true, apart := false }
def FnExactFlowOrderSaid : Prop := fnExactFlowOrderRow.holds Try.pinned (OpenSpec.ofChange fnExactFlowOrderSpec)

/-- ITS FALSE NEIGHBOUR: 'it returns false'. Refute it at one input. -/
def fnExactFlowOrderWrong : ChangeSpec := { name := "fnExactFlowOrder", fn := fun _ => fun
  | [d] => { results := [.lit (.bool false)], args := [d] }
  | _ => none }
def FnExactFlowOrderWrongFalsely : Prop := fnExactFlowOrderRow.holds Try.pinned (OpenSpec.ofChange fnExactFlowOrderWrong)

/- THE SECOND FORM. 'bulk': how many values and letters a reading holds, each counted each time it is reached (what is shared counts as often as it is met; a slice's spare places count too). A statement '..UptoSaid' is the law's where the arguments, and the package variables that the reading takes, are together of bulk at most 1048576: NARROWER than '..Said'. Prove '..Said' where nothing that the law and all that it calls make is longer than what came in: it says more and counts as full. Else prove '..UptoSaid'. A law counts once. -/
mutual
def uptoBulk {H : Type} : DataW H → Nat
  | .lit (.string bytes) => bytes.length + 1
  | .lit _ => 1
  | .nil => 1
  | .ptr d => uptoBulk d + 1
  | .slice elems spare => uptoBulkAll elems + uptoBulkAll spare + 1
  | .agg parts => uptoBulkAll parts + 1
  | .iface _ d => uptoBulk d + 1
  | .map entries => uptoBulkEntries entries + 1
  | .held _ => 1
def uptoBulkAll {H : Type} : List (DataW H) → Nat
  | [] => 0
  | d :: r => uptoBulk d + uptoBulkAll r
def uptoBulkEntries {H : Type} : List (Lit × DataW H) → Nat
  | [] => 0
  | x :: r => uptoBulkEntry x + uptoBulkEntries r
def uptoBulkEntry {H : Type} : Lit × DataW H → Nat
  | (.string bytes, d) => bytes.length + uptoBulk d + 1
  | (_, d) => uptoBulk d + 1
 end
def uptoSmall : (H : Type) → List (DataW H) → Bool := fun _ ds => decide (uptoBulkAll ds ≤ 1048576)
def OpenSpec.upto (s : _root_.Go.ChangeSpec) : _root_.Go.OpenSpec := { _root_.Go.OpenSpec.ofChange s with cond := some uptoSmall }

/-- 'laws.FnExactJobsFault', WHERE WHAT IT READS IS OF BULK AT MOST 1048576: true; the input reads as it did. -/
def fnExactJobsFaultUptoRow : OpenClaim := { program := "ytecobfhlpjlpkaa", sum := "76e0acff2eabd8c585fc8834c0ffb39d50c9c7d9509ea32512e6cd0b2d884c27", func := "loop.example/g00057/laws.FnExactJobsFault", spec := "fnExactJobsFault", unfollowed := true, recurses := true, apart := false, narrowed := true }
def FnExactJobsFaultUptoSaid : Prop := fnExactJobsFaultUptoRow.holds Try.pinned (OpenSpec.upto fnExactJobsFaultSpec)

/-- 'laws.FnExactLateOf', WHERE WHAT IT READS IS OF BULK AT MOST 1048576: true; the input reads as it did. -/
def fnExactLateOfUptoRow : OpenClaim := { program := "ytecobfhlpjlpkaa", sum := "76e0acff2eabd8c585fc8834c0ffb39d50c9c7d9509ea32512e6cd0b2d884c27", func := "loop.example/g00057/laws.FnExactLateOf", spec := "fnExactLateOf", unfollowed := true, recurses := true, apart := false, narrowed := true }
def FnExactLateOfUptoSaid : Prop := fnExactLateOfUptoRow.holds Try.pinned (OpenSpec.upto fnExactLateOfSpec)

/-- 'laws.FnExactFlowEnd', WHERE WHAT IT READS IS OF BULK AT MOST 1048576: true; the input reads as it did. -/
def fnExactFlowEndUptoRow : OpenClaim := { program := "ytecobfhlpjlpkaa", sum := "76e0acff2eabd8c585fc8834c0ffb39d50c9c7d9509ea32512e6cd0b2d884c27", func := "loop.example/g00057/laws.FnExactFlowEnd", spec := "fnExactFlowEnd", unfollowed := true, recurses := true, apart := false, narrowed := true }
def FnExactFlowEndUptoSaid : Prop := fnExactFlowEndUptoRow.holds Try.pinned (OpenSpec.upto fnExactFlowEndSpec)

/-- 'laws.FnExactPickJob', WHERE WHAT IT READS IS OF BULK AT MOST 1048576: true; the input reads as it did. -/
def fnExactPickJobUptoRow : OpenClaim := { program := "ytecobfhlpjlpkaa", sum := "76e0acff2eabd8c585fc8834c0ffb39d50c9c7d9509ea32512e6cd0b2d884c27", func := "loop.example/g00057/laws.FnExactPickJob", spec := "fnExactPickJob", unfollowed := true, recurses := true, apart := false, narrowed := true }
def FnExactPickJobUptoSaid : Prop := fnExactPickJobUptoRow.holds Try.pinned (OpenSpec.upto fnExactPickJobSpec)

/-- 'laws.FnExactRunRule', WHERE WHAT IT READS IS OF BULK AT MOST 1048576: true; the input reads as it did. -/
def fnExactRunRuleUptoRow : OpenClaim := { program := "ytecobfhlpjlpkaa", sum := "76e0acff2eabd8c585fc8834c0ffb39d50c9c7d9509ea32512e6cd0b2d884c27", func := "loop.example/g00057/laws.FnExactRunRule", spec := "fnExactRunRule", unfollowed := true, recurses := true, apart := false, narrowed := true }
def FnExactRunRuleUptoSaid : Prop := fnExactRunRuleUptoRow.holds Try.pinned (OpenSpec.upto fnExactRunRuleSpec)

/-- 'laws.FnExactFlowOrder', WHERE WHAT IT READS IS OF BULK AT MOST 1048576: true; the input reads as it did. -/
def fnExactFlowOrderUptoRow : OpenClaim := { program := "ytecobfhlpjlpkaa", sum := "76e0acff2eabd8c585fc8834c0ffb39d50c9c7d9509ea32512e6cd0b2d884c27", func := "loop.example/g00057/laws.FnExactFlowOrder", spec := "fnExactFlowOrder", unfollowed := true, recurses := true, apart := false, narrowed := true }
def FnExactFlowOrderUptoSaid : Prop := fnExactFlowOrderUptoRow.holds Try.pinned (OpenSpec.upto fnExactFlowOrderSpec)

end Rows
end Go.Proofs.Ytecobfhlpjlpkaa
