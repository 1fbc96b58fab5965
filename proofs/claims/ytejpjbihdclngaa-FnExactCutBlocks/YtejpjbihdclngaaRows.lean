/-
  No cell of these rows narrows 'for every input' (looked for: loops, veiled, ifaces, maps, wideKeys, modest, calm, conditions, laid).
  DERIVED. THE GIVEN ROWS OF THIS SEAT. 6 by the template 'for every input the law returns true; each argument reads behind the call as it read before'; 0 by the template 'total and deterministic' (their statements: YtejpjbihdclngaaTotals.lean).
  GIVEN WITH THE SEED: the statements are not yours to turn. If you find one false, say at which input.
  Laid BY PROGRAM, IN A SANDBOX (cutbox-rows.mjs): the forced cells as the released guide's own fill.sh prints them over the translation cc6043a021e02248… (all of the seat's roots in one cut). By AI agents, Wed Nov 11 2026. No macro, syntax, notation, axiom, sorry.
-/
import Derived.Test.YtejpjbihdclngaaChecked
import GoSem.Claim
import GoSem.ClaimJoined
import GoSem.ClaimMapViews
import Derived.JoinedTies
import Derived.KernelRfl
namespace Go.Proofs.Ytejpjbihdclngaa
/- THE CELL 'sum', in the pinned program and in every row, IS THE sha256 OF THE DUMP (.gsa) THAT YtejpjbihdclngaaProg.lean LOADS. Nothing in Lean hashes anything: it is a label: what it is worth is what the hold of that sum in a sandbox is worth. -/
noncomputable def Try.pinned : Pinned := { name := "ytejpjbihdclngaa", sum := "cc6043a021e02248dabee3caed7dbab8fcd4c10104ff1d738eeddeb523218982", checked := Try.checked }
namespace Rows
def none {H : Type} : Left H := { results := [], args := [] }

/-- 'laws.FnTalks': WHATEVER THE INPUT: true; the input reads as it did. -/
def fnTalksSpec : ChangeSpec := { name := "fnTalks", fn := fun _ => fun
  | [d] => { results := [.lit (.bool true)], args := [d] }
  | _ => none }
def fnTalksRow : OpenClaim := { program := "ytejpjbihdclngaa", sum := "cc6043a021e02248dabee3caed7dbab8fcd4c10104ff1d738eeddeb523218982", func := "loop.example/g00057/laws.FnTalks", spec := "fnTalks", apart := false }
def FnTalksSaid : Prop := fnTalksRow.holds Try.pinned (OpenSpec.ofChange fnTalksSpec)

/-- ITS FALSE NEIGHBOUR: 'it returns false'. Refute it at one input. -/
def fnTalksWrong : ChangeSpec := { name := "fnTalks", fn := fun _ => fun
  | [d] => { results := [.lit (.bool false)], args := [d] }
  | _ => none }
def FnTalksWrongFalsely : Prop := fnTalksRow.holds Try.pinned (OpenSpec.ofChange fnTalksWrong)

/-- 'laws.FnExactMessageFault': WHATEVER THE INPUT: true; the input reads as it did. -/
def fnExactMessageFaultSpec : ChangeSpec := { name := "fnExactMessageFault", fn := fun _ => fun
  | [d] => { results := [.lit (.bool true)], args := [d] }
  | _ => none }
def fnExactMessageFaultRow : OpenClaim := { program := "ytejpjbihdclngaa", sum := "cc6043a021e02248dabee3caed7dbab8fcd4c10104ff1d738eeddeb523218982", func := "loop.example/g00057/laws.FnExactMessageFault", spec := "fnExactMessageFault", apart := false }
def FnExactMessageFaultSaid : Prop := fnExactMessageFaultRow.holds Try.pinned (OpenSpec.ofChange fnExactMessageFaultSpec)

/-- ITS FALSE NEIGHBOUR: 'it returns false'. Refute it at one input. -/
def fnExactMessageFaultWrong : ChangeSpec := { name := "fnExactMessageFault", fn := fun _ => fun
  | [d] => { results := [.lit (.bool false)], args := [d] }
  | _ => none }
def FnExactMessageFaultWrongFalsely : Prop := fnExactMessageFaultRow.holds Try.pinned (OpenSpec.ofChange fnExactMessageFaultWrong)

/-- 'laws.FnExactCutBlocks': WHATEVER THE INPUT: true; the input reads as it did. -/
def fnExactCutBlocksSpec : ChangeSpec := { name := "fnExactCutBlocks", fn := fun _ => fun
  | [d] => { results := [.lit (.bool true)], args := [d] }
  | _ => none }
def fnExactCutBlocksRow : OpenClaim := { program := "ytejpjbihdclngaa", sum := "cc6043a021e02248dabee3caed7dbab8fcd4c10104ff1d738eeddeb523218982", func := "loop.example/g00057/laws.FnExactCutBlocks", spec := "fnExactCutBlocks", apart := false }
def FnExactCutBlocksSaid : Prop := fnExactCutBlocksRow.holds Try.pinned (OpenSpec.ofChange fnExactCutBlocksSpec)

/-- ITS FALSE NEIGHBOUR: 'it returns false'. Refute it at one input. -/
def fnExactCutBlocksWrong : ChangeSpec := { name := "fnExactCutBlocks", fn := fun _ => fun
  | [d] => { results := [.lit (.bool false)], args := [d] }
  | _ => none }
def FnExactCutBlocksWrongFalsely : Prop := fnExactCutBlocksRow.holds Try.pinned (OpenSpec.ofChange fnExactCutBlocksWrong)

/-- 'laws.FnExactReadBlock': WHATEVER THE INPUT: true; the input reads as it did. -/
def fnExactReadBlockSpec : ChangeSpec := { name := "fnExactReadBlock", fn := fun _ => fun
  | [d] => { results := [.lit (.bool true)], args := [d] }
  | _ => none }
def fnExactReadBlockRow : OpenClaim := { program := "ytejpjbihdclngaa", sum := "cc6043a021e02248dabee3caed7dbab8fcd4c10104ff1d738eeddeb523218982", func := "loop.example/g00057/laws.FnExactReadBlock", spec := "fnExactReadBlock", apart := false }
def FnExactReadBlockSaid : Prop := fnExactReadBlockRow.holds Try.pinned (OpenSpec.ofChange fnExactReadBlockSpec)

/-- ITS FALSE NEIGHBOUR: 'it returns false'. Refute it at one input. -/
def fnExactReadBlockWrong : ChangeSpec := { name := "fnExactReadBlock", fn := fun _ => fun
  | [d] => { results := [.lit (.bool false)], args := [d] }
  | _ => none }
def FnExactReadBlockWrongFalsely : Prop := fnExactReadBlockRow.holds Try.pinned (OpenSpec.ofChange fnExactReadBlockWrong)

/-- 'laws.FnExactTalkStep': WHATEVER THE INPUT: true; the input reads as it did. -/
def fnExactTalkStepSpec : ChangeSpec := { name := "fnExactTalkStep", fn := fun _ => fun
  | [d1, d2] => { results := [.lit (.bool true)], args := [d1, d2] }
  | _ => none }
def fnExactTalkStepRow : OpenClaim := { program := "ytejpjbihdclngaa", sum := "cc6043a021e02248dabee3caed7dbab8fcd4c10104ff1d738eeddeb523218982", func := "loop.example/g00057/laws.FnExactTalkStep", spec := "fnExactTalkStep", apart := false }
def FnExactTalkStepSaid : Prop := fnExactTalkStepRow.holds Try.pinned (OpenSpec.ofChange fnExactTalkStepSpec)

/-- ITS FALSE NEIGHBOUR: 'it returns false'. Refute it at one input. -/
def fnExactTalkStepWrong : ChangeSpec := { name := "fnExactTalkStep", fn := fun _ => fun
  | [d1, d2] => { results := [.lit (.bool false)], args := [d1, d2] }
  | _ => none }
def FnExactTalkStepWrongFalsely : Prop := fnExactTalkStepRow.holds Try.pinned (OpenSpec.ofChange fnExactTalkStepWrong)

/-- 'laws.FnExactRunTalk': WHATEVER THE INPUT: true; the input reads as it did. -/
def fnExactRunTalkSpec : ChangeSpec := { name := "fnExactRunTalk", fn := fun _ => fun
  | [d] => { results := [.lit (.bool true)], args := [d] }
  | _ => none }
def fnExactRunTalkRow : OpenClaim := { program := "ytejpjbihdclngaa", sum := "cc6043a021e02248dabee3caed7dbab8fcd4c10104ff1d738eeddeb523218982", func := "loop.example/g00057/laws.FnExactRunTalk", spec := "fnExactRunTalk", apart := false }
def FnExactRunTalkSaid : Prop := fnExactRunTalkRow.holds Try.pinned (OpenSpec.ofChange fnExactRunTalkSpec)

/-- ITS FALSE NEIGHBOUR: 'it returns false'. Refute it at one input. -/
def fnExactRunTalkWrong : ChangeSpec := { name := "fnExactRunTalk", fn := fun _ => fun
  | [d] => { results := [.lit (.bool false)], args := [d] }
  | _ => none }
def FnExactRunTalkWrongFalsely : Prop := fnExactRunTalkRow.holds Try.pinned (OpenSpec.ofChange fnExactRunTalkWrong)

/- THE SECOND FORM. 'bulk': how many values and letters a reading holds, each counted each time it is reached (what is shared counts as often as it is met; a slice's spare places count too). A statement '..UptoSaid' is the law's where the arguments, and the package variables that the reading takes, are together of bulk at most 1048576: NARROWER than '..Said'. Prove '..Said' where nothing that the law and all that it calls make is longer than what came in: it says more and counts as full. Else prove '..UptoSaid'. A law counts once. -/
mutual
def uptoBulk {H : Type} : DataW H → Nat
  | .lit (.string bytes) => bytes.length + 1
  | .lit _ => 1
  | .nil => 1
  | .ptr d => uptoBulk d + 1
  | .slice elems spare => uptoBulkAll elems + uptoBulkAll spare + 1
  | .agg parts => uptoBulkAll parts + 1
  | .iface _ d => uptoBulk d + 1
  | .map entries => uptoBulkEntries entries + 1
  | .held _ => 1
def uptoBulkAll {H : Type} : List (DataW H) → Nat
  | [] => 0
  | d :: r => uptoBulk d + uptoBulkAll r
def uptoBulkEntries {H : Type} : List (Lit × DataW H) → Nat
  | [] => 0
  | x :: r => uptoBulkEntry x + uptoBulkEntries r
def uptoBulkEntry {H : Type} : Lit × DataW H → Nat
  | (.string bytes, d) => bytes.length + uptoBulk d + 1
  | (_, d) => uptoBulk d + 1
 end
def uptoSmall : (H : Type) → List (DataW H) → Bool := fun _ ds => decide (uptoBulkAll ds ≤ 1048576)
def OpenSpec.upto (s : _root_.Go.ChangeSpec) : _root_.Go.OpenSpec := { _root_.Go.OpenSpec.ofChange s with cond := some uptoSmall }

/-- 'laws.FnTalks', WHERE WHAT IT READS IS OF BULK AT MOST 1048576: true; the input reads as it did. -/
def fnTalksUptoRow : OpenClaim := { program := "ytejpjbihdclngaa", sum := "cc6043a021e02248dabee3caed7dbab8fcd4c10104ff1d738eeddeb523218982", func := "loop.example/g00057/laws.FnTalks", spec := "fnTalks", apart := false, narrowed := true }
def FnTalksUptoSaid : Prop := fnTalksUptoRow.holds Try.pinned (OpenSpec.upto fnTalksSpec)

/-- 'laws.FnExactMessageFault', WHERE WHAT IT READS IS OF BULK AT MOST 1048576: true; the input reads as it did. -/
def fnExactMessageFaultUptoRow : OpenClaim := { program := "ytejpjbihdclngaa", sum := "cc6043a021e02248dabee3caed7dbab8fcd4c10104ff1d738eeddeb523218982", func := "loop.example/g00057/laws.FnExactMessageFault", spec := "fnExactMessageFault", apart := false, narrowed := true }
def FnExactMessageFaultUptoSaid : Prop := fnExactMessageFaultUptoRow.holds Try.pinned (OpenSpec.upto fnExactMessageFaultSpec)

/-- 'laws.FnExactCutBlocks', WHERE WHAT IT READS IS OF BULK AT MOST 1048576: true; the input reads as it did. -/
def fnExactCutBlocksUptoRow : OpenClaim := { program := "ytejpjbihdclngaa", sum := "cc6043a021e02248dabee3caed7dbab8fcd4c10104ff1d738eeddeb523218982", func := "loop.example/g00057/laws.FnExactCutBlocks", spec := "fnExactCutBlocks", apart := false, narrowed := true }
def FnExactCutBlocksUptoSaid : Prop := fnExactCutBlocksUptoRow.holds Try.pinned (OpenSpec.upto fnExactCutBlocksSpec)

/-- 'laws.FnExactReadBlock', WHERE WHAT IT READS IS OF BULK AT MOST 1048576: true; the input reads as it did. -/
def fnExactReadBlockUptoRow : OpenClaim := { program := "ytejpjbihdclngaa", sum := "cc6043a021e02248dabee3caed7dbab8fcd4c10104ff1d738eeddeb523218982", func := "loop.example/g00057/laws.FnExactReadBlock", spec := "fnExactReadBlock", apart := false, narrowed := true }
def FnExactReadBlockUptoSaid : Prop := fnExactReadBlockUptoRow.holds Try.pinned (OpenSpec.upto fnExactReadBlockSpec)

/-- 'laws.FnExactTalkStep', WHERE WHAT IT READS IS OF BULK AT MOST 1048576: true; the input reads as it did. -/
def fnExactTalkStepUptoRow : OpenClaim := { program := "ytejpjbihdclngaa", sum := "cc6043a021e02248dabee3caed7dbab8fcd4c10104ff1d738eeddeb523218982", func := "loop.example/g00057/laws.FnExactTalkStep", spec := "fnExactTalkStep", apart := false, narrowed := true }
def FnExactTalkStepUptoSaid : Prop := fnExactTalkStepUptoRow.holds Try.pinned (OpenSpec.upto fnExactTalkStepSpec)

/-- 'laws.FnExactRunTalk', WHERE WHAT IT READS IS OF BULK AT MOST 1048576: true; the input reads as it did. -/
def fnExactRunTalkUptoRow : OpenClaim := { program := "ytejpjbihdclngaa", sum := "cc6043a021e02248dabee3caed7dbab8fcd4c10104ff1d738eeddeb523218982", func := "loop.example/g00057/laws.FnExactRunTalk", spec := "fnExactRunTalk", apart := false, narrowed := true }
def FnExactRunTalkUptoSaid : Prop := fnExactRunTalkUptoRow.holds Try.pinned (OpenSpec.upto fnExactRunTalkSpec)

end Rows
end Go.Proofs.Ytejpjbihdclngaa
