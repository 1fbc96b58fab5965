/-
  No cell of these rows narrows 'for every input' (looked for: loops, veiled, ifaces, maps, wideKeys, modest, calm, conditions, laid).
  DERIVED. THE GIVEN ROWS OF THIS SEAT. 5 by the template 'for every input the law returns true; each argument reads behind the call as it read before'; 0 by the template 'total and deterministic' (their statements: YtjbghflphngnkaaTotals.lean).
  GIVEN WITH THE SEED: the statements are not yours to turn. If you find one false, say at which input.
  Laid BY PROGRAM, IN A SANDBOX (cutbox-rows.mjs): the forced cells as the released guide's own fill.sh prints them over the translation 3228fed8639413c8… (all of the seat's roots in one cut). By AI agents, Wed Nov 11 2026. No macro, syntax, notation, axiom, sorry.
-/
import Derived.Test.YtjbghflphngnkaaChecked
import GoSem.Claim
import GoSem.ClaimJoined
import GoSem.ClaimMapViews
import Derived.JoinedTies
import Derived.KernelRfl
namespace Go.Proofs.Ytjbghflphngnkaa
/- THE CELL 'sum', in the pinned program and in every row, IS THE sha256 OF THE DUMP (.gsa) THAT YtjbghflphngnkaaProg.lean LOADS. Nothing in Lean hashes anything: it is a label: what it is worth is what the hold of that sum in a sandbox is worth. -/
noncomputable def Try.pinned : Pinned := { name := "ytjbghflphngnkaa", sum := "3228fed8639413c87327d8bcdeaa8d5a2862e0a1b05ee5a628b354e461c8059a", checked := Try.checked }
namespace Rows
def none {H : Type} : Left H := { results := [], args := [] }

/-- 'laws.FnExactRunRule': WHATEVER THE INPUT: true; the input reads as it did. -/
def fnExactRunRuleSpec : ChangeSpec := { name := "fnExactRunRule", fn := fun _ => fun
  | [d1, d2] => { results := [.lit (.bool true)], args := [d1, d2] }
  | _ => none }
def fnExactRunRuleRow : OpenClaim := { program := "ytjbghflphngnkaa", sum := "3228fed8639413c87327d8bcdeaa8d5a2862e0a1b05ee5a628b354e461c8059a", func := "loop.example/g00057/laws.FnExactRunRule", spec := "fnExactRunRule", unfollowed := true, recurses := true, apart := false }
def FnExactRunRuleSaid : Prop := fnExactRunRuleRow.holds Try.pinned (OpenSpec.ofChange fnExactRunRuleSpec)

/-- ITS FALSE NEIGHBOUR: 'it returns false'. Refute it at one input. -/
def fnExactRunRuleWrong : ChangeSpec := { name := "fnExactRunRule", fn := fun _ => fun
  | [d1, d2] => { results := [.lit (.bool false)], args := [d1, d2] }
  | _ => none }
def FnExactRunRuleWrongFalsely : Prop := fnExactRunRuleRow.holds Try.pinned (OpenSpec.ofChange fnExactRunRuleWrong)

/-- 'laws.FnExactFlowOrder': WHATEVER THE INPUT: true; the input reads as it did. -/
def fnExactFlowOrderSpec : ChangeSpec := { name := "fnExactFlowOrder", fn := fun _ => fun
  | [d] => { results := [.lit (.bool true)], args := [d] }
  | _ => none }
def fnExactFlowOrderRow : OpenClaim := { program := "ytjbghflphngnkaa", sum := "3228fed8639413c87327d8bcdeaa8d5a2862e0a1b05ee5a628b354e461c8059a", func := "loop.example/g00057/laws.FnExactFlowOrder", spec := "fnExactFlowOrder", unfollowed := true, recurses := true, apart := false }
def FnExactFlowOrderSaid : Prop := fnExactFlowOrderRow.holds Try.pinned (OpenSpec.ofChange fnExactFlowOrderSpec)

/-- ITS FALSE NEIGHBOUR: 'it returns false'. Refute it at one input. -/
def fnExactFlowOrderWrong : ChangeSpec := { name := "fnExactFlowOrder", fn := fun _ => fun
  | [d] => { results := [.lit (.bool false)], args := [d] }
  | _ => none }
def FnExactFlowOrderWrongFalsely : Prop := fnExactFlowOrderRow.holds Try.pinned (OpenSpec.ofChange fnExactFlowOrderWrong)

/-- 'laws.FnExactBatchJobs': WHATEVER THE INPUT: true; the input reads as it did. -/
def fnExactBatchJobsSpec : ChangeSpec := { name := "fnExactBatchJobs", fn := fun _ => fun
  | [d1, d2] => { results := [.lit (.bool true)], args := [d1, d2] }
  | _ => none }
def fnExactBatchJobsRow : OpenClaim := { program := "ytjbghflphngnkaa", sum := "3228fed8639413c87327d8bcdeaa8d5a2862e0a1b05ee5a628b354e461c8059a", func := "loop.example/g00057/laws.FnExactBatchJobs", spec := "fnExactBatchJobs", unfollowed := true, recurses := true, apart := false }
def FnExactBatchJobsSaid : Prop := fnExactBatchJobsRow.holds Try.pinned (OpenSpec.ofChange fnExactBatchJobsSpec)

/-- ITS FALSE NEIGHBOUR: 'it returns false'. Refute it at one input. -/
def fnExactBatchJobsWrong : ChangeSpec := { name := "fnExactBatchJobs", fn := fun _ => fun
  | [d1, d2] => { results := [.lit (.bool false)], args := [d1, d2] }
  | _ => none }
def FnExactBatchJobsWrongFalsely : Prop := fnExactBatchJobsRow.holds Try.pinned (OpenSpec.ofChange fnExactBatchJobsWrong)

/-- 'laws.FnExactBestOrder': WHATEVER THE INPUT: true; the input reads as it did. -/
def fnExactBestOrderSpec : ChangeSpec := { name := "fnExactBestOrder", fn := fun _ => fun
  | [d] => { results := [.lit (.bool true)], args := [d] }
  | _ => none }
def fnExactBestOrderRow : OpenClaim := { program := "ytjbghflphngnkaa", sum := "3228fed8639413c87327d8bcdeaa8d5a2862e0a1b05ee5a628b354e461c8059a", func := "loop.example/g00057/laws.FnExactBestOrder", spec := "fnExactBestOrder", unfollowed := true, recurses := true, apart := false }
def FnExactBestOrderSaid : Prop := fnExactBestOrderRow.holds Try.pinned (OpenSpec.ofChange fnExactBestOrderSpec)

/-- ITS FALSE NEIGHBOUR: 'it returns false'. Refute it at one input. -/
def fnExactBestOrderWrong : ChangeSpec := { name := "fnExactBestOrder", fn := fun _ => fun
  | [d] => { results := [.lit (.bool false)], args := [d] }
  | _ => none }
def FnExactBestOrderWrongFalsely : Prop := fnExactBestOrderRow.holds Try.pinned (OpenSpec.ofChange fnExactBestOrderWrong)

/-- 'laws.FnExactCheckBest': WHATEVER THE INPUT: true; the input reads as it did. -/
def fnExactCheckBestSpec : ChangeSpec := { name := "fnExactCheckBest", fn := fun _ => fun
  | [d1, d2] => { results := [.lit (.bool true)], args := [d1, d2] }
  | _ => none }
def fnExactCheckBestRow : OpenClaim := { program := "ytjbghflphngnkaa", sum := "3228fed8639413c87327d8bcdeaa8d5a2862e0a1b05ee5a628b354e461c8059a", func := "loop.example/g00057/laws.FnExactCheckBest", spec := "fnExactCheckBest", unfollowed := true, recurses := true, apart := false }
def FnExactCheckBestSaid : Prop := fnExactCheckBestRow.holds Try.pinned (OpenSpec.ofChange fnExactCheckBestSpec)

/-- ITS FALSE NEIGHBOUR: 'it returns false'. Refute it at one input. -/
def fnExactCheckBestWrong : ChangeSpec := { name := "fnExactCheckBest", fn := fun _ => fun
  | [d1, d2] => { results := [.lit (.bool false)], args := [d1, d2] }
  | _ => none }
def FnExactCheckBestWrongFalsely : Prop := fnExactCheckBestRow.holds Try.pinned (OpenSpec.ofChange fnExactCheckBestWrong)

/- THE SECOND FORM. 'bulk': how many values and letters a reading holds, each counted each time it is reached (what is shared counts as often as it is met; a slice's spare places count too). A statement '..UptoSaid' is the law's where the arguments, and the package variables that the reading takes, are together of bulk at most 1048576: NARROWER than '..Said'. Prove '..Said' where nothing that the law and all that it calls make is longer than what came in: it says more and counts as full. Else prove '..UptoSaid'. A law counts once. -/
mutual
def uptoBulk {H : Type} : DataW H → Nat
  | .lit (.string bytes) => bytes.length + 1
  | .lit _ => 1
  | .nil => 1
  | .ptr d => uptoBulk d + 1
  | .slice elems spare => uptoBulkAll elems + uptoBulkAll spare + 1
  | .agg parts => uptoBulkAll parts + 1
  | .iface _ d => uptoBulk d + 1
  | .map entries => uptoBulkEntries entries + 1
  | .held _ => 1
def uptoBulkAll {H : Type} : List (DataW H) → Nat
  | [] => 0
  | d :: r => uptoBulk d + uptoBulkAll r
def uptoBulkEntries {H : Type} : List (Lit × DataW H) → Nat
  | [] => 0
  | x :: r => uptoBulkEntry x + uptoBulkEntries r
def uptoBulkEntry {H : Type} : Lit × DataW H → Nat
  | (.string bytes, d) => bytes.length + uptoBulk d + 1
  | (_, d) => uptoBulk d + 1
 end
def uptoSmall : (H : Type) → List (DataW H) → Bool := fun _ ds => decide (uptoBulkAll ds ≤ 1048576)
def OpenSpec.upto (s : _root_.Go.ChangeSpec) : _root_.Go.OpenSpec := { _root_.Go.OpenSpec.ofChange s with cond := some uptoSmall }

/-- 'laws.FnExactRunRule', WHERE WHAT IT READS IS OF BULK AT MOST 1048576: true; the input reads as it did. -/
def fnExactRunRuleUptoRow : OpenClaim := { program := "ytjbghflphngnkaa", sum := "3228fed8639413c87327d8bcdeaa8d5a2862e0a1b05ee5a628b354e461c8059a", func := "loop.example/g00057/laws.FnExactRunRule", spec := "fnExactRunRule", unfollowed := true, recurses := true, apart := false, narrowed := true }
def FnExactRunRuleUptoSaid : Prop := fnExactRunRuleUptoRow.holds Try.pinned (OpenSpec.upto fnExactRunRuleSpec)

/-- 'laws.FnExactFlowOrder', WHERE WHAT IT READS IS OF BULK AT MOST 1048576: true; the input reads as it did. -/
def fnExactFlowOrderUptoRow : OpenClaim := { program := "ytjbghflphngnkaa", sum := "3228fed8639413c87327d8bcdeaa8d5a2862e0a1b05ee5a628b354e461c8059a", func := "loop.example/g00057/laws.FnExactFlowOrder", spec := "fnExactFlowOrder", unfollowed := true, recurses := true, apart := false, narrowed := true }
def FnExactFlowOrderUptoSaid : Prop := fnExactFlowOrderUptoRow.holds Try.pinned (OpenSpec.upto fnExactFlowOrderSpec)

/-- 'laws.FnExactBatchJobs', WHERE WHAT IT READS IS OF BULK AT MOST 1048576: true; the input reads as it did. -/
def fnExactBatchJobsUptoRow : OpenClaim := { program := "ytjbghflphngnkaa", sum := "3228fed8639413c87327d8bcdeaa8d5a2862e0a1b05ee5a628b354e461c8059a", func := "loop.example/g00057/laws.FnExactBatchJobs", spec := "fnExactBatchJobs", unfollowed := true, recurses := true, apart := false, narrowed := true }
def FnExactBatchJobsUptoSaid : Prop := fnExactBatchJobsUptoRow.holds Try.pinned (OpenSpec.upto fnExactBatchJobsSpec)

/-- 'laws.FnExactBestOrder', WHERE WHAT IT READS IS OF BULK AT MOST 1048576: true; the input reads as it did. -/
def fnExactBestOrderUptoRow : OpenClaim := { program := "ytjbghflphngnkaa", sum := "3228fed8639413c87327d8bcdeaa8d5a2862e0a1b05ee5a628b354e461c8059a", func := "loop.example/g00057/laws.FnExactBestOrder", spec := "fnExactBestOrder", unfollowed := true, recurses := true, apart := false, narrowed := true }
def FnExactBestOrderUptoSaid : Prop := fnExactBestOrderUptoRow.holds Try.pinned (OpenSpec.upto fnExactBestOrderSpec)

/-- 'laws.FnExactCheckBest', WHERE WHAT IT READS IS OF BULK AT MOST 1048576: true; the input reads as it did. -/
def fnExactCheckBestUptoRow : OpenClaim := { program := "ytjbghflphngnkaa", sum := "3228fed8639413c87327d8bcdeaa8d5a2862e0a1b05ee5a628b354e461c8059a", func := "loop.example/g00057/laws.FnExactCheckBest", spec := "fnExactCheckBest", unfollowed := true, recurses := true, apart := false, narrowed := true }
def FnExactCheckBestUptoSaid : Prop := fnExactCheckBestUptoRow.holds Try.pinned (OpenSpec.upto fnExactCheckBestSpec)

end Rows
end Go.Proofs.Ytjbghflphngnkaa
