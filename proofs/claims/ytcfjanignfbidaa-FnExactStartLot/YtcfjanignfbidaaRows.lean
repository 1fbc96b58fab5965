/-
  No cell of these rows narrows 'for every input' (looked for: loops, veiled, ifaces, maps, wideKeys, modest, calm, conditions, laid).
  DERIVED. THE GIVEN ROWS OF THIS SEAT. 6 by the template 'for every input the law returns true; each argument reads behind the call as it read before'; 0 by the template 'total and deterministic' (their statements: YtcfjanignfbidaaTotals.lean).
  GIVEN WITH THE SEED: the statements are not yours to turn. If you find one false, say at which input.
  Laid BY PROGRAM, IN A SANDBOX (cutbox-rows.mjs): the forced cells as the released guide's own fill.sh prints them over the translation 71119170fb3dbffa… (all of the seat's roots in one cut). By AI agents, Wed Nov 11 2026. No macro, syntax, notation, axiom, sorry.
-/
import Derived.Test.YtcfjanignfbidaaChecked
import GoSem.Claim
import GoSem.ClaimJoined
import GoSem.ClaimMapViews
import Derived.JoinedTies
import Derived.KernelRfl
namespace Go.Proofs.Ytcfjanignfbidaa
/- THE CELL 'sum', in the pinned program and in every row, IS THE sha256 OF THE DUMP (.gsa) THAT YtcfjanignfbidaaProg.lean LOADS. Nothing in Lean hashes anything: it is a label: what it is worth is what the hold of that sum in a sandbox is worth. -/
noncomputable def Try.pinned : Pinned := { name := "ytcfjanignfbidaa", sum := "71119170fb3dbffa676c1d9a1cdebf5699ec2f1aa72ddb05b6a9cd42e3c233dd", checked := Try.checked }
namespace Rows
def none {H : Type} : Left H := { results := [], args := [] }

/-- 'laws.FnExactStartLot': WHATEVER THE INPUT: true; the input reads as it did. -/
def fnExactStartLotSpec : ChangeSpec := { name := "fnExactStartLot", fn := fun _ => fun
  | [d1, d2, d3] => { results := [.lit (.bool true)], args := [d1, d2, d3] }
  | _ => none }
def fnExactStartLotRow : OpenClaim := { program := "ytcfjanignfbidaa", sum := "71119170fb3dbffa676c1d9a1cdebf5699ec2f1aa72ddb05b6a9cd42e3c233dd", func := "loop.example/g00057/laws.FnExactStartLot", spec := "fnExactStartLot", apart := false }
def FnExactStartLotSaid : Prop := fnExactStartLotRow.holds Try.pinned (OpenSpec.ofChange fnExactStartLotSpec)

/-- ITS FALSE NEIGHBOUR: 'it returns false'. Refute it at one input. -/
def fnExactStartLotWrong : ChangeSpec := { name := "fnExactStartLot", fn := fun _ => fun
  | [d1, d2, d3] => { results := [.lit (.bool false)], args := [d1, d2, d3] }
  | _ => none }
def FnExactStartLotWrongFalsely : Prop := fnExactStartLotRow.holds Try.pinned (OpenSpec.ofChange fnExactStartLotWrong)

/-- 'laws.FnExactSplitLot': WHATEVER THE INPUT: true; the input reads as it did. -/
def fnExactSplitLotSpec : ChangeSpec := { name := "fnExactSplitLot", fn := fun _ => fun
  | [d1, d2, d3, d4] => { results := [.lit (.bool true)], args := [d1, d2, d3, d4] }
  | _ => none }
def fnExactSplitLotRow : OpenClaim := { program := "ytcfjanignfbidaa", sum := "71119170fb3dbffa676c1d9a1cdebf5699ec2f1aa72ddb05b6a9cd42e3c233dd", func := "loop.example/g00057/laws.FnExactSplitLot", spec := "fnExactSplitLot", unfollowed := true, recurses := true, apart := false }
def FnExactSplitLotSaid : Prop := fnExactSplitLotRow.holds Try.pinned (OpenSpec.ofChange fnExactSplitLotSpec)

/-- ITS FALSE NEIGHBOUR: 'it returns false'. Refute it at one input. -/
def fnExactSplitLotWrong : ChangeSpec := { name := "fnExactSplitLot", fn := fun _ => fun
  | [d1, d2, d3, d4] => { results := [.lit (.bool false)], args := [d1, d2, d3, d4] }
  | _ => none }
def FnExactSplitLotWrongFalsely : Prop := fnExactSplitLotRow.holds Try.pinned (OpenSpec.ofChange fnExactSplitLotWrong)

/-- 'laws.FnExactMergeLots': WHATEVER THE INPUT: true; the input reads as it did. -/
def fnExactMergeLotsSpec : ChangeSpec := { name := "fnExactMergeLots", fn := fun _ => fun
  | [d1, d2, d3] => { results := [.lit (.bool true)], args := [d1, d2, d3] }
  | _ => none }
def fnExactMergeLotsRow : OpenClaim := { program := "ytcfjanignfbidaa", sum := "71119170fb3dbffa676c1d9a1cdebf5699ec2f1aa72ddb05b6a9cd42e3c233dd", func := "loop.example/g00057/laws.FnExactMergeLots", spec := "fnExactMergeLots", apart := false }
def FnExactMergeLotsSaid : Prop := fnExactMergeLotsRow.holds Try.pinned (OpenSpec.ofChange fnExactMergeLotsSpec)

/-- ITS FALSE NEIGHBOUR: 'it returns false'. Refute it at one input. -/
def fnExactMergeLotsWrong : ChangeSpec := { name := "fnExactMergeLots", fn := fun _ => fun
  | [d1, d2, d3] => { results := [.lit (.bool false)], args := [d1, d2, d3] }
  | _ => none }
def FnExactMergeLotsWrongFalsely : Prop := fnExactMergeLotsRow.holds Try.pinned (OpenSpec.ofChange fnExactMergeLotsWrong)

/-- 'laws.FnExactHoldLot': WHATEVER THE INPUT: true; the input reads as it did. -/
def fnExactHoldLotSpec : ChangeSpec := { name := "fnExactHoldLot", fn := fun _ => fun
  | [d1, d2, d3] => { results := [.lit (.bool true)], args := [d1, d2, d3] }
  | _ => none }
def fnExactHoldLotRow : OpenClaim := { program := "ytcfjanignfbidaa", sum := "71119170fb3dbffa676c1d9a1cdebf5699ec2f1aa72ddb05b6a9cd42e3c233dd", func := "loop.example/g00057/laws.FnExactHoldLot", spec := "fnExactHoldLot", apart := false }
def FnExactHoldLotSaid : Prop := fnExactHoldLotRow.holds Try.pinned (OpenSpec.ofChange fnExactHoldLotSpec)

/-- ITS FALSE NEIGHBOUR: 'it returns false'. Refute it at one input. -/
def fnExactHoldLotWrong : ChangeSpec := { name := "fnExactHoldLot", fn := fun _ => fun
  | [d1, d2, d3] => { results := [.lit (.bool false)], args := [d1, d2, d3] }
  | _ => none }
def FnExactHoldLotWrongFalsely : Prop := fnExactHoldLotRow.holds Try.pinned (OpenSpec.ofChange fnExactHoldLotWrong)

/-- 'laws.FnExactScrapWafer': WHATEVER THE INPUT: true; the input reads as it did. -/
def fnExactScrapWaferSpec : ChangeSpec := { name := "fnExactScrapWafer", fn := fun _ => fun
  | [d1, d2] => { results := [.lit (.bool true)], args := [d1, d2] }
  | _ => none }
def fnExactScrapWaferRow : OpenClaim := { program := "ytcfjanignfbidaa", sum := "71119170fb3dbffa676c1d9a1cdebf5699ec2f1aa72ddb05b6a9cd42e3c233dd", func := "loop.example/g00057/laws.FnExactScrapWafer", spec := "fnExactScrapWafer", unfollowed := true, recurses := true, apart := false }
def FnExactScrapWaferSaid : Prop := fnExactScrapWaferRow.holds Try.pinned (OpenSpec.ofChange fnExactScrapWaferSpec)

/-- ITS FALSE NEIGHBOUR: 'it returns false'. Refute it at one input. -/
def fnExactScrapWaferWrong : ChangeSpec := { name := "fnExactScrapWafer", fn := fun _ => fun
  | [d1, d2] => { results := [.lit (.bool false)], args := [d1, d2] }
  | _ => none }
def FnExactScrapWaferWrongFalsely : Prop := fnExactScrapWaferRow.holds Try.pinned (OpenSpec.ofChange fnExactScrapWaferWrong)

/-- 'laws.FnExactStepLot': WHATEVER THE INPUT: true; the input reads as it did. -/
def fnExactStepLotSpec : ChangeSpec := { name := "fnExactStepLot", fn := fun _ => fun
  | [d1, d2, d3] => { results := [.lit (.bool true)], args := [d1, d2, d3] }
  | _ => none }
def fnExactStepLotRow : OpenClaim := { program := "ytcfjanignfbidaa", sum := "71119170fb3dbffa676c1d9a1cdebf5699ec2f1aa72ddb05b6a9cd42e3c233dd", func := "loop.example/g00057/laws.FnExactStepLot", spec := "fnExactStepLot", apart := false }
def FnExactStepLotSaid : Prop := fnExactStepLotRow.holds Try.pinned (OpenSpec.ofChange fnExactStepLotSpec)

/-- ITS FALSE NEIGHBOUR: 'it returns false'. Refute it at one input. -/
def fnExactStepLotWrong : ChangeSpec := { name := "fnExactStepLot", fn := fun _ => fun
  | [d1, d2, d3] => { results := [.lit (.bool false)], args := [d1, d2, d3] }
  | _ => none }
def FnExactStepLotWrongFalsely : Prop := fnExactStepLotRow.holds Try.pinned (OpenSpec.ofChange fnExactStepLotWrong)

/- THE SECOND FORM. 'bulk': how many values and letters a reading holds, each counted each time it is reached (what is shared counts as often as it is met; a slice's spare places count too). A statement '..UptoSaid' is the law's where the arguments, and the package variables that the reading takes, are together of bulk at most 1048576: NARROWER than '..Said'. Prove '..Said' where nothing that the law and all that it calls make is longer than what came in: it says more and counts as full. Else prove '..UptoSaid'. A law counts once. -/
mutual
def uptoBulk {H : Type} : DataW H → Nat
  | .lit (.string bytes) => bytes.length + 1
  | .lit _ => 1
  | .nil => 1
  | .ptr d => uptoBulk d + 1
  | .slice elems spare => uptoBulkAll elems + uptoBulkAll spare + 1
  | .agg parts => uptoBulkAll parts + 1
  | .iface _ d => uptoBulk d + 1
  | .map entries => uptoBulkEntries entries + 1
  | .held _ => 1
def uptoBulkAll {H : Type} : List (DataW H) → Nat
  | [] => 0
  | d :: r => uptoBulk d + uptoBulkAll r
def uptoBulkEntries {H : Type} : List (Lit × DataW H) → Nat
  | [] => 0
  | x :: r => uptoBulkEntry x + uptoBulkEntries r
def uptoBulkEntry {H : Type} : Lit × DataW H → Nat
  | (.string bytes, d) => bytes.length + uptoBulk d + 1
  | (_, d) => uptoBulk d + 1
 end
def uptoSmall : (H : Type) → List (DataW H) → Bool := fun _ ds => decide (uptoBulkAll ds ≤ 1048576)
def OpenSpec.upto (s : _root_.Go.ChangeSpec) : _root_.Go.OpenSpec := { _root_.Go.OpenSpec.ofChange s with cond := some uptoSmall }

/-- 'laws.FnExactStartLot', WHERE WHAT IT READS IS OF BULK AT MOST 1048576: true; the input reads as it did. -/
def fnExactStartLotUptoRow : OpenClaim := { program := "ytcfjanignfbidaa", sum := "71119170fb3dbffa676c1d9a1cdebf5699ec2f1aa72ddb05b6a9cd42e3c233dd", func := "loop.example/g00057/laws.FnExactStartLot", spec := "fnExactStartLot", apart := false, narrowed := true }
def FnExactStartLotUptoSaid : Prop := fnExactStartLotUptoRow.holds Try.pinned (OpenSpec.upto fnExactStartLotSpec)

/-- 'laws.FnExactSplitLot', WHERE WHAT IT READS IS OF BULK AT MOST 1048576: true; the input reads as it did. -/
def fnExactSplitLotUptoRow : OpenClaim := { program := "ytcfjanignfbidaa", sum := "71119170fb3dbffa676c1d9a1cdebf5699ec2f1aa72ddb05b6a9cd42e3c233dd", func := "loop.example/g00057/laws.FnExactSplitLot", spec := "fnExactSplitLot", unfollowed := true, recurses := true, apart := false, narrowed := true }
def FnExactSplitLotUptoSaid : Prop := fnExactSplitLotUptoRow.holds Try.pinned (OpenSpec.upto fnExactSplitLotSpec)

/-- 'laws.FnExactMergeLots', WHERE WHAT IT READS IS OF BULK AT MOST 1048576: true; the input reads as it did. -/
def fnExactMergeLotsUptoRow : OpenClaim := { program := "ytcfjanignfbidaa", sum := "71119170fb3dbffa676c1d9a1cdebf5699ec2f1aa72ddb05b6a9cd42e3c233dd", func := "loop.example/g00057/laws.FnExactMergeLots", spec := "fnExactMergeLots", apart := false, narrowed := true }
def FnExactMergeLotsUptoSaid : Prop := fnExactMergeLotsUptoRow.holds Try.pinned (OpenSpec.upto fnExactMergeLotsSpec)

/-- 'laws.FnExactHoldLot', WHERE WHAT IT READS IS OF BULK AT MOST 1048576: true; the input reads as it did. -/
def fnExactHoldLotUptoRow : OpenClaim := { program := "ytcfjanignfbidaa", sum := "71119170fb3dbffa676c1d9a1cdebf5699ec2f1aa72ddb05b6a9cd42e3c233dd", func := "loop.example/g00057/laws.FnExactHoldLot", spec := "fnExactHoldLot", apart := false, narrowed := true }
def FnExactHoldLotUptoSaid : Prop := fnExactHoldLotUptoRow.holds Try.pinned (OpenSpec.upto fnExactHoldLotSpec)

/-- 'laws.FnExactScrapWafer', WHERE WHAT IT READS IS OF BULK AT MOST 1048576: true; the input reads as it did. -/
def fnExactScrapWaferUptoRow : OpenClaim := { program := "ytcfjanignfbidaa", sum := "71119170fb3dbffa676c1d9a1cdebf5699ec2f1aa72ddb05b6a9cd42e3c233dd", func := "loop.example/g00057/laws.FnExactScrapWafer", spec := "fnExactScrapWafer", unfollowed := true, recurses := true, apart := false, narrowed := true }
def FnExactScrapWaferUptoSaid : Prop := fnExactScrapWaferUptoRow.holds Try.pinned (OpenSpec.upto fnExactScrapWaferSpec)

/-- 'laws.FnExactStepLot', WHERE WHAT IT READS IS OF BULK AT MOST 1048576: true; the input reads as it did. -/
def fnExactStepLotUptoRow : OpenClaim := { program := "ytcfjanignfbidaa", sum := "71119170fb3dbffa676c1d9a1cdebf5699ec2f1aa72ddb05b6a9cd42e3c233dd", func := "loop.example/g00057/laws.FnExactStepLot", spec := "fnExactStepLot", apart := false, narrowed := true }
def FnExactStepLotUptoSaid : Prop := fnExactStepLotUptoRow.holds Try.pinned (OpenSpec.upto fnExactStepLotSpec)

end Rows
end Go.Proofs.Ytcfjanignfbidaa
