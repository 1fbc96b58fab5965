/-
  No cell of these rows narrows 'for every input' (looked for: loops, veiled, ifaces, maps, wideKeys, modest, calm, conditions, laid).
  DERIVED. THE GIVEN ROWS OF THIS SEAT. 4 by the template 'for every input the law returns true; each argument reads behind the call as it read before'; 0 by the template 'total and deterministic' (their statements: YtbkklnbcoegamaaTotals.lean).
  GIVEN WITH THE SEED: the statements are not yours to turn. If you find one false, say at which input.
  Laid BY PROGRAM, IN A SANDBOX (cutbox-rows.mjs): the forced cells as the released guide's own fill.sh prints them over the translation ad4239506a60b0fa… (all of the seat's roots in one cut). By AI agents, Wed Nov 11 2026. No macro, syntax, notation, axiom, sorry.
-/
import Derived.Test.YtbkklnbcoegamaaChecked
import GoSem.Claim
import GoSem.ClaimJoined
import GoSem.ClaimMapViews
import Derived.JoinedTies
import Derived.KernelRfl
namespace Go.Proofs.Ytbkklnbcoegamaa
/- THE CELL 'sum', in the pinned program and in every row, IS THE sha256 OF THE DUMP (.gsa) THAT YtbkklnbcoegamaaProg.lean LOADS. Nothing in Lean hashes anything: it is a label: what it is worth is what the hold of that sum in a sandbox is worth. -/
noncomputable def Try.pinned : Pinned := { name := "ytbkklnbcoegamaa", sum := "ad4239506a60b0fa6299512a7a622085ac5bad1f6d194a4ba5b9abc9a1205862", checked := Try.checked }
namespace Rows
def none {H : Type} : Left H := { results := [], args := [] }

/-- 'laws.FnExactStepLot': WHATEVER THE INPUT: true; the input reads as it did. -/
def fnExactStepLotSpec : ChangeSpec := { name := "fnExactStepLot", fn := fun _ => fun
  | [d1, d2, d3] => { results := [.lit (.bool true)], args := [d1, d2, d3] }
  | _ => none }
def fnExactStepLotRow : OpenClaim := { program := "ytbkklnbcoegamaa", sum := "ad4239506a60b0fa6299512a7a622085ac5bad1f6d194a4ba5b9abc9a1205862", func := "loop.example/g00057/laws.FnExactStepLot", spec := "fnExactStepLot", apart := false }
def FnExactStepLotSaid : Prop := fnExactStepLotRow.holds Try.pinned (OpenSpec.ofChange fnExactStepLotSpec)

/-- ITS FALSE NEIGHBOUR: 'it returns false'. Refute it at one input. -/
def fnExactStepLotWrong : ChangeSpec := { name := "fnExactStepLot", fn := fun _ => fun
  | [d1, d2, d3] => { results := [.lit (.bool false)], args := [d1, d2, d3] }
  | _ => none }
def FnExactStepLotWrongFalsely : Prop := fnExactStepLotRow.holds Try.pinned (OpenSpec.ofChange fnExactStepLotWrong)

/-- 'laws.FnExactWindowLeft': WHATEVER THE INPUT: true; the input reads as it did. -/
def fnExactWindowLeftSpec : ChangeSpec := { name := "fnExactWindowLeft", fn := fun _ => fun
  | [d1, d2, d3] => { results := [.lit (.bool true)], args := [d1, d2, d3] }
  | _ => none }
def fnExactWindowLeftRow : OpenClaim := { program := "ytbkklnbcoegamaa", sum := "ad4239506a60b0fa6299512a7a622085ac5bad1f6d194a4ba5b9abc9a1205862", func := "loop.example/g00057/laws.FnExactWindowLeft", spec := "fnExactWindowLeft", apart := false }
def FnExactWindowLeftSaid : Prop := fnExactWindowLeftRow.holds Try.pinned (OpenSpec.ofChange fnExactWindowLeftSpec)

/-- ITS FALSE NEIGHBOUR: 'it returns false'. Refute it at one input. -/
def fnExactWindowLeftWrong : ChangeSpec := { name := "fnExactWindowLeft", fn := fun _ => fun
  | [d1, d2, d3] => { results := [.lit (.bool false)], args := [d1, d2, d3] }
  | _ => none }
def FnExactWindowLeftWrongFalsely : Prop := fnExactWindowLeftRow.holds Try.pinned (OpenSpec.ofChange fnExactWindowLeftWrong)

/-- 'laws.FnExactFindWafer': WHATEVER THE INPUT: true; the input reads as it did. -/
def fnExactFindWaferSpec : ChangeSpec := { name := "fnExactFindWafer", fn := fun _ => fun
  | [d1, d2] => { results := [.lit (.bool true)], args := [d1, d2] }
  | _ => none }
def fnExactFindWaferRow : OpenClaim := { program := "ytbkklnbcoegamaa", sum := "ad4239506a60b0fa6299512a7a622085ac5bad1f6d194a4ba5b9abc9a1205862", func := "loop.example/g00057/laws.FnExactFindWafer", spec := "fnExactFindWafer", apart := false }
def FnExactFindWaferSaid : Prop := fnExactFindWaferRow.holds Try.pinned (OpenSpec.ofChange fnExactFindWaferSpec)

/-- ITS FALSE NEIGHBOUR: 'it returns false'. Refute it at one input. -/
def fnExactFindWaferWrong : ChangeSpec := { name := "fnExactFindWafer", fn := fun _ => fun
  | [d1, d2] => { results := [.lit (.bool false)], args := [d1, d2] }
  | _ => none }
def FnExactFindWaferWrongFalsely : Prop := fnExactFindWaferRow.holds Try.pinned (OpenSpec.ofChange fnExactFindWaferWrong)

/-- 'laws.FnExactLineageOf': WHATEVER THE INPUT: true; the input reads as it did. -/
def fnExactLineageOfSpec : ChangeSpec := { name := "fnExactLineageOf", fn := fun _ => fun
  | [d1, d2] => { results := [.lit (.bool true)], args := [d1, d2] }
  | _ => none }
def fnExactLineageOfRow : OpenClaim := { program := "ytbkklnbcoegamaa", sum := "ad4239506a60b0fa6299512a7a622085ac5bad1f6d194a4ba5b9abc9a1205862", func := "loop.example/g00057/laws.FnExactLineageOf", spec := "fnExactLineageOf", apart := false }
def FnExactLineageOfSaid : Prop := fnExactLineageOfRow.holds Try.pinned (OpenSpec.ofChange fnExactLineageOfSpec)

/-- ITS FALSE NEIGHBOUR: 'it returns false'. Refute it at one input. -/
def fnExactLineageOfWrong : ChangeSpec := { name := "fnExactLineageOf", fn := fun _ => fun
  | [d1, d2] => { results := [.lit (.bool false)], args := [d1, d2] }
  | _ => none }
def FnExactLineageOfWrongFalsely : Prop := fnExactLineageOfRow.holds Try.pinned (OpenSpec.ofChange fnExactLineageOfWrong)

/- THE SECOND FORM. 'bulk': how many values and letters a reading holds, each counted each time it is reached (what is shared counts as often as it is met; a slice's spare places count too). A statement '..UptoSaid' is the law's where the arguments, and the package variables that the reading takes, are together of bulk at most 1048576: NARROWER than '..Said'. Prove '..Said' where nothing that the law and all that it calls make is longer than what came in: it says more and counts as full. Else prove '..UptoSaid'. A law counts once. -/
mutual
def uptoBulk {H : Type} : DataW H → Nat
  | .lit (.string bytes) => bytes.length + 1
  | .lit _ => 1
  | .nil => 1
  | .ptr d => uptoBulk d + 1
  | .slice elems spare => uptoBulkAll elems + uptoBulkAll spare + 1
  | .agg parts => uptoBulkAll parts + 1
  | .iface _ d => uptoBulk d + 1
  | .map entries => uptoBulkEntries entries + 1
  | .held _ => 1
def uptoBulkAll {H : Type} : List (DataW H) → Nat
  | [] => 0
  | d :: r => uptoBulk d + uptoBulkAll r
def uptoBulkEntries {H : Type} : List (Lit × DataW H) → Nat
  | [] => 0
  | x :: r => uptoBulkEntry x + uptoBulkEntries r
def uptoBulkEntry {H : Type} : Lit × DataW H → Nat
  | (.string bytes, d) => bytes.length + uptoBulk d + 1
  | (_, d) => uptoBulk d + 1
 end
def uptoSmall : (H : Type) → List (DataW H) → Bool := fun _ ds => decide (uptoBulkAll ds ≤ 1048576)
def OpenSpec.upto (s : _root_.Go.ChangeSpec) : _root_.Go.OpenSpec := { _root_.Go.OpenSpec.ofChange s with cond := some uptoSmall }

/-- 'laws.FnExactStepLot', WHERE WHAT IT READS IS OF BULK AT MOST 1048576: true; the input reads as it did. -/
def fnExactStepLotUptoRow : OpenClaim := { program := "ytbkklnbcoegamaa", sum := "ad4239506a60b0fa6299512a7a622085ac5bad1f6d194a4ba5b9abc9a1205862", func := "loop.example/g00057/laws.FnExactStepLot", spec := "fnExactStepLot", apart := false, narrowed := true }
def FnExactStepLotUptoSaid : Prop := fnExactStepLotUptoRow.holds Try.pinned (OpenSpec.upto fnExactStepLotSpec)

/-- 'laws.FnExactWindowLeft', WHERE WHAT IT READS IS OF BULK AT MOST 1048576: true; the input reads as it did. -/
def fnExactWindowLeftUptoRow : OpenClaim := { program := "ytbkklnbcoegamaa", sum := "ad4239506a60b0fa6299512a7a622085ac5bad1f6d194a4ba5b9abc9a1205862", func := "loop.example/g00057/laws.FnExactWindowLeft", spec := "fnExactWindowLeft", apart := false, narrowed := true }
def FnExactWindowLeftUptoSaid : Prop := fnExactWindowLeftUptoRow.holds Try.pinned (OpenSpec.upto fnExactWindowLeftSpec)

/-- 'laws.FnExactFindWafer', WHERE WHAT IT READS IS OF BULK AT MOST 1048576: true; the input reads as it did. -/
def fnExactFindWaferUptoRow : OpenClaim := { program := "ytbkklnbcoegamaa", sum := "ad4239506a60b0fa6299512a7a622085ac5bad1f6d194a4ba5b9abc9a1205862", func := "loop.example/g00057/laws.FnExactFindWafer", spec := "fnExactFindWafer", apart := false, narrowed := true }
def FnExactFindWaferUptoSaid : Prop := fnExactFindWaferUptoRow.holds Try.pinned (OpenSpec.upto fnExactFindWaferSpec)

/-- 'laws.FnExactLineageOf', WHERE WHAT IT READS IS OF BULK AT MOST 1048576: true; the input reads as it did. -/
def fnExactLineageOfUptoRow : OpenClaim := { program := "ytbkklnbcoegamaa", sum := "ad4239506a60b0fa6299512a7a622085ac5bad1f6d194a4ba5b9abc9a1205862", func := "loop.example/g00057/laws.FnExactLineageOf", spec := "fnExactLineageOf", apart := false, narrowed := true }
def FnExactLineageOfUptoSaid : Prop := fnExactLineageOfUptoRow.holds Try.pinned (OpenSpec.upto fnExactLineageOfSpec)

end Rows
end Go.Proofs.Ytbkklnbcoegamaa
