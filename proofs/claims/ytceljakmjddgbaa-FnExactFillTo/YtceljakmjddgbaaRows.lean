/-
  No cell of these rows narrows 'for every input' (looked for: loops, veiled, ifaces, maps, wideKeys, modest, calm, conditions, laid).
  DERIVED. THE GIVEN ROWS OF THIS SEAT. 6 by the template 'for every input the law returns true; each argument reads behind the call as it read before'; 0 by the template 'total and deterministic' (their statements: YtceljakmjddgbaaTotals.lean).
  GIVEN WITH THE SEED: the statements are not yours to turn. If you find one false, say at which input.
  Laid BY PROGRAM, IN A SANDBOX (cutbox-rows.mjs): the forced cells as the released guide's own fill.sh prints them over the translation f645c5524618d627… (all of the seat's roots in one cut). By AI agents, Wed Nov 11 2026. No macro, syntax, notation, axiom, sorry.
-/
import Derived.Test.YtceljakmjddgbaaChecked
import GoSem.Claim
import GoSem.ClaimJoined
import GoSem.ClaimMapViews
import Derived.JoinedTies
import Derived.KernelRfl
namespace Go.Proofs.Ytceljakmjddgbaa
/- THE CELL 'sum', in the pinned program and in every row, IS THE sha256 OF THE DUMP (.gsa) THAT YtceljakmjddgbaaProg.lean LOADS. Nothing in Lean hashes anything: it is a label: what it is worth is what the hold of that sum in a sandbox is worth. -/
noncomputable def Try.pinned : Pinned := { name := "ytceljakmjddgbaa", sum := "f645c5524618d6273510bf069220117aeddd55207fe41807bf0883990e353d13", checked := Try.checked }
namespace Rows
def none {H : Type} : Left H := { results := [], args := [] }

/-- 'laws.FnExactSolveRows': WHATEVER THE INPUT: true; the input reads as it did. -/
def fnExactSolveRowsSpec : ChangeSpec := { name := "fnExactSolveRows", fn := fun _ => fun
  | [d1, d2] => { results := [.lit (.bool true)], args := [d1, d2] }
  | _ => none }
def fnExactSolveRowsRow : OpenClaim := { program := "ytceljakmjddgbaa", sum := "f645c5524618d6273510bf069220117aeddd55207fe41807bf0883990e353d13", func := "loop.example/g00057/laws.FnExactSolveRows", spec := "fnExactSolveRows", unfollowed := true, recurses := true, apart := false }
def FnExactSolveRowsSaid : Prop := fnExactSolveRowsRow.holds Try.pinned (OpenSpec.ofChange fnExactSolveRowsSpec)

/-- ITS FALSE NEIGHBOUR: 'it returns false'. Refute it at one input. -/
def fnExactSolveRowsWrong : ChangeSpec := { name := "fnExactSolveRows", fn := fun _ => fun
  | [d1, d2] => { results := [.lit (.bool false)], args := [d1, d2] }
  | _ => none }
def FnExactSolveRowsWrongFalsely : Prop := fnExactSolveRowsRow.holds Try.pinned (OpenSpec.ofChange fnExactSolveRowsWrong)

/-- 'laws.FnExactSectionFault': WHATEVER THE INPUT: true; the input reads as it did. -/
def fnExactSectionFaultSpec : ChangeSpec := { name := "fnExactSectionFault", fn := fun _ => fun
  | [d] => { results := [.lit (.bool true)], args := [d] }
  | _ => none }
def fnExactSectionFaultRow : OpenClaim := { program := "ytceljakmjddgbaa", sum := "f645c5524618d6273510bf069220117aeddd55207fe41807bf0883990e353d13", func := "loop.example/g00057/laws.FnExactSectionFault", spec := "fnExactSectionFault", apart := false }
def FnExactSectionFaultSaid : Prop := fnExactSectionFaultRow.holds Try.pinned (OpenSpec.ofChange fnExactSectionFaultSpec)

/-- ITS FALSE NEIGHBOUR: 'it returns false'. Refute it at one input. -/
def fnExactSectionFaultWrong : ChangeSpec := { name := "fnExactSectionFault", fn := fun _ => fun
  | [d] => { results := [.lit (.bool false)], args := [d] }
  | _ => none }
def FnExactSectionFaultWrongFalsely : Prop := fnExactSectionFaultRow.holds Try.pinned (OpenSpec.ofChange fnExactSectionFaultWrong)

/-- 'laws.FnExactTopOf': WHATEVER THE INPUT: true; the input reads as it did. -/
def fnExactTopOfSpec : ChangeSpec := { name := "fnExactTopOf", fn := fun _ => fun
  | [d1, d2] => { results := [.lit (.bool true)], args := [d1, d2] }
  | _ => none }
def fnExactTopOfRow : OpenClaim := { program := "ytceljakmjddgbaa", sum := "f645c5524618d6273510bf069220117aeddd55207fe41807bf0883990e353d13", func := "loop.example/g00057/laws.FnExactTopOf", spec := "fnExactTopOf", apart := false }
def FnExactTopOfSaid : Prop := fnExactTopOfRow.holds Try.pinned (OpenSpec.ofChange fnExactTopOfSpec)

/-- ITS FALSE NEIGHBOUR: 'it returns false'. Refute it at one input. -/
def fnExactTopOfWrong : ChangeSpec := { name := "fnExactTopOf", fn := fun _ => fun
  | [d1, d2] => { results := [.lit (.bool false)], args := [d1, d2] }
  | _ => none }
def FnExactTopOfWrongFalsely : Prop := fnExactTopOfRow.holds Try.pinned (OpenSpec.ofChange fnExactTopOfWrong)

/-- 'laws.FnExactMatterOf': WHATEVER THE INPUT: true; the input reads as it did. -/
def fnExactMatterOfSpec : ChangeSpec := { name := "fnExactMatterOf", fn := fun _ => fun
  | [d] => { results := [.lit (.bool true)], args := [d] }
  | _ => none }
def fnExactMatterOfRow : OpenClaim := { program := "ytceljakmjddgbaa", sum := "f645c5524618d6273510bf069220117aeddd55207fe41807bf0883990e353d13", func := "loop.example/g00057/laws.FnExactMatterOf", spec := "fnExactMatterOf", apart := false }
def FnExactMatterOfSaid : Prop := fnExactMatterOfRow.holds Try.pinned (OpenSpec.ofChange fnExactMatterOfSpec)

/-- ITS FALSE NEIGHBOUR: 'it returns false'. Refute it at one input. -/
def fnExactMatterOfWrong : ChangeSpec := { name := "fnExactMatterOf", fn := fun _ => fun
  | [d] => { results := [.lit (.bool false)], args := [d] }
  | _ => none }
def FnExactMatterOfWrongFalsely : Prop := fnExactMatterOfRow.holds Try.pinned (OpenSpec.ofChange fnExactMatterOfWrong)

/-- 'laws.FnExactDeposit': WHATEVER THE INPUT: true; the input reads as it did. -/
def fnExactDepositSpec : ChangeSpec := { name := "fnExactDeposit", fn := fun _ => fun
  | [d1, d2, d3] => { results := [.lit (.bool true)], args := [d1, d2, d3] }
  | _ => none }
def fnExactDepositRow : OpenClaim := { program := "ytceljakmjddgbaa", sum := "f645c5524618d6273510bf069220117aeddd55207fe41807bf0883990e353d13", func := "loop.example/g00057/laws.FnExactDeposit", spec := "fnExactDeposit", unfollowed := true, recurses := true, apart := false }
def FnExactDepositSaid : Prop := fnExactDepositRow.holds Try.pinned (OpenSpec.ofChange fnExactDepositSpec)

/-- ITS FALSE NEIGHBOUR: 'it returns false'. Refute it at one input. -/
def fnExactDepositWrong : ChangeSpec := { name := "fnExactDeposit", fn := fun _ => fun
  | [d1, d2, d3] => { results := [.lit (.bool false)], args := [d1, d2, d3] }
  | _ => none }
def FnExactDepositWrongFalsely : Prop := fnExactDepositRow.holds Try.pinned (OpenSpec.ofChange fnExactDepositWrong)

/-- 'laws.FnExactFillTo': WHATEVER THE INPUT: true; the input reads as it did. -/
def fnExactFillToSpec : ChangeSpec := { name := "fnExactFillTo", fn := fun _ => fun
  | [d1, d2, d3] => { results := [.lit (.bool true)], args := [d1, d2, d3] }
  | _ => none }
def fnExactFillToRow : OpenClaim := { program := "ytceljakmjddgbaa", sum := "f645c5524618d6273510bf069220117aeddd55207fe41807bf0883990e353d13", func := "loop.example/g00057/laws.FnExactFillTo", spec := "fnExactFillTo", unfollowed := true, recurses := true, apart := false }
def FnExactFillToSaid : Prop := fnExactFillToRow.holds Try.pinned (OpenSpec.ofChange fnExactFillToSpec)

/-- ITS FALSE NEIGHBOUR: 'it returns false'. Refute it at one input. -/
def fnExactFillToWrong : ChangeSpec := { name := "fnExactFillTo", fn := fun _ => fun
  | [d1, d2, d3] => { results := [.lit (.bool false)], args := [d1, d2, d3] }
  | _ => none }
def FnExactFillToWrongFalsely : Prop := fnExactFillToRow.holds Try.pinned (OpenSpec.ofChange fnExactFillToWrong)

/- THE SECOND FORM. 'bulk': how many values and letters a reading holds, each counted each time it is reached (what is shared counts as often as it is met; a slice's spare places count too). A statement '..UptoSaid' is the law's where the arguments, and the package variables that the reading takes, are together of bulk at most 1048576: NARROWER than '..Said'. Prove '..Said' where nothing that the law and all that it calls make is longer than what came in: it says more and counts as full. Else prove '..UptoSaid'. A law counts once. -/
mutual
def uptoBulk {H : Type} : DataW H → Nat
  | .lit (.string bytes) => bytes.length + 1
  | .lit _ => 1
  | .nil => 1
  | .ptr d => uptoBulk d + 1
  | .slice elems spare => uptoBulkAll elems + uptoBulkAll spare + 1
  | .agg parts => uptoBulkAll parts + 1
  | .iface _ d => uptoBulk d + 1
  | .map entries => uptoBulkEntries entries + 1
  | .held _ => 1
def uptoBulkAll {H : Type} : List (DataW H) → Nat
  | [] => 0
  | d :: r => uptoBulk d + uptoBulkAll r
def uptoBulkEntries {H : Type} : List (Lit × DataW H) → Nat
  | [] => 0
  | x :: r => uptoBulkEntry x + uptoBulkEntries r
def uptoBulkEntry {H : Type} : Lit × DataW H → Nat
  | (.string bytes, d) => bytes.length + uptoBulk d + 1
  | (_, d) => uptoBulk d + 1
 end
def uptoSmall : (H : Type) → List (DataW H) → Bool := fun _ ds => decide (uptoBulkAll ds ≤ 1048576)
def OpenSpec.upto (s : _root_.Go.ChangeSpec) : _root_.Go.OpenSpec := { _root_.Go.OpenSpec.ofChange s with cond := some uptoSmall }

/-- 'laws.FnExactSolveRows', WHERE WHAT IT READS IS OF BULK AT MOST 1048576: true; the input reads as it did. -/
def fnExactSolveRowsUptoRow : OpenClaim := { program := "ytceljakmjddgbaa", sum := "f645c5524618d6273510bf069220117aeddd55207fe41807bf0883990e353d13", func := "loop.example/g00057/laws.FnExactSolveRows", spec := "fnExactSolveRows", unfollowed := true, recurses := true, apart := false, narrowed := true }
def FnExactSolveRowsUptoSaid : Prop := fnExactSolveRowsUptoRow.holds Try.pinned (OpenSpec.upto fnExactSolveRowsSpec)

/-- 'laws.FnExactSectionFault', WHERE WHAT IT READS IS OF BULK AT MOST 1048576: true; the input reads as it did. -/
def fnExactSectionFaultUptoRow : OpenClaim := { program := "ytceljakmjddgbaa", sum := "f645c5524618d6273510bf069220117aeddd55207fe41807bf0883990e353d13", func := "loop.example/g00057/laws.FnExactSectionFault", spec := "fnExactSectionFault", apart := false, narrowed := true }
def FnExactSectionFaultUptoSaid : Prop := fnExactSectionFaultUptoRow.holds Try.pinned (OpenSpec.upto fnExactSectionFaultSpec)

/-- 'laws.FnExactTopOf', WHERE WHAT IT READS IS OF BULK AT MOST 1048576: true; the input reads as it did. -/
def fnExactTopOfUptoRow : OpenClaim := { program := "ytceljakmjddgbaa", sum := "f645c5524618d6273510bf069220117aeddd55207fe41807bf0883990e353d13", func := "loop.example/g00057/laws.FnExactTopOf", spec := "fnExactTopOf", apart := false, narrowed := true }
def FnExactTopOfUptoSaid : Prop := fnExactTopOfUptoRow.holds Try.pinned (OpenSpec.upto fnExactTopOfSpec)

/-- 'laws.FnExactMatterOf', WHERE WHAT IT READS IS OF BULK AT MOST 1048576: true; the input reads as it did. -/
def fnExactMatterOfUptoRow : OpenClaim := { program := "ytceljakmjddgbaa", sum := "f645c5524618d6273510bf069220117aeddd55207fe41807bf0883990e353d13", func := "loop.example/g00057/laws.FnExactMatterOf", spec := "fnExactMatterOf", apart := false, narrowed := true }
def FnExactMatterOfUptoSaid : Prop := fnExactMatterOfUptoRow.holds Try.pinned (OpenSpec.upto fnExactMatterOfSpec)

/-- 'laws.FnExactDeposit', WHERE WHAT IT READS IS OF BULK AT MOST 1048576: true; the input reads as it did. -/
def fnExactDepositUptoRow : OpenClaim := { program := "ytceljakmjddgbaa", sum := "f645c5524618d6273510bf069220117aeddd55207fe41807bf0883990e353d13", func := "loop.example/g00057/laws.FnExactDeposit", spec := "fnExactDeposit", unfollowed := true, recurses := true, apart := false, narrowed := true }
def FnExactDepositUptoSaid : Prop := fnExactDepositUptoRow.holds Try.pinned (OpenSpec.upto fnExactDepositSpec)

/-- 'laws.FnExactFillTo', WHERE WHAT IT READS IS OF BULK AT MOST 1048576: true; the input reads as it did. -/
def fnExactFillToUptoRow : OpenClaim := { program := "ytceljakmjddgbaa", sum := "f645c5524618d6273510bf069220117aeddd55207fe41807bf0883990e353d13", func := "loop.example/g00057/laws.FnExactFillTo", spec := "fnExactFillTo", unfollowed := true, recurses := true, apart := false, narrowed := true }
def FnExactFillToUptoSaid : Prop := fnExactFillToUptoRow.holds Try.pinned (OpenSpec.upto fnExactFillToSpec)

end Rows
end Go.Proofs.Ytceljakmjddgbaa
