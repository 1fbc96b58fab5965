/-
  No cell of these rows narrows 'for every input' (looked for: loops, veiled, ifaces, maps, wideKeys, modest, calm, conditions, laid).
  DERIVED. THE GIVEN ROWS OF THIS SEAT. 5 by the template 'for every input the law returns true; each argument reads behind the call as it read before'; 0 by the template 'total and deterministic' (their statements: YtokdpgabmifdjabTotals.lean).
  GIVEN WITH THE SEED: the statements are not yours to turn. If you find one false, say at which input.
  Laid BY PROGRAM, IN A SANDBOX (cutbox-rows.mjs): the forced cells as the released guide's own fill.sh prints them over the translation 04d872b4ac7b5c7a… (all of the seat's roots in one cut). By AI agents, Wed Nov 11 2026. No macro, syntax, notation, axiom, sorry.
-/
import Derived.Test.YtokdpgabmifdjabChecked
import GoSem.Claim
import GoSem.ClaimJoined
import GoSem.ClaimMapViews
import Derived.JoinedTies
import Derived.KernelRfl
namespace Go.Proofs.Ytokdpgabmifdjab
/- THE CELL 'sum', in the pinned program and in every row, IS THE sha256 OF THE DUMP (.gsa) THAT YtokdpgabmifdjabProg.lean LOADS. Nothing in Lean hashes anything: it is a label: what it is worth is what the hold of that sum in a sandbox is worth. -/
noncomputable def Try.pinned : Pinned := { name := "ytokdpgabmifdjab", sum := "04d872b4ac7b5c7acc54b11001c802d7cc3c3b68cc9b2ef57d61b0223c204aa6", checked := Try.checked }
namespace Rows
def none {H : Type} : Left H := { results := [], args := [] }

/-- 'laws.FnExactThinOf': WHATEVER THE INPUT: true; the input reads as it did. -/
def fnExactThinOfSpec : ChangeSpec := { name := "fnExactThinOf", fn := fun _ => fun
  | [d1, d2] => { results := [.lit (.bool true)], args := [d1, d2] }
  | _ => none }
def fnExactThinOfRow : OpenClaim := { program := "ytokdpgabmifdjab", sum := "04d872b4ac7b5c7acc54b11001c802d7cc3c3b68cc9b2ef57d61b0223c204aa6", func := "loop.example/g00057/laws.FnExactThinOf", spec := "fnExactThinOf", unfollowed := true, recurses := true, apart := false }
def FnExactThinOfSaid : Prop := fnExactThinOfRow.holds Try.pinned (OpenSpec.ofChange fnExactThinOfSpec)

/-- ITS FALSE NEIGHBOUR: 'it returns false'. Refute it at one input. -/
def fnExactThinOfWrong : ChangeSpec := { name := "fnExactThinOf", fn := fun _ => fun
  | [d1, d2] => { results := [.lit (.bool false)], args := [d1, d2] }
  | _ => none }
def FnExactThinOfWrongFalsely : Prop := fnExactThinOfRow.holds Try.pinned (OpenSpec.ofChange fnExactThinOfWrong)

/-- 'laws.FnExactNearOf': WHATEVER THE INPUT: true; the input reads as it did. -/
def fnExactNearOfSpec : ChangeSpec := { name := "fnExactNearOf", fn := fun _ => fun
  | [d1, d2] => { results := [.lit (.bool true)], args := [d1, d2] }
  | _ => none }
def fnExactNearOfRow : OpenClaim := { program := "ytokdpgabmifdjab", sum := "04d872b4ac7b5c7acc54b11001c802d7cc3c3b68cc9b2ef57d61b0223c204aa6", func := "loop.example/g00057/laws.FnExactNearOf", spec := "fnExactNearOf", unfollowed := true, recurses := true, apart := false }
def FnExactNearOfSaid : Prop := fnExactNearOfRow.holds Try.pinned (OpenSpec.ofChange fnExactNearOfSpec)

/-- ITS FALSE NEIGHBOUR: 'it returns false'. Refute it at one input. -/
def fnExactNearOfWrong : ChangeSpec := { name := "fnExactNearOf", fn := fun _ => fun
  | [d1, d2] => { results := [.lit (.bool false)], args := [d1, d2] }
  | _ => none }
def FnExactNearOfWrongFalsely : Prop := fnExactNearOfRow.holds Try.pinned (OpenSpec.ofChange fnExactNearOfWrong)

/-- 'laws.FnExactPartsOf': WHATEVER THE INPUT: true; the input reads as it did. -/
def fnExactPartsOfSpec : ChangeSpec := { name := "fnExactPartsOf", fn := fun _ => fun
  | [d] => { results := [.lit (.bool true)], args := [d] }
  | _ => none }
def fnExactPartsOfRow : OpenClaim := { program := "ytokdpgabmifdjab", sum := "04d872b4ac7b5c7acc54b11001c802d7cc3c3b68cc9b2ef57d61b0223c204aa6", func := "loop.example/g00057/laws.FnExactPartsOf", spec := "fnExactPartsOf", unfollowed := true, recurses := true, apart := false }
def FnExactPartsOfSaid : Prop := fnExactPartsOfRow.holds Try.pinned (OpenSpec.ofChange fnExactPartsOfSpec)

/-- ITS FALSE NEIGHBOUR: 'it returns false'. Refute it at one input. -/
def fnExactPartsOfWrong : ChangeSpec := { name := "fnExactPartsOf", fn := fun _ => fun
  | [d] => { results := [.lit (.bool false)], args := [d] }
  | _ => none }
def FnExactPartsOfWrongFalsely : Prop := fnExactPartsOfRow.holds Try.pinned (OpenSpec.ofChange fnExactPartsOfWrong)

/-- 'laws.FnExactSmallOf': WHATEVER THE INPUT: true; the input reads as it did. -/
def fnExactSmallOfSpec : ChangeSpec := { name := "fnExactSmallOf", fn := fun _ => fun
  | [d1, d2] => { results := [.lit (.bool true)], args := [d1, d2] }
  | _ => none }
def fnExactSmallOfRow : OpenClaim := { program := "ytokdpgabmifdjab", sum := "04d872b4ac7b5c7acc54b11001c802d7cc3c3b68cc9b2ef57d61b0223c204aa6", func := "loop.example/g00057/laws.FnExactSmallOf", spec := "fnExactSmallOf", unfollowed := true, recurses := true, apart := false }
def FnExactSmallOfSaid : Prop := fnExactSmallOfRow.holds Try.pinned (OpenSpec.ofChange fnExactSmallOfSpec)

/-- ITS FALSE NEIGHBOUR: 'it returns false'. Refute it at one input. -/
def fnExactSmallOfWrong : ChangeSpec := { name := "fnExactSmallOf", fn := fun _ => fun
  | [d1, d2] => { results := [.lit (.bool false)], args := [d1, d2] }
  | _ => none }
def FnExactSmallOfWrongFalsely : Prop := fnExactSmallOfRow.holds Try.pinned (OpenSpec.ofChange fnExactSmallOfWrong)

/-- 'laws.FnCells': WHATEVER THE INPUT: true; the input reads as it did. -/
def fnCellsSpec : ChangeSpec := { name := "fnCells", fn := fun _ => fun
  | [d] => { results := [.lit (.bool true)], args := [d] }
  | _ => none }
def fnCellsRow : OpenClaim := { program := "ytokdpgabmifdjab", sum := "04d872b4ac7b5c7acc54b11001c802d7cc3c3b68cc9b2ef57d61b0223c204aa6", func := "loop.example/g00057/laws.FnCells", spec := "fnCells", apart := false }
def FnCellsSaid : Prop := fnCellsRow.holds Try.pinned (OpenSpec.ofChange fnCellsSpec)

/-- ITS FALSE NEIGHBOUR: 'it returns false'. Refute it at one input. -/
def fnCellsWrong : ChangeSpec := { name := "fnCells", fn := fun _ => fun
  | [d] => { results := [.lit (.bool false)], args := [d] }
  | _ => none }
def FnCellsWrongFalsely : Prop := fnCellsRow.holds Try.pinned (OpenSpec.ofChange fnCellsWrong)

/- THE SECOND FORM. 'bulk': how many values and letters a reading holds, each counted each time it is reached (what is shared counts as often as it is met; a slice's spare places count too). A statement '..UptoSaid' is the law's where the arguments, and the package variables that the reading takes, are together of bulk at most 1048576: NARROWER than '..Said'. Prove '..Said' where nothing that the law and all that it calls make is longer than what came in: it says more and counts as full. Else prove '..UptoSaid'. A law counts once. -/
mutual
def uptoBulk {H : Type} : DataW H → Nat
  | .lit (.string bytes) => bytes.length + 1
  | .lit _ => 1
  | .nil => 1
  | .ptr d => uptoBulk d + 1
  | .slice elems spare => uptoBulkAll elems + uptoBulkAll spare + 1
  | .agg parts => uptoBulkAll parts + 1
  | .iface _ d => uptoBulk d + 1
  | .map entries => uptoBulkEntries entries + 1
  | .held _ => 1
def uptoBulkAll {H : Type} : List (DataW H) → Nat
  | [] => 0
  | d :: r => uptoBulk d + uptoBulkAll r
def uptoBulkEntries {H : Type} : List (Lit × DataW H) → Nat
  | [] => 0
  | x :: r => uptoBulkEntry x + uptoBulkEntries r
def uptoBulkEntry {H : Type} : Lit × DataW H → Nat
  | (.string bytes, d) => bytes.length + uptoBulk d + 1
  | (_, d) => uptoBulk d + 1
 end
def uptoSmall : (H : Type) → List (DataW H) → Bool := fun _ ds => decide (uptoBulkAll ds ≤ 1048576)
def OpenSpec.upto (s : _root_.Go.ChangeSpec) : _root_.Go.OpenSpec := { _root_.Go.OpenSpec.ofChange s with cond := some uptoSmall }

/-- 'laws.FnExactThinOf', WHERE WHAT IT READS IS OF BULK AT MOST 1048576: true; the input reads as it did. -/
def fnExactThinOfUptoRow : OpenClaim := { program := "ytokdpgabmifdjab", sum := "04d872b4ac7b5c7acc54b11001c802d7cc3c3b68cc9b2ef57d61b0223c204aa6", func := "loop.example/g00057/laws.FnExactThinOf", spec := "fnExactThinOf", unfollowed := true, recurses := true, apart := false, narrowed := true }
def FnExactThinOfUptoSaid : Prop := fnExactThinOfUptoRow.holds Try.pinned (OpenSpec.upto fnExactThinOfSpec)

/-- 'laws.FnExactNearOf', WHERE WHAT IT READS IS OF BULK AT MOST 1048576: true; the input reads as it did. -/
def fnExactNearOfUptoRow : OpenClaim := { program := "ytokdpgabmifdjab", sum := "04d872b4ac7b5c7acc54b11001c802d7cc3c3b68cc9b2ef57d61b0223c204aa6", func := "loop.example/g00057/laws.FnExactNearOf", spec := "fnExactNearOf", unfollowed := true, recurses := true, apart := false, narrowed := true }
def FnExactNearOfUptoSaid : Prop := fnExactNearOfUptoRow.holds Try.pinned (OpenSpec.upto fnExactNearOfSpec)

/-- 'laws.FnExactPartsOf', WHERE WHAT IT READS IS OF BULK AT MOST 1048576: true; the input reads as it did. -/
def fnExactPartsOfUptoRow : OpenClaim := { program := "ytokdpgabmifdjab", sum := "04d872b4ac7b5c7acc54b11001c802d7cc3c3b68cc9b2ef57d61b0223c204aa6", func := "loop.example/g00057/laws.FnExactPartsOf", spec := "fnExactPartsOf", unfollowed := true, recurses := true, apart := false, narrowed := true }
def FnExactPartsOfUptoSaid : Prop := fnExactPartsOfUptoRow.holds Try.pinned (OpenSpec.upto fnExactPartsOfSpec)

/-- 'laws.FnExactSmallOf', WHERE WHAT IT READS IS OF BULK AT MOST 1048576: true; the input reads as it did. -/
def fnExactSmallOfUptoRow : OpenClaim := { program := "ytokdpgabmifdjab", sum := "04d872b4ac7b5c7acc54b11001c802d7cc3c3b68cc9b2ef57d61b0223c204aa6", func := "loop.example/g00057/laws.FnExactSmallOf", spec := "fnExactSmallOf", unfollowed := true, recurses := true, apart := false, narrowed := true }
def FnExactSmallOfUptoSaid : Prop := fnExactSmallOfUptoRow.holds Try.pinned (OpenSpec.upto fnExactSmallOfSpec)

/-- 'laws.FnCells', WHERE WHAT IT READS IS OF BULK AT MOST 1048576: true; the input reads as it did. -/
def fnCellsUptoRow : OpenClaim := { program := "ytokdpgabmifdjab", sum := "04d872b4ac7b5c7acc54b11001c802d7cc3c3b68cc9b2ef57d61b0223c204aa6", func := "loop.example/g00057/laws.FnCells", spec := "fnCells", apart := false, narrowed := true }
def FnCellsUptoSaid : Prop := fnCellsUptoRow.holds Try.pinned (OpenSpec.upto fnCellsSpec)

end Rows
end Go.Proofs.Ytokdpgabmifdjab
