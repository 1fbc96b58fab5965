/-
  No cell of these rows narrows 'for every input' (looked for: loops, veiled, ifaces, maps, wideKeys, modest, calm, conditions, laid).
  DERIVED. THE GIVEN ROWS OF THIS SEAT. 6 by the template 'for every input the law returns true; each argument reads behind the call as it read before'; 0 by the template 'total and deterministic' (their statements: YtkdpifplhhcpaaaTotals.lean).
  GIVEN WITH THE SEED: the statements are not yours to turn. If you find one false, say at which input.
  Laid BY PROGRAM, IN A SANDBOX (cutbox-rows.mjs): the forced cells as the released guide's own fill.sh prints them over the translation df1de9425e9ac97f… (all of the seat's roots in one cut). By AI agents, Wed Nov 11 2026. No macro, syntax, notation, axiom, sorry.
-/
import Derived.Test.YtkdpifplhhcpaaaChecked
import GoSem.Claim
import GoSem.ClaimJoined
import GoSem.ClaimMapViews
import Derived.JoinedTies
import Derived.KernelRfl
namespace Go.Proofs.Ytkdpifplhhcpaaa
/- THE CELL 'sum', in the pinned program and in every row, IS THE sha256 OF THE DUMP (.gsa) THAT YtkdpifplhhcpaaaProg.lean LOADS. Nothing in Lean hashes anything: it is a label: what it is worth is what the hold of that sum in a sandbox is worth. -/
noncomputable def Try.pinned : Pinned := { name := "ytkdpifplhhcpaaa", sum := "df1de9425e9ac97f7acc8bb9b254e556d5967ffb6bfda58fe16cd3ddfce4cfb1", checked := Try.checked }
namespace Rows
def none {H : Type} : Left H := { results := [], args := [] }

/-- 'laws.FnExactBinOf': WHATEVER THE INPUT: true; the input reads as it did. -/
def fnExactBinOfSpec : ChangeSpec := { name := "fnExactBinOf", fn := fun _ => fun
  | [d1, d2] => { results := [.lit (.bool true)], args := [d1, d2] }
  | _ => none }
def fnExactBinOfRow : OpenClaim := { program := "ytkdpifplhhcpaaa", sum := "df1de9425e9ac97f7acc8bb9b254e556d5967ffb6bfda58fe16cd3ddfce4cfb1", func := "loop.example/g00057/laws.FnExactBinOf", spec := "fnExactBinOf", unfollowed := true, recurses := true, apart := false }
def FnExactBinOfSaid : Prop := fnExactBinOfRow.holds Try.pinned (OpenSpec.ofChange fnExactBinOfSpec)

/-- ITS FALSE NEIGHBOUR: 'it returns false'. Refute it at one input. -/
def fnExactBinOfWrong : ChangeSpec := { name := "fnExactBinOf", fn := fun _ => fun
  | [d1, d2] => { results := [.lit (.bool false)], args := [d1, d2] }
  | _ => none }
def FnExactBinOfWrongFalsely : Prop := fnExactBinOfRow.holds Try.pinned (OpenSpec.ofChange fnExactBinOfWrong)

/-- 'laws.FnExactVerdict': WHATEVER THE INPUT: true; the input reads as it did. -/
def fnExactVerdictSpec : ChangeSpec := { name := "fnExactVerdict", fn := fun _ => fun
  | [d] => { results := [.lit (.bool true)], args := [d] }
  | _ => none }
def fnExactVerdictRow : OpenClaim := { program := "ytkdpifplhhcpaaa", sum := "df1de9425e9ac97f7acc8bb9b254e556d5967ffb6bfda58fe16cd3ddfce4cfb1", func := "loop.example/g00057/laws.FnExactVerdict", spec := "fnExactVerdict", unfollowed := true, recurses := true, apart := false }
def FnExactVerdictSaid : Prop := fnExactVerdictRow.holds Try.pinned (OpenSpec.ofChange fnExactVerdictSpec)

/-- ITS FALSE NEIGHBOUR: 'it returns false'. Refute it at one input. -/
def fnExactVerdictWrong : ChangeSpec := { name := "fnExactVerdict", fn := fun _ => fun
  | [d] => { results := [.lit (.bool false)], args := [d] }
  | _ => none }
def FnExactVerdictWrongFalsely : Prop := fnExactVerdictRow.holds Try.pinned (OpenSpec.ofChange fnExactVerdictWrong)

/-- 'laws.FnExactMarchFault': WHATEVER THE INPUT: true; the input reads as it did. -/
def fnExactMarchFaultSpec : ChangeSpec := { name := "fnExactMarchFault", fn := fun _ => fun
  | [d] => { results := [.lit (.bool true)], args := [d] }
  | _ => none }
def fnExactMarchFaultRow : OpenClaim := { program := "ytkdpifplhhcpaaa", sum := "df1de9425e9ac97f7acc8bb9b254e556d5967ffb6bfda58fe16cd3ddfce4cfb1", func := "loop.example/g00057/laws.FnExactMarchFault", spec := "fnExactMarchFault", unfollowed := true, recurses := true, apart := false }
def FnExactMarchFaultSaid : Prop := fnExactMarchFaultRow.holds Try.pinned (OpenSpec.ofChange fnExactMarchFaultSpec)

/-- ITS FALSE NEIGHBOUR: 'it returns false'. Refute it at one input. -/
def fnExactMarchFaultWrong : ChangeSpec := { name := "fnExactMarchFault", fn := fun _ => fun
  | [d] => { results := [.lit (.bool false)], args := [d] }
  | _ => none }
def FnExactMarchFaultWrongFalsely : Prop := fnExactMarchFaultRow.holds Try.pinned (OpenSpec.ofChange fnExactMarchFaultWrong)

/-- 'laws.FnExactShiftScan': WHATEVER THE INPUT: true; the input reads as it did. -/
def fnExactShiftScanSpec : ChangeSpec := { name := "fnExactShiftScan", fn := fun _ => fun
  | [d1, d2, d3] => { results := [.lit (.bool true)], args := [d1, d2, d3] }
  | _ => none }
def fnExactShiftScanRow : OpenClaim := { program := "ytkdpifplhhcpaaa", sum := "df1de9425e9ac97f7acc8bb9b254e556d5967ffb6bfda58fe16cd3ddfce4cfb1", func := "loop.example/g00057/laws.FnExactShiftScan", spec := "fnExactShiftScan", unfollowed := true, recurses := true, apart := false }
def FnExactShiftScanSaid : Prop := fnExactShiftScanRow.holds Try.pinned (OpenSpec.ofChange fnExactShiftScanSpec)

/-- ITS FALSE NEIGHBOUR: 'it returns false'. Refute it at one input. -/
def fnExactShiftScanWrong : ChangeSpec := { name := "fnExactShiftScan", fn := fun _ => fun
  | [d1, d2, d3] => { results := [.lit (.bool false)], args := [d1, d2, d3] }
  | _ => none }
def FnExactShiftScanWrongFalsely : Prop := fnExactShiftScanRow.holds Try.pinned (OpenSpec.ofChange fnExactShiftScanWrong)

/-- 'laws.FnExactSignatureOf': WHATEVER THE INPUT: true; the input reads as it did. -/
def fnExactSignatureOfSpec : ChangeSpec := { name := "fnExactSignatureOf", fn := fun _ => fun
  | [d1, d2] => { results := [.lit (.bool true)], args := [d1, d2] }
  | _ => none }
def fnExactSignatureOfRow : OpenClaim := { program := "ytkdpifplhhcpaaa", sum := "df1de9425e9ac97f7acc8bb9b254e556d5967ffb6bfda58fe16cd3ddfce4cfb1", func := "loop.example/g00057/laws.FnExactSignatureOf", spec := "fnExactSignatureOf", unfollowed := true, recurses := true, apart := false }
def FnExactSignatureOfSaid : Prop := fnExactSignatureOfRow.holds Try.pinned (OpenSpec.ofChange fnExactSignatureOfSpec)

/-- ITS FALSE NEIGHBOUR: 'it returns false'. Refute it at one input. -/
def fnExactSignatureOfWrong : ChangeSpec := { name := "fnExactSignatureOf", fn := fun _ => fun
  | [d1, d2] => { results := [.lit (.bool false)], args := [d1, d2] }
  | _ => none }
def FnExactSignatureOfWrongFalsely : Prop := fnExactSignatureOfRow.holds Try.pinned (OpenSpec.ofChange fnExactSignatureOfWrong)

/-- 'laws.FnExactStitchMaps': WHATEVER THE INPUT: true; the input reads as it did. -/
def fnExactStitchMapsSpec : ChangeSpec := { name := "fnExactStitchMaps", fn := fun _ => fun
  | [d1, d2] => { results := [.lit (.bool true)], args := [d1, d2] }
  | _ => none }
def fnExactStitchMapsRow : OpenClaim := { program := "ytkdpifplhhcpaaa", sum := "df1de9425e9ac97f7acc8bb9b254e556d5967ffb6bfda58fe16cd3ddfce4cfb1", func := "loop.example/g00057/laws.FnExactStitchMaps", spec := "fnExactStitchMaps", unfollowed := true, recurses := true, apart := false }
def FnExactStitchMapsSaid : Prop := fnExactStitchMapsRow.holds Try.pinned (OpenSpec.ofChange fnExactStitchMapsSpec)

/-- ITS FALSE NEIGHBOUR: 'it returns false'. Refute it at one input. -/
def fnExactStitchMapsWrong : ChangeSpec := { name := "fnExactStitchMaps", fn := fun _ => fun
  | [d1, d2] => { results := [.lit (.bool false)], args := [d1, d2] }
  | _ => none }
def FnExactStitchMapsWrongFalsely : Prop := fnExactStitchMapsRow.holds Try.pinned (OpenSpec.ofChange fnExactStitchMapsWrong)

/- THE SECOND FORM. 'bulk': how many values and letters a reading holds, each counted each time it is reached (what is shared counts as often as it is met; a slice's spare places count too). A statement '..UptoSaid' is the law's where the arguments, and the package variables that the reading takes, are together of bulk at most 1048576: NARROWER than '..Said'. Prove '..Said' where nothing that the law and all that it calls make is longer than what came in: it says more and counts as full. Else prove '..UptoSaid'. A law counts once. -/
mutual
def uptoBulk {H : Type} : DataW H → Nat
  | .lit (.string bytes) => bytes.length + 1
  | .lit _ => 1
  | .nil => 1
  | .ptr d => uptoBulk d + 1
  | .slice elems spare => uptoBulkAll elems + uptoBulkAll spare + 1
  | .agg parts => uptoBulkAll parts + 1
  | .iface _ d => uptoBulk d + 1
  | .map entries => uptoBulkEntries entries + 1
  | .held _ => 1
def uptoBulkAll {H : Type} : List (DataW H) → Nat
  | [] => 0
  | d :: r => uptoBulk d + uptoBulkAll r
def uptoBulkEntries {H : Type} : List (Lit × DataW H) → Nat
  | [] => 0
  | x :: r => uptoBulkEntry x + uptoBulkEntries r
def uptoBulkEntry {H : Type} : Lit × DataW H → Nat
  | (.string bytes, d) => bytes.length + uptoBulk d + 1
  | (_, d) => uptoBulk d + 1
 end
def uptoSmall : (H : Type) → List (DataW H) → Bool := fun _ ds => decide (uptoBulkAll ds ≤ 1048576)
def OpenSpec.upto (s : _root_.Go.ChangeSpec) : _root_.Go.OpenSpec := { _root_.Go.OpenSpec.ofChange s with cond := some uptoSmall }

/-- 'laws.FnExactBinOf', WHERE WHAT IT READS IS OF BULK AT MOST 1048576: true; the input reads as it did. -/
def fnExactBinOfUptoRow : OpenClaim := { program := "ytkdpifplhhcpaaa", sum := "df1de9425e9ac97f7acc8bb9b254e556d5967ffb6bfda58fe16cd3ddfce4cfb1", func := "loop.example/g00057/laws.FnExactBinOf", spec := "fnExactBinOf", unfollowed := true, recurses := true, apart := false, narrowed := true }
def FnExactBinOfUptoSaid : Prop := fnExactBinOfUptoRow.holds Try.pinned (OpenSpec.upto fnExactBinOfSpec)

/-- 'laws.FnExactVerdict', WHERE WHAT IT READS IS OF BULK AT MOST 1048576: true; the input reads as it did. -/
def fnExactVerdictUptoRow : OpenClaim := { program := "ytkdpifplhhcpaaa", sum := "df1de9425e9ac97f7acc8bb9b254e556d5967ffb6bfda58fe16cd3ddfce4cfb1", func := "loop.example/g00057/laws.FnExactVerdict", spec := "fnExactVerdict", unfollowed := true, recurses := true, apart := false, narrowed := true }
def FnExactVerdictUptoSaid : Prop := fnExactVerdictUptoRow.holds Try.pinned (OpenSpec.upto fnExactVerdictSpec)

/-- 'laws.FnExactMarchFault', WHERE WHAT IT READS IS OF BULK AT MOST 1048576: true; the input reads as it did. -/
def fnExactMarchFaultUptoRow : OpenClaim := { program := "ytkdpifplhhcpaaa", sum := "df1de9425e9ac97f7acc8bb9b254e556d5967ffb6bfda58fe16cd3ddfce4cfb1", func := "loop.example/g00057/laws.FnExactMarchFault", spec := "fnExactMarchFault", unfollowed := true, recurses := true, apart := false, narrowed := true }
def FnExactMarchFaultUptoSaid : Prop := fnExactMarchFaultUptoRow.holds Try.pinned (OpenSpec.upto fnExactMarchFaultSpec)

/-- 'laws.FnExactShiftScan', WHERE WHAT IT READS IS OF BULK AT MOST 1048576: true; the input reads as it did. -/
def fnExactShiftScanUptoRow : OpenClaim := { program := "ytkdpifplhhcpaaa", sum := "df1de9425e9ac97f7acc8bb9b254e556d5967ffb6bfda58fe16cd3ddfce4cfb1", func := "loop.example/g00057/laws.FnExactShiftScan", spec := "fnExactShiftScan", unfollowed := true, recurses := true, apart := false, narrowed := true }
def FnExactShiftScanUptoSaid : Prop := fnExactShiftScanUptoRow.holds Try.pinned (OpenSpec.upto fnExactShiftScanSpec)

/-- 'laws.FnExactSignatureOf', WHERE WHAT IT READS IS OF BULK AT MOST 1048576: true; the input reads as it did. -/
def fnExactSignatureOfUptoRow : OpenClaim := { program := "ytkdpifplhhcpaaa", sum := "df1de9425e9ac97f7acc8bb9b254e556d5967ffb6bfda58fe16cd3ddfce4cfb1", func := "loop.example/g00057/laws.FnExactSignatureOf", spec := "fnExactSignatureOf", unfollowed := true, recurses := true, apart := false, narrowed := true }
def FnExactSignatureOfUptoSaid : Prop := fnExactSignatureOfUptoRow.holds Try.pinned (OpenSpec.upto fnExactSignatureOfSpec)

/-- 'laws.FnExactStitchMaps', WHERE WHAT IT READS IS OF BULK AT MOST 1048576: true; the input reads as it did. -/
def fnExactStitchMapsUptoRow : OpenClaim := { program := "ytkdpifplhhcpaaa", sum := "df1de9425e9ac97f7acc8bb9b254e556d5967ffb6bfda58fe16cd3ddfce4cfb1", func := "loop.example/g00057/laws.FnExactStitchMaps", spec := "fnExactStitchMaps", unfollowed := true, recurses := true, apart := false, narrowed := true }
def FnExactStitchMapsUptoSaid : Prop := fnExactStitchMapsUptoRow.holds Try.pinned (OpenSpec.upto fnExactStitchMapsSpec)

end Rows
end Go.Proofs.Ytkdpifplhhcpaaa
