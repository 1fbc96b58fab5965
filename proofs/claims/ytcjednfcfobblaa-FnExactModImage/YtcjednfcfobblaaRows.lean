/-
  No cell of these rows narrows 'for every input' (looked for: loops, veiled, ifaces, maps, wideKeys, modest, calm, conditions, laid).
  DERIVED. THE GIVEN ROWS OF THIS SEAT. 5 by the template 'for every input the law returns true; each argument reads behind the call as it read before'; 0 by the template 'total and deterministic' (their statements: YtcjednfcfobblaaTotals.lean).
  GIVEN WITH THE SEED: the statements are not yours to turn. If you find one false, say at which input.
  Laid BY PROGRAM, IN A SANDBOX (cutbox-rows.mjs): the forced cells as the released guide's own fill.sh prints them over the translation db239c3a1ae58fc7… (all of the seat's roots in one cut). By AI agents, Wed Nov 11 2026. No macro, syntax, notation, axiom, sorry.
-/
import Derived.Test.YtcjednfcfobblaaChecked
import GoSem.Claim
import GoSem.ClaimJoined
import GoSem.ClaimMapViews
import Derived.JoinedTies
import Derived.KernelRfl
namespace Go.Proofs.Ytcjednfcfobblaa
/- THE CELL 'sum', in the pinned program and in every row, IS THE sha256 OF THE DUMP (.gsa) THAT YtcjednfcfobblaaProg.lean LOADS. Nothing in Lean hashes anything: it is a label: what it is worth is what the hold of that sum in a sandbox is worth. -/
noncomputable def Try.pinned : Pinned := { name := "ytcjednfcfobblaa", sum := "db239c3a1ae58fc7f1bf0dc2faaead7b8a91d58e8c7214ce575095bfe1a0fff5", checked := Try.checked }
namespace Rows
def none {H : Type} : Left H := { results := [], args := [] }

/-- 'laws.FnExactSameZ': WHATEVER THE INPUT: true; the input reads as it did. -/
def fnExactSameZSpec : ChangeSpec := { name := "fnExactSameZ", fn := fun _ => fun
  | [d1, d2] => { results := [.lit (.bool true)], args := [d1, d2] }
  | _ => none }
def fnExactSameZRow : OpenClaim := { program := "ytcjednfcfobblaa", sum := "db239c3a1ae58fc7f1bf0dc2faaead7b8a91d58e8c7214ce575095bfe1a0fff5", func := "loop.example/g00057/laws.FnExactSameZ", spec := "fnExactSameZ", apart := false }
def FnExactSameZSaid : Prop := fnExactSameZRow.holds Try.pinned (OpenSpec.ofChange fnExactSameZSpec)

/-- ITS FALSE NEIGHBOUR: 'it returns false'. Refute it at one input. -/
def fnExactSameZWrong : ChangeSpec := { name := "fnExactSameZ", fn := fun _ => fun
  | [d1, d2] => { results := [.lit (.bool false)], args := [d1, d2] }
  | _ => none }
def FnExactSameZWrongFalsely : Prop := fnExactSameZRow.holds Try.pinned (OpenSpec.ofChange fnExactSameZWrong)

/-- 'laws.FnExactMulZ': WHATEVER THE INPUT: true; the input reads as it did. -/
def fnExactMulZSpec : ChangeSpec := { name := "fnExactMulZ", fn := fun _ => fun
  | [d1, d2] => { results := [.lit (.bool true)], args := [d1, d2] }
  | _ => none }
def fnExactMulZRow : OpenClaim := { program := "ytcjednfcfobblaa", sum := "db239c3a1ae58fc7f1bf0dc2faaead7b8a91d58e8c7214ce575095bfe1a0fff5", func := "loop.example/g00057/laws.FnExactMulZ", spec := "fnExactMulZ", apart := false }
def FnExactMulZSaid : Prop := fnExactMulZRow.holds Try.pinned (OpenSpec.ofChange fnExactMulZSpec)

/-- ITS FALSE NEIGHBOUR: 'it returns false'. Refute it at one input. -/
def fnExactMulZWrong : ChangeSpec := { name := "fnExactMulZ", fn := fun _ => fun
  | [d1, d2] => { results := [.lit (.bool false)], args := [d1, d2] }
  | _ => none }
def FnExactMulZWrongFalsely : Prop := fnExactMulZRow.holds Try.pinned (OpenSpec.ofChange fnExactMulZWrong)

/-- 'laws.FnExactPupilFault': WHATEVER THE INPUT: true; the input reads as it did. -/
def fnExactPupilFaultSpec : ChangeSpec := { name := "fnExactPupilFault", fn := fun _ => fun
  | [d] => { results := [.lit (.bool true)], args := [d] }
  | _ => none }
def fnExactPupilFaultRow : OpenClaim := { program := "ytcjednfcfobblaa", sum := "db239c3a1ae58fc7f1bf0dc2faaead7b8a91d58e8c7214ce575095bfe1a0fff5", func := "loop.example/g00057/laws.FnExactPupilFault", spec := "fnExactPupilFault", apart := false }
def FnExactPupilFaultSaid : Prop := fnExactPupilFaultRow.holds Try.pinned (OpenSpec.ofChange fnExactPupilFaultSpec)

/-- ITS FALSE NEIGHBOUR: 'it returns false'. Refute it at one input. -/
def fnExactPupilFaultWrong : ChangeSpec := { name := "fnExactPupilFault", fn := fun _ => fun
  | [d] => { results := [.lit (.bool false)], args := [d] }
  | _ => none }
def FnExactPupilFaultWrongFalsely : Prop := fnExactPupilFaultRow.holds Try.pinned (OpenSpec.ofChange fnExactPupilFaultWrong)

/-- 'laws.FnExactNarrowWave': WHATEVER THE INPUT: true; the input reads as it did. -/
def fnExactNarrowWaveSpec : ChangeSpec := { name := "fnExactNarrowWave", fn := fun _ => fun
  | [d] => { results := [.lit (.bool true)], args := [d] }
  | _ => none }
def fnExactNarrowWaveRow : OpenClaim := { program := "ytcjednfcfobblaa", sum := "db239c3a1ae58fc7f1bf0dc2faaead7b8a91d58e8c7214ce575095bfe1a0fff5", func := "loop.example/g00057/laws.FnExactNarrowWave", spec := "fnExactNarrowWave", apart := false }
def FnExactNarrowWaveSaid : Prop := fnExactNarrowWaveRow.holds Try.pinned (OpenSpec.ofChange fnExactNarrowWaveSpec)

/-- ITS FALSE NEIGHBOUR: 'it returns false'. Refute it at one input. -/
def fnExactNarrowWaveWrong : ChangeSpec := { name := "fnExactNarrowWave", fn := fun _ => fun
  | [d] => { results := [.lit (.bool false)], args := [d] }
  | _ => none }
def FnExactNarrowWaveWrongFalsely : Prop := fnExactNarrowWaveRow.holds Try.pinned (OpenSpec.ofChange fnExactNarrowWaveWrong)

/-- 'laws.FnExactModImage': WHATEVER THE INPUT: true; the input reads as it did. -/
def fnExactModImageSpec : ChangeSpec := { name := "fnExactModImage", fn := fun _ => fun
  | [d1, d2, d3] => { results := [.lit (.bool true)], args := [d1, d2, d3] }
  | _ => none }
def fnExactModImageRow : OpenClaim := { program := "ytcjednfcfobblaa", sum := "db239c3a1ae58fc7f1bf0dc2faaead7b8a91d58e8c7214ce575095bfe1a0fff5", func := "loop.example/g00057/laws.FnExactModImage", spec := "fnExactModImage", apart := false }
def FnExactModImageSaid : Prop := fnExactModImageRow.holds Try.pinned (OpenSpec.ofChange fnExactModImageSpec)

/-- ITS FALSE NEIGHBOUR: 'it returns false'. Refute it at one input. -/
def fnExactModImageWrong : ChangeSpec := { name := "fnExactModImage", fn := fun _ => fun
  | [d1, d2, d3] => { results := [.lit (.bool false)], args := [d1, d2, d3] }
  | _ => none }
def FnExactModImageWrongFalsely : Prop := fnExactModImageRow.holds Try.pinned (OpenSpec.ofChange fnExactModImageWrong)

/- THE SECOND FORM. 'bulk': how many values and letters a reading holds, each counted each time it is reached (what is shared counts as often as it is met; a slice's spare places count too). A statement '..UptoSaid' is the law's where the arguments, and the package variables that the reading takes, are together of bulk at most 1048576: NARROWER than '..Said'. Prove '..Said' where nothing that the law and all that it calls make is longer than what came in: it says more and counts as full. Else prove '..UptoSaid'. A law counts once. -/
mutual
def uptoBulk {H : Type} : DataW H → Nat
  | .lit (.string bytes) => bytes.length + 1
  | .lit _ => 1
  | .nil => 1
  | .ptr d => uptoBulk d + 1
  | .slice elems spare => uptoBulkAll elems + uptoBulkAll spare + 1
  | .agg parts => uptoBulkAll parts + 1
  | .iface _ d => uptoBulk d + 1
  | .map entries => uptoBulkEntries entries + 1
  | .held _ => 1
def uptoBulkAll {H : Type} : List (DataW H) → Nat
  | [] => 0
  | d :: r => uptoBulk d + uptoBulkAll r
def uptoBulkEntries {H : Type} : List (Lit × DataW H) → Nat
  | [] => 0
  | x :: r => uptoBulkEntry x + uptoBulkEntries r
def uptoBulkEntry {H : Type} : Lit × DataW H → Nat
  | (.string bytes, d) => bytes.length + uptoBulk d + 1
  | (_, d) => uptoBulk d + 1
 end
def uptoSmall : (H : Type) → List (DataW H) → Bool := fun _ ds => decide (uptoBulkAll ds ≤ 1048576)
def OpenSpec.upto (s : _root_.Go.ChangeSpec) : _root_.Go.OpenSpec := { _root_.Go.OpenSpec.ofChange s with cond := some uptoSmall }

/-- 'laws.FnExactSameZ', WHERE WHAT IT READS IS OF BULK AT MOST 1048576: true; the input reads as it did. -/
def fnExactSameZUptoRow : OpenClaim := { program := "ytcjednfcfobblaa", sum := "db239c3a1ae58fc7f1bf0dc2faaead7b8a91d58e8c7214ce575095bfe1a0fff5", func := "loop.example/g00057/laws.FnExactSameZ", spec := "fnExactSameZ", apart := false, narrowed := true }
def FnExactSameZUptoSaid : Prop := fnExactSameZUptoRow.holds Try.pinned (OpenSpec.upto fnExactSameZSpec)

/-- 'laws.FnExactMulZ', WHERE WHAT IT READS IS OF BULK AT MOST 1048576: true; the input reads as it did. -/
def fnExactMulZUptoRow : OpenClaim := { program := "ytcjednfcfobblaa", sum := "db239c3a1ae58fc7f1bf0dc2faaead7b8a91d58e8c7214ce575095bfe1a0fff5", func := "loop.example/g00057/laws.FnExactMulZ", spec := "fnExactMulZ", apart := false, narrowed := true }
def FnExactMulZUptoSaid : Prop := fnExactMulZUptoRow.holds Try.pinned (OpenSpec.upto fnExactMulZSpec)

/-- 'laws.FnExactPupilFault', WHERE WHAT IT READS IS OF BULK AT MOST 1048576: true; the input reads as it did. -/
def fnExactPupilFaultUptoRow : OpenClaim := { program := "ytcjednfcfobblaa", sum := "db239c3a1ae58fc7f1bf0dc2faaead7b8a91d58e8c7214ce575095bfe1a0fff5", func := "loop.example/g00057/laws.FnExactPupilFault", spec := "fnExactPupilFault", apart := false, narrowed := true }
def FnExactPupilFaultUptoSaid : Prop := fnExactPupilFaultUptoRow.holds Try.pinned (OpenSpec.upto fnExactPupilFaultSpec)

/-- 'laws.FnExactNarrowWave', WHERE WHAT IT READS IS OF BULK AT MOST 1048576: true; the input reads as it did. -/
def fnExactNarrowWaveUptoRow : OpenClaim := { program := "ytcjednfcfobblaa", sum := "db239c3a1ae58fc7f1bf0dc2faaead7b8a91d58e8c7214ce575095bfe1a0fff5", func := "loop.example/g00057/laws.FnExactNarrowWave", spec := "fnExactNarrowWave", apart := false, narrowed := true }
def FnExactNarrowWaveUptoSaid : Prop := fnExactNarrowWaveUptoRow.holds Try.pinned (OpenSpec.upto fnExactNarrowWaveSpec)

/-- 'laws.FnExactModImage', WHERE WHAT IT READS IS OF BULK AT MOST 1048576: true; the input reads as it did. -/
def fnExactModImageUptoRow : OpenClaim := { program := "ytcjednfcfobblaa", sum := "db239c3a1ae58fc7f1bf0dc2faaead7b8a91d58e8c7214ce575095bfe1a0fff5", func := "loop.example/g00057/laws.FnExactModImage", spec := "fnExactModImage", apart := false, narrowed := true }
def FnExactModImageUptoSaid : Prop := fnExactModImageUptoRow.holds Try.pinned (OpenSpec.upto fnExactModImageSpec)

end Rows
end Go.Proofs.Ytcjednfcfobblaa
