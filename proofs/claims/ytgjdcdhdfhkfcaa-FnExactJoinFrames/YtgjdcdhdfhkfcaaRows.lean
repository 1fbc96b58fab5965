/-
  No cell of these rows narrows 'for every input' (looked for: loops, veiled, ifaces, maps, wideKeys, modest, calm, conditions, laid).
  DERIVED. THE GIVEN ROWS OF THIS SEAT. 6 by the template 'for every input the law returns true; each argument reads behind the call as it read before'; 0 by the template 'total and deterministic' (their statements: YtgjdcdhdfhkfcaaTotals.lean).
  GIVEN WITH THE SEED: the statements are not yours to turn. If you find one false, say at which input.
  Laid BY PROGRAM, IN A SANDBOX (cutbox-rows.mjs): the forced cells as the released guide's own fill.sh prints them over the translation 0052f7800a6ce291… (all of the seat's roots in one cut). By AI agents, Wed Nov 11 2026. No macro, syntax, notation, axiom, sorry.
-/
import Derived.Test.YtgjdcdhdfhkfcaaChecked
import GoSem.Claim
import GoSem.ClaimJoined
import GoSem.ClaimMapViews
import Derived.JoinedTies
import Derived.KernelRfl
namespace Go.Proofs.Ytgjdcdhdfhkfcaa
/- THE CELL 'sum', in the pinned program and in every row, IS THE sha256 OF THE DUMP (.gsa) THAT YtgjdcdhdfhkfcaaProg.lean LOADS. Nothing in Lean hashes anything: it is a label: what it is worth is what the hold of that sum in a sandbox is worth. -/
noncomputable def Try.pinned : Pinned := { name := "ytgjdcdhdfhkfcaa", sum := "0052f7800a6ce2919ead9474c9e1275d36585f758b4bd830e6fc67caf502b9cf", checked := Try.checked }
namespace Rows
def none {H : Type} : Left H := { results := [], args := [] }

/-- 'laws.FnSites': WHATEVER THE INPUT: true; the input reads as it did. -/
def fnSitesSpec : ChangeSpec := { name := "fnSites", fn := fun _ => fun
  | [d] => { results := [.lit (.bool true)], args := [d] }
  | _ => none }
def fnSitesRow : OpenClaim := { program := "ytgjdcdhdfhkfcaa", sum := "0052f7800a6ce2919ead9474c9e1275d36585f758b4bd830e6fc67caf502b9cf", func := "loop.example/g00057/laws.FnSites", spec := "fnSites", apart := false }
def FnSitesSaid : Prop := fnSitesRow.holds Try.pinned (OpenSpec.ofChange fnSitesSpec)

/-- ITS FALSE NEIGHBOUR: 'it returns false'. Refute it at one input. -/
def fnSitesWrong : ChangeSpec := { name := "fnSites", fn := fun _ => fun
  | [d] => { results := [.lit (.bool false)], args := [d] }
  | _ => none }
def FnSitesWrongFalsely : Prop := fnSitesRow.holds Try.pinned (OpenSpec.ofChange fnSitesWrong)

/-- 'laws.FnExactFramesOf': WHATEVER THE INPUT: true; the input reads as it did. -/
def fnExactFramesOfSpec : ChangeSpec := { name := "fnExactFramesOf", fn := fun _ => fun
  | [d] => { results := [.lit (.bool true)], args := [d] }
  | _ => none }
def fnExactFramesOfRow : OpenClaim := { program := "ytgjdcdhdfhkfcaa", sum := "0052f7800a6ce2919ead9474c9e1275d36585f758b4bd830e6fc67caf502b9cf", func := "loop.example/g00057/laws.FnExactFramesOf", spec := "fnExactFramesOf", inPlace := ["math.Float64bits", "math.Float64frombits"], apart := false }
def FnExactFramesOfSaid : Prop := fnExactFramesOfRow.holds Try.pinned (OpenSpec.ofChange fnExactFramesOfSpec)

/-- ITS FALSE NEIGHBOUR: 'it returns false'. Refute it at one input. -/
def fnExactFramesOfWrong : ChangeSpec := { name := "fnExactFramesOf", fn := fun _ => fun
  | [d] => { results := [.lit (.bool false)], args := [d] }
  | _ => none }
def FnExactFramesOfWrongFalsely : Prop := fnExactFramesOfRow.holds Try.pinned (OpenSpec.ofChange fnExactFramesOfWrong)

/-- 'laws.FnExactJoinFrames': WHATEVER THE INPUT: true; the input reads as it did. -/
def fnExactJoinFramesSpec : ChangeSpec := { name := "fnExactJoinFrames", fn := fun _ => fun
  | [d] => { results := [.lit (.bool true)], args := [d] }
  | _ => none }
def fnExactJoinFramesRow : OpenClaim := { program := "ytgjdcdhdfhkfcaa", sum := "0052f7800a6ce2919ead9474c9e1275d36585f758b4bd830e6fc67caf502b9cf", func := "loop.example/g00057/laws.FnExactJoinFrames", spec := "fnExactJoinFrames", inPlace := ["math.Float64bits"], apart := false }
def FnExactJoinFramesSaid : Prop := fnExactJoinFramesRow.holds Try.pinned (OpenSpec.ofChange fnExactJoinFramesSpec)

/-- ITS FALSE NEIGHBOUR: 'it returns false'. Refute it at one input. -/
def fnExactJoinFramesWrong : ChangeSpec := { name := "fnExactJoinFrames", fn := fun _ => fun
  | [d] => { results := [.lit (.bool false)], args := [d] }
  | _ => none }
def FnExactJoinFramesWrongFalsely : Prop := fnExactJoinFramesRow.holds Try.pinned (OpenSpec.ofChange fnExactJoinFramesWrong)

/-- 'laws.FnExactSitesOf': WHATEVER THE INPUT: true; the input reads as it did. -/
def fnExactSitesOfSpec : ChangeSpec := { name := "fnExactSitesOf", fn := fun _ => fun
  | [d1, d2] => { results := [.lit (.bool true)], args := [d1, d2] }
  | _ => none }
def fnExactSitesOfRow : OpenClaim := { program := "ytgjdcdhdfhkfcaa", sum := "0052f7800a6ce2919ead9474c9e1275d36585f758b4bd830e6fc67caf502b9cf", func := "loop.example/g00057/laws.FnExactSitesOf", spec := "fnExactSitesOf", apart := false }
def FnExactSitesOfSaid : Prop := fnExactSitesOfRow.holds Try.pinned (OpenSpec.ofChange fnExactSitesOfSpec)

/-- ITS FALSE NEIGHBOUR: 'it returns false'. Refute it at one input. -/
def fnExactSitesOfWrong : ChangeSpec := { name := "fnExactSitesOf", fn := fun _ => fun
  | [d1, d2] => { results := [.lit (.bool false)], args := [d1, d2] }
  | _ => none }
def FnExactSitesOfWrongFalsely : Prop := fnExactSitesOfRow.holds Try.pinned (OpenSpec.ofChange fnExactSitesOfWrong)

/-- 'laws.FnExactMatchSpectrum': WHATEVER THE INPUT: true; the input reads as it did. -/
def fnExactMatchSpectrumSpec : ChangeSpec := { name := "fnExactMatchSpectrum", fn := fun _ => fun
  | [d1, d2] => { results := [.lit (.bool true)], args := [d1, d2] }
  | _ => none }
def fnExactMatchSpectrumRow : OpenClaim := { program := "ytgjdcdhdfhkfcaa", sum := "0052f7800a6ce2919ead9474c9e1275d36585f758b4bd830e6fc67caf502b9cf", func := "loop.example/g00057/laws.FnExactMatchSpectrum", spec := "fnExactMatchSpectrum", apart := false }
def FnExactMatchSpectrumSaid : Prop := fnExactMatchSpectrumRow.holds Try.pinned (OpenSpec.ofChange fnExactMatchSpectrumSpec)

/-- ITS FALSE NEIGHBOUR: 'it returns false'. Refute it at one input. -/
def fnExactMatchSpectrumWrong : ChangeSpec := { name := "fnExactMatchSpectrum", fn := fun _ => fun
  | [d1, d2] => { results := [.lit (.bool false)], args := [d1, d2] }
  | _ => none }
def FnExactMatchSpectrumWrongFalsely : Prop := fnExactMatchSpectrumRow.holds Try.pinned (OpenSpec.ofChange fnExactMatchSpectrumWrong)

/-- 'laws.FnExactTraceAt': WHATEVER THE INPUT: true; the input reads as it did. -/
def fnExactTraceAtSpec : ChangeSpec := { name := "fnExactTraceAt", fn := fun _ => fun
  | [d1, d2, d3] => { results := [.lit (.bool true)], args := [d1, d2, d3] }
  | _ => none }
def fnExactTraceAtRow : OpenClaim := { program := "ytgjdcdhdfhkfcaa", sum := "0052f7800a6ce2919ead9474c9e1275d36585f758b4bd830e6fc67caf502b9cf", func := "loop.example/g00057/laws.FnExactTraceAt", spec := "fnExactTraceAt", apart := false }
def FnExactTraceAtSaid : Prop := fnExactTraceAtRow.holds Try.pinned (OpenSpec.ofChange fnExactTraceAtSpec)

/-- ITS FALSE NEIGHBOUR: 'it returns false'. Refute it at one input. -/
def fnExactTraceAtWrong : ChangeSpec := { name := "fnExactTraceAt", fn := fun _ => fun
  | [d1, d2, d3] => { results := [.lit (.bool false)], args := [d1, d2, d3] }
  | _ => none }
def FnExactTraceAtWrongFalsely : Prop := fnExactTraceAtRow.holds Try.pinned (OpenSpec.ofChange fnExactTraceAtWrong)

/- THE SECOND FORM. 'bulk': how many values and letters a reading holds, each counted each time it is reached (what is shared counts as often as it is met; a slice's spare places count too). A statement '..UptoSaid' is the law's where the arguments, and the package variables that the reading takes, are together of bulk at most 1048576: NARROWER than '..Said'. Prove '..Said' where nothing that the law and all that it calls make is longer than what came in: it says more and counts as full. Else prove '..UptoSaid'. A law counts once. -/
mutual
def uptoBulk {H : Type} : DataW H → Nat
  | .lit (.string bytes) => bytes.length + 1
  | .lit _ => 1
  | .nil => 1
  | .ptr d => uptoBulk d + 1
  | .slice elems spare => uptoBulkAll elems + uptoBulkAll spare + 1
  | .agg parts => uptoBulkAll parts + 1
  | .iface _ d => uptoBulk d + 1
  | .map entries => uptoBulkEntries entries + 1
  | .held _ => 1
def uptoBulkAll {H : Type} : List (DataW H) → Nat
  | [] => 0
  | d :: r => uptoBulk d + uptoBulkAll r
def uptoBulkEntries {H : Type} : List (Lit × DataW H) → Nat
  | [] => 0
  | x :: r => uptoBulkEntry x + uptoBulkEntries r
def uptoBulkEntry {H : Type} : Lit × DataW H → Nat
  | (.string bytes, d) => bytes.length + uptoBulk d + 1
  | (_, d) => uptoBulk d + 1
 end
def uptoSmall : (H : Type) → List (DataW H) → Bool := fun _ ds => decide (uptoBulkAll ds ≤ 1048576)
def OpenSpec.upto (s : _root_.Go.ChangeSpec) : _root_.Go.OpenSpec := { _root_.Go.OpenSpec.ofChange s with cond := some uptoSmall }

/-- 'laws.FnSites', WHERE WHAT IT READS IS OF BULK AT MOST 1048576: true; the input reads as it did. -/
def fnSitesUptoRow : OpenClaim := { program := "ytgjdcdhdfhkfcaa", sum := "0052f7800a6ce2919ead9474c9e1275d36585f758b4bd830e6fc67caf502b9cf", func := "loop.example/g00057/laws.FnSites", spec := "fnSites", apart := false, narrowed := true }
def FnSitesUptoSaid : Prop := fnSitesUptoRow.holds Try.pinned (OpenSpec.upto fnSitesSpec)

/-- 'laws.FnExactFramesOf', WHERE WHAT IT READS IS OF BULK AT MOST 1048576: true; the input reads as it did. -/
def fnExactFramesOfUptoRow : OpenClaim := { program := "ytgjdcdhdfhkfcaa", sum := "0052f7800a6ce2919ead9474c9e1275d36585f758b4bd830e6fc67caf502b9cf", func := "loop.example/g00057/laws.FnExactFramesOf", spec := "fnExactFramesOf", inPlace := ["math.Float64bits", "math.Float64frombits"], apart := false, narrowed := true }
def FnExactFramesOfUptoSaid : Prop := fnExactFramesOfUptoRow.holds Try.pinned (OpenSpec.upto fnExactFramesOfSpec)

/-- 'laws.FnExactJoinFrames', WHERE WHAT IT READS IS OF BULK AT MOST 1048576: true; the input reads as it did. -/
def fnExactJoinFramesUptoRow : OpenClaim := { program := "ytgjdcdhdfhkfcaa", sum := "0052f7800a6ce2919ead9474c9e1275d36585f758b4bd830e6fc67caf502b9cf", func := "loop.example/g00057/laws.FnExactJoinFrames", spec := "fnExactJoinFrames", inPlace := ["math.Float64bits"], apart := false, narrowed := true }
def FnExactJoinFramesUptoSaid : Prop := fnExactJoinFramesUptoRow.holds Try.pinned (OpenSpec.upto fnExactJoinFramesSpec)

/-- 'laws.FnExactSitesOf', WHERE WHAT IT READS IS OF BULK AT MOST 1048576: true; the input reads as it did. -/
def fnExactSitesOfUptoRow : OpenClaim := { program := "ytgjdcdhdfhkfcaa", sum := "0052f7800a6ce2919ead9474c9e1275d36585f758b4bd830e6fc67caf502b9cf", func := "loop.example/g00057/laws.FnExactSitesOf", spec := "fnExactSitesOf", apart := false, narrowed := true }
def FnExactSitesOfUptoSaid : Prop := fnExactSitesOfUptoRow.holds Try.pinned (OpenSpec.upto fnExactSitesOfSpec)

/-- 'laws.FnExactMatchSpectrum', WHERE WHAT IT READS IS OF BULK AT MOST 1048576: true; the input reads as it did. -/
def fnExactMatchSpectrumUptoRow : OpenClaim := { program := "ytgjdcdhdfhkfcaa", sum := "0052f7800a6ce2919ead9474c9e1275d36585f758b4bd830e6fc67caf502b9cf", func := "loop.example/g00057/laws.FnExactMatchSpectrum", spec := "fnExactMatchSpectrum", apart := false, narrowed := true }
def FnExactMatchSpectrumUptoSaid : Prop := fnExactMatchSpectrumUptoRow.holds Try.pinned (OpenSpec.upto fnExactMatchSpectrumSpec)

/-- 'laws.FnExactTraceAt', WHERE WHAT IT READS IS OF BULK AT MOST 1048576: true; the input reads as it did. -/
def fnExactTraceAtUptoRow : OpenClaim := { program := "ytgjdcdhdfhkfcaa", sum := "0052f7800a6ce2919ead9474c9e1275d36585f758b4bd830e6fc67caf502b9cf", func := "loop.example/g00057/laws.FnExactTraceAt", spec := "fnExactTraceAt", apart := false, narrowed := true }
def FnExactTraceAtUptoSaid : Prop := fnExactTraceAtUptoRow.holds Try.pinned (OpenSpec.upto fnExactTraceAtSpec)

end Rows
end Go.Proofs.Ytgjdcdhdfhkfcaa
