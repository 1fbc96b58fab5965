/-
  No cell of these rows narrows 'for every input' (looked for: loops, veiled, ifaces, maps, wideKeys, modest, calm, conditions, laid).
  DERIVED. THE GIVEN ROWS OF THIS SEAT. 6 by the template 'for every input the law returns true; each argument reads behind the call as it read before'; 0 by the template 'total and deterministic' (their statements: YtjacmneopijiaaaTotals.lean).
  GIVEN WITH THE SEED: the statements are not yours to turn. If you find one false, say at which input.
  Laid BY PROGRAM, IN A SANDBOX (cutbox-rows.mjs): the forced cells as the released guide's own fill.sh prints them over the translation d9e8455376995a06… (all of the seat's roots in one cut). By AI agents, Wed Nov 11 2026. No macro, syntax, notation, axiom, sorry.
-/
import Derived.Test.YtjacmneopijiaaaChecked
import GoSem.Claim
import GoSem.ClaimJoined
import GoSem.ClaimMapViews
import Derived.JoinedTies
import Derived.KernelRfl
namespace Go.Proofs.Ytjacmneopijiaaa
/- THE CELL 'sum', in the pinned program and in every row, IS THE sha256 OF THE DUMP (.gsa) THAT YtjacmneopijiaaaProg.lean LOADS. Nothing in Lean hashes anything: it is a label: what it is worth is what the hold of that sum in a sandbox is worth. -/
noncomputable def Try.pinned : Pinned := { name := "ytjacmneopijiaaa", sum := "d9e8455376995a06335dfb485d2068b9b6ac20995b2013c629db98118beae45c", checked := Try.checked }
namespace Rows
def none {H : Type} : Left H := { results := [], args := [] }

/-- 'laws.FnExactDefectsFault': WHATEVER THE INPUT: true; the input reads as it did. -/
def fnExactDefectsFaultSpec : ChangeSpec := { name := "fnExactDefectsFault", fn := fun _ => fun
  | [d] => { results := [.lit (.bool true)], args := [d] }
  | _ => none }
def fnExactDefectsFaultRow : OpenClaim := { program := "ytjacmneopijiaaa", sum := "d9e8455376995a06335dfb485d2068b9b6ac20995b2013c629db98118beae45c", func := "loop.example/g00057/laws.FnExactDefectsFault", spec := "fnExactDefectsFault", plainKeys := false, apart := false }
def FnExactDefectsFaultSaid : Prop := fnExactDefectsFaultRow.holds Try.pinned (OpenSpec.ofChange fnExactDefectsFaultSpec)

/-- ITS FALSE NEIGHBOUR: 'it returns false'. Refute it at one input. -/
def fnExactDefectsFaultWrong : ChangeSpec := { name := "fnExactDefectsFault", fn := fun _ => fun
  | [d] => { results := [.lit (.bool false)], args := [d] }
  | _ => none }
def FnExactDefectsFaultWrongFalsely : Prop := fnExactDefectsFaultRow.holds Try.pinned (OpenSpec.ofChange fnExactDefectsFaultWrong)

/-- 'laws.FnExactClassesFault': WHATEVER THE INPUT: true; the input reads as it did. -/
def fnExactClassesFaultSpec : ChangeSpec := { name := "fnExactClassesFault", fn := fun _ => fun
  | [d] => { results := [.lit (.bool true)], args := [d] }
  | _ => none }
def fnExactClassesFaultRow : OpenClaim := { program := "ytjacmneopijiaaa", sum := "d9e8455376995a06335dfb485d2068b9b6ac20995b2013c629db98118beae45c", func := "loop.example/g00057/laws.FnExactClassesFault", spec := "fnExactClassesFault", unfollowed := true, recurses := true, plainKeys := false, apart := false }
def FnExactClassesFaultSaid : Prop := fnExactClassesFaultRow.holds Try.pinned (OpenSpec.ofChange fnExactClassesFaultSpec)

/-- ITS FALSE NEIGHBOUR: 'it returns false'. Refute it at one input. -/
def fnExactClassesFaultWrong : ChangeSpec := { name := "fnExactClassesFault", fn := fun _ => fun
  | [d] => { results := [.lit (.bool false)], args := [d] }
  | _ => none }
def FnExactClassesFaultWrongFalsely : Prop := fnExactClassesFaultRow.holds Try.pinned (OpenSpec.ofChange fnExactClassesFaultWrong)

/-- 'laws.FnExactClassOf': WHATEVER THE INPUT: true; the input reads as it did. -/
def fnExactClassOfSpec : ChangeSpec := { name := "fnExactClassOf", fn := fun _ => fun
  | [d1, d2] => { results := [.lit (.bool true)], args := [d1, d2] }
  | _ => none }
def fnExactClassOfRow : OpenClaim := { program := "ytjacmneopijiaaa", sum := "d9e8455376995a06335dfb485d2068b9b6ac20995b2013c629db98118beae45c", func := "loop.example/g00057/laws.FnExactClassOf", spec := "fnExactClassOf", unfollowed := true, recurses := true, plainKeys := false, apart := false }
def FnExactClassOfSaid : Prop := fnExactClassOfRow.holds Try.pinned (OpenSpec.ofChange fnExactClassOfSpec)

/-- ITS FALSE NEIGHBOUR: 'it returns false'. Refute it at one input. -/
def fnExactClassOfWrong : ChangeSpec := { name := "fnExactClassOf", fn := fun _ => fun
  | [d1, d2] => { results := [.lit (.bool false)], args := [d1, d2] }
  | _ => none }
def FnExactClassOfWrongFalsely : Prop := fnExactClassOfRow.holds Try.pinned (OpenSpec.ofChange fnExactClassOfWrong)

/-- 'laws.FnExactClassBook': WHATEVER THE INPUT: true; the input reads as it did. -/
def fnExactClassBookSpec : ChangeSpec := { name := "fnExactClassBook", fn := fun _ => fun
  | [d1, d2] => { results := [.lit (.bool true)], args := [d1, d2] }
  | _ => none }
def fnExactClassBookRow : OpenClaim := { program := "ytjacmneopijiaaa", sum := "d9e8455376995a06335dfb485d2068b9b6ac20995b2013c629db98118beae45c", func := "loop.example/g00057/laws.FnExactClassBook", spec := "fnExactClassBook", unfollowed := true, recurses := true, plainKeys := false, apart := false }
def FnExactClassBookSaid : Prop := fnExactClassBookRow.holds Try.pinned (OpenSpec.ofChange fnExactClassBookSpec)

/-- ITS FALSE NEIGHBOUR: 'it returns false'. Refute it at one input. -/
def fnExactClassBookWrong : ChangeSpec := { name := "fnExactClassBook", fn := fun _ => fun
  | [d1, d2] => { results := [.lit (.bool false)], args := [d1, d2] }
  | _ => none }
def FnExactClassBookWrongFalsely : Prop := fnExactClassBookRow.holds Try.pinned (OpenSpec.ofChange fnExactClassBookWrong)

/-- 'laws.FnExactSurviveOf': WHATEVER THE INPUT: true; the input reads as it did. -/
def fnExactSurviveOfSpec : ChangeSpec := { name := "fnExactSurviveOf", fn := fun _ => fun
  | [d1, d2] => { results := [.lit (.bool true)], args := [d1, d2] }
  | _ => none }
def fnExactSurviveOfRow : OpenClaim := { program := "ytjacmneopijiaaa", sum := "d9e8455376995a06335dfb485d2068b9b6ac20995b2013c629db98118beae45c", func := "loop.example/g00057/laws.FnExactSurviveOf", spec := "fnExactSurviveOf", unfollowed := true, recurses := true, plainKeys := false, apart := false }
def FnExactSurviveOfSaid : Prop := fnExactSurviveOfRow.holds Try.pinned (OpenSpec.ofChange fnExactSurviveOfSpec)

/-- ITS FALSE NEIGHBOUR: 'it returns false'. Refute it at one input. -/
def fnExactSurviveOfWrong : ChangeSpec := { name := "fnExactSurviveOf", fn := fun _ => fun
  | [d1, d2] => { results := [.lit (.bool false)], args := [d1, d2] }
  | _ => none }
def FnExactSurviveOfWrongFalsely : Prop := fnExactSurviveOfRow.holds Try.pinned (OpenSpec.ofChange fnExactSurviveOfWrong)

/-- 'laws.FnExactYieldOf': WHATEVER THE INPUT: true; the input reads as it did. -/
def fnExactYieldOfSpec : ChangeSpec := { name := "fnExactYieldOf", fn := fun _ => fun
  | [d1, d2, d3, d4, d5] => { results := [.lit (.bool true)], args := [d1, d2, d3, d4, d5] }
  | _ => none }
def fnExactYieldOfRow : OpenClaim := { program := "ytjacmneopijiaaa", sum := "d9e8455376995a06335dfb485d2068b9b6ac20995b2013c629db98118beae45c", func := "loop.example/g00057/laws.FnExactYieldOf", spec := "fnExactYieldOf", unfollowed := true, recurses := true, plainKeys := false, apart := false }
def FnExactYieldOfSaid : Prop := fnExactYieldOfRow.holds Try.pinned (OpenSpec.ofChange fnExactYieldOfSpec)

/-- ITS FALSE NEIGHBOUR: 'it returns false'. Refute it at one input. -/
def fnExactYieldOfWrong : ChangeSpec := { name := "fnExactYieldOf", fn := fun _ => fun
  | [d1, d2, d3, d4, d5] => { results := [.lit (.bool false)], args := [d1, d2, d3, d4, d5] }
  | _ => none }
def FnExactYieldOfWrongFalsely : Prop := fnExactYieldOfRow.holds Try.pinned (OpenSpec.ofChange fnExactYieldOfWrong)

/- THE SECOND FORM. 'bulk': how many values and letters a reading holds, each counted each time it is reached (what is shared counts as often as it is met; a slice's spare places count too). A statement '..UptoSaid' is the law's where the arguments, and the package variables that the reading takes, are together of bulk at most 1048576: NARROWER than '..Said'. Prove '..Said' where nothing that the law and all that it calls make is longer than what came in: it says more and counts as full. Else prove '..UptoSaid'. A law counts once. -/
mutual
def uptoBulk {H : Type} : DataW H → Nat
  | .lit (.string bytes) => bytes.length + 1
  | .lit _ => 1
  | .nil => 1
  | .ptr d => uptoBulk d + 1
  | .slice elems spare => uptoBulkAll elems + uptoBulkAll spare + 1
  | .agg parts => uptoBulkAll parts + 1
  | .iface _ d => uptoBulk d + 1
  | .map entries => uptoBulkEntries entries + 1
  | .held _ => 1
def uptoBulkAll {H : Type} : List (DataW H) → Nat
  | [] => 0
  | d :: r => uptoBulk d + uptoBulkAll r
def uptoBulkEntries {H : Type} : List (Lit × DataW H) → Nat
  | [] => 0
  | x :: r => uptoBulkEntry x + uptoBulkEntries r
def uptoBulkEntry {H : Type} : Lit × DataW H → Nat
  | (.string bytes, d) => bytes.length + uptoBulk d + 1
  | (_, d) => uptoBulk d + 1
 end
def uptoSmall : (H : Type) → List (DataW H) → Bool := fun _ ds => decide (uptoBulkAll ds ≤ 1048576)
def OpenSpec.upto (s : _root_.Go.ChangeSpec) : _root_.Go.OpenSpec := { _root_.Go.OpenSpec.ofChange s with cond := some uptoSmall }

/-- 'laws.FnExactDefectsFault', WHERE WHAT IT READS IS OF BULK AT MOST 1048576: true; the input reads as it did. -/
def fnExactDefectsFaultUptoRow : OpenClaim := { program := "ytjacmneopijiaaa", sum := "d9e8455376995a06335dfb485d2068b9b6ac20995b2013c629db98118beae45c", func := "loop.example/g00057/laws.FnExactDefectsFault", spec := "fnExactDefectsFault", plainKeys := false, apart := false, narrowed := true }
def FnExactDefectsFaultUptoSaid : Prop := fnExactDefectsFaultUptoRow.holds Try.pinned (OpenSpec.upto fnExactDefectsFaultSpec)

/-- 'laws.FnExactClassesFault', WHERE WHAT IT READS IS OF BULK AT MOST 1048576: true; the input reads as it did. -/
def fnExactClassesFaultUptoRow : OpenClaim := { program := "ytjacmneopijiaaa", sum := "d9e8455376995a06335dfb485d2068b9b6ac20995b2013c629db98118beae45c", func := "loop.example/g00057/laws.FnExactClassesFault", spec := "fnExactClassesFault", unfollowed := true, recurses := true, plainKeys := false, apart := false, narrowed := true }
def FnExactClassesFaultUptoSaid : Prop := fnExactClassesFaultUptoRow.holds Try.pinned (OpenSpec.upto fnExactClassesFaultSpec)

/-- 'laws.FnExactClassOf', WHERE WHAT IT READS IS OF BULK AT MOST 1048576: true; the input reads as it did. -/
def fnExactClassOfUptoRow : OpenClaim := { program := "ytjacmneopijiaaa", sum := "d9e8455376995a06335dfb485d2068b9b6ac20995b2013c629db98118beae45c", func := "loop.example/g00057/laws.FnExactClassOf", spec := "fnExactClassOf", unfollowed := true, recurses := true, plainKeys := false, apart := false, narrowed := true }
def FnExactClassOfUptoSaid : Prop := fnExactClassOfUptoRow.holds Try.pinned (OpenSpec.upto fnExactClassOfSpec)

/-- 'laws.FnExactClassBook', WHERE WHAT IT READS IS OF BULK AT MOST 1048576: true; the input reads as it did. -/
def fnExactClassBookUptoRow : OpenClaim := { program := "ytjacmneopijiaaa", sum := "d9e8455376995a06335dfb485d2068b9b6ac20995b2013c629db98118beae45c", func := "loop.example/g00057/laws.FnExactClassBook", spec := "fnExactClassBook", unfollowed := true, recurses := true, plainKeys := false, apart := false, narrowed := true }
def FnExactClassBookUptoSaid : Prop := fnExactClassBookUptoRow.holds Try.pinned (OpenSpec.upto fnExactClassBookSpec)

/-- 'laws.FnExactSurviveOf', WHERE WHAT IT READS IS OF BULK AT MOST 1048576: true; the input reads as it did. -/
def fnExactSurviveOfUptoRow : OpenClaim := { program := "ytjacmneopijiaaa", sum := "d9e8455376995a06335dfb485d2068b9b6ac20995b2013c629db98118beae45c", func := "loop.example/g00057/laws.FnExactSurviveOf", spec := "fnExactSurviveOf", unfollowed := true, recurses := true, plainKeys := false, apart := false, narrowed := true }
def FnExactSurviveOfUptoSaid : Prop := fnExactSurviveOfUptoRow.holds Try.pinned (OpenSpec.upto fnExactSurviveOfSpec)

/-- 'laws.FnExactYieldOf', WHERE WHAT IT READS IS OF BULK AT MOST 1048576: true; the input reads as it did. -/
def fnExactYieldOfUptoRow : OpenClaim := { program := "ytjacmneopijiaaa", sum := "d9e8455376995a06335dfb485d2068b9b6ac20995b2013c629db98118beae45c", func := "loop.example/g00057/laws.FnExactYieldOf", spec := "fnExactYieldOf", unfollowed := true, recurses := true, plainKeys := false, apart := false, narrowed := true }
def FnExactYieldOfUptoSaid : Prop := fnExactYieldOfUptoRow.holds Try.pinned (OpenSpec.upto fnExactYieldOfSpec)

end Rows
end Go.Proofs.Ytjacmneopijiaaa
