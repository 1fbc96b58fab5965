/-
  No cell of these rows narrows 'for every input' (looked for: loops, veiled, ifaces, maps, wideKeys, modest, calm, conditions, laid).
  DERIVED. THE GIVEN ROWS OF THIS SEAT. 5 by the template 'for every input the law returns true; each argument reads behind the call as it read before'; 0 by the template 'total and deterministic' (their statements: YtceljakmjddgbabTotals.lean).
  GIVEN WITH THE SEED: the statements are not yours to turn. If you find one false, say at which input.
  Laid BY PROGRAM, IN A SANDBOX (cutbox-rows.mjs): the forced cells as the released guide's own fill.sh prints them over the translation aadc38d83fdf57ea… (all of the seat's roots in one cut). By AI agents, Wed Nov 11 2026. No macro, syntax, notation, axiom, sorry.
-/
import Derived.Test.YtceljakmjddgbabChecked
import GoSem.Claim
import GoSem.ClaimJoined
import GoSem.ClaimMapViews
import Derived.JoinedTies
import Derived.KernelRfl
namespace Go.Proofs.Ytceljakmjddgbab
/- THE CELL 'sum', in the pinned program and in every row, IS THE sha256 OF THE DUMP (.gsa) THAT YtceljakmjddgbabProg.lean LOADS. Nothing in Lean hashes anything: it is a label: what it is worth is what the hold of that sum in a sandbox is worth. -/
noncomputable def Try.pinned : Pinned := { name := "ytceljakmjddgbab", sum := "aadc38d83fdf57ea23ef685a0a964f83b4244e22404e7a5694c95d23054caa8b", checked := Try.checked }
namespace Rows
def none {H : Type} : Left H := { results := [], args := [] }

/-- 'laws.FnExactEtchBy': WHATEVER THE INPUT: true; the input reads as it did. -/
def fnExactEtchBySpec : ChangeSpec := { name := "fnExactEtchBy", fn := fun _ => fun
  | [d1, d2, d3, d4] => { results := [.lit (.bool true)], args := [d1, d2, d3, d4] }
  | _ => none }
def fnExactEtchByRow : OpenClaim := { program := "ytceljakmjddgbab", sum := "aadc38d83fdf57ea23ef685a0a964f83b4244e22404e7a5694c95d23054caa8b", func := "loop.example/g00057/laws.FnExactEtchBy", spec := "fnExactEtchBy", unfollowed := true, recurses := true, apart := false }
def FnExactEtchBySaid : Prop := fnExactEtchByRow.holds Try.pinned (OpenSpec.ofChange fnExactEtchBySpec)

/-- ITS FALSE NEIGHBOUR: 'it returns false'. Refute it at one input. -/
def fnExactEtchByWrong : ChangeSpec := { name := "fnExactEtchBy", fn := fun _ => fun
  | [d1, d2, d3, d4] => { results := [.lit (.bool false)], args := [d1, d2, d3, d4] }
  | _ => none }
def FnExactEtchByWrongFalsely : Prop := fnExactEtchByRow.holds Try.pinned (OpenSpec.ofChange fnExactEtchByWrong)

/-- 'laws.FnExactPolishTo': WHATEVER THE INPUT: true; the input reads as it did. -/
def fnExactPolishToSpec : ChangeSpec := { name := "fnExactPolishTo", fn := fun _ => fun
  | [d1, d2] => { results := [.lit (.bool true)], args := [d1, d2] }
  | _ => none }
def fnExactPolishToRow : OpenClaim := { program := "ytceljakmjddgbab", sum := "aadc38d83fdf57ea23ef685a0a964f83b4244e22404e7a5694c95d23054caa8b", func := "loop.example/g00057/laws.FnExactPolishTo", spec := "fnExactPolishTo", unfollowed := true, recurses := true, apart := false }
def FnExactPolishToSaid : Prop := fnExactPolishToRow.holds Try.pinned (OpenSpec.ofChange fnExactPolishToSpec)

/-- ITS FALSE NEIGHBOUR: 'it returns false'. Refute it at one input. -/
def fnExactPolishToWrong : ChangeSpec := { name := "fnExactPolishTo", fn := fun _ => fun
  | [d1, d2] => { results := [.lit (.bool false)], args := [d1, d2] }
  | _ => none }
def FnExactPolishToWrongFalsely : Prop := fnExactPolishToRow.holds Try.pinned (OpenSpec.ofChange fnExactPolishToWrong)

/-- 'laws.FnExactOxidise': WHATEVER THE INPUT: true; the input reads as it did. -/
def fnExactOxidiseSpec : ChangeSpec := { name := "fnExactOxidise", fn := fun _ => fun
  | [d1, d2] => { results := [.lit (.bool true)], args := [d1, d2] }
  | _ => none }
def fnExactOxidiseRow : OpenClaim := { program := "ytceljakmjddgbab", sum := "aadc38d83fdf57ea23ef685a0a964f83b4244e22404e7a5694c95d23054caa8b", func := "loop.example/g00057/laws.FnExactOxidise", spec := "fnExactOxidise", unfollowed := true, recurses := true, apart := false }
def FnExactOxidiseSaid : Prop := fnExactOxidiseRow.holds Try.pinned (OpenSpec.ofChange fnExactOxidiseSpec)

/-- ITS FALSE NEIGHBOUR: 'it returns false'. Refute it at one input. -/
def fnExactOxidiseWrong : ChangeSpec := { name := "fnExactOxidise", fn := fun _ => fun
  | [d1, d2] => { results := [.lit (.bool false)], args := [d1, d2] }
  | _ => none }
def FnExactOxidiseWrongFalsely : Prop := fnExactOxidiseRow.holds Try.pinned (OpenSpec.ofChange fnExactOxidiseWrong)

/-- 'laws.FnExactStripMat': WHATEVER THE INPUT: true; the input reads as it did. -/
def fnExactStripMatSpec : ChangeSpec := { name := "fnExactStripMat", fn := fun _ => fun
  | [d1, d2] => { results := [.lit (.bool true)], args := [d1, d2] }
  | _ => none }
def fnExactStripMatRow : OpenClaim := { program := "ytceljakmjddgbab", sum := "aadc38d83fdf57ea23ef685a0a964f83b4244e22404e7a5694c95d23054caa8b", func := "loop.example/g00057/laws.FnExactStripMat", spec := "fnExactStripMat", unfollowed := true, recurses := true, apart := false }
def FnExactStripMatSaid : Prop := fnExactStripMatRow.holds Try.pinned (OpenSpec.ofChange fnExactStripMatSpec)

/-- ITS FALSE NEIGHBOUR: 'it returns false'. Refute it at one input. -/
def fnExactStripMatWrong : ChangeSpec := { name := "fnExactStripMat", fn := fun _ => fun
  | [d1, d2] => { results := [.lit (.bool false)], args := [d1, d2] }
  | _ => none }
def FnExactStripMatWrongFalsely : Prop := fnExactStripMatRow.holds Try.pinned (OpenSpec.ofChange fnExactStripMatWrong)

/-- 'laws.FnExactLookAt': WHATEVER THE INPUT: true; the input reads as it did. -/
def fnExactLookAtSpec : ChangeSpec := { name := "fnExactLookAt", fn := fun _ => fun
  | [d1, d2, d3] => { results := [.lit (.bool true)], args := [d1, d2, d3] }
  | _ => none }
def fnExactLookAtRow : OpenClaim := { program := "ytceljakmjddgbab", sum := "aadc38d83fdf57ea23ef685a0a964f83b4244e22404e7a5694c95d23054caa8b", func := "loop.example/g00057/laws.FnExactLookAt", spec := "fnExactLookAt", apart := false }
def FnExactLookAtSaid : Prop := fnExactLookAtRow.holds Try.pinned (OpenSpec.ofChange fnExactLookAtSpec)

/-- ITS FALSE NEIGHBOUR: 'it returns false'. Refute it at one input. -/
def fnExactLookAtWrong : ChangeSpec := { name := "fnExactLookAt", fn := fun _ => fun
  | [d1, d2, d3] => { results := [.lit (.bool false)], args := [d1, d2, d3] }
  | _ => none }
def FnExactLookAtWrongFalsely : Prop := fnExactLookAtRow.holds Try.pinned (OpenSpec.ofChange fnExactLookAtWrong)

/- THE SECOND FORM. 'bulk': how many values and letters a reading holds, each counted each time it is reached (what is shared counts as often as it is met; a slice's spare places count too). A statement '..UptoSaid' is the law's where the arguments, and the package variables that the reading takes, are together of bulk at most 1048576: NARROWER than '..Said'. Prove '..Said' where nothing that the law and all that it calls make is longer than what came in: it says more and counts as full. Else prove '..UptoSaid'. A law counts once. -/
mutual
def uptoBulk {H : Type} : DataW H → Nat
  | .lit (.string bytes) => bytes.length + 1
  | .lit _ => 1
  | .nil => 1
  | .ptr d => uptoBulk d + 1
  | .slice elems spare => uptoBulkAll elems + uptoBulkAll spare + 1
  | .agg parts => uptoBulkAll parts + 1
  | .iface _ d => uptoBulk d + 1
  | .map entries => uptoBulkEntries entries + 1
  | .held _ => 1
def uptoBulkAll {H : Type} : List (DataW H) → Nat
  | [] => 0
  | d :: r => uptoBulk d + uptoBulkAll r
def uptoBulkEntries {H : Type} : List (Lit × DataW H) → Nat
  | [] => 0
  | x :: r => uptoBulkEntry x + uptoBulkEntries r
def uptoBulkEntry {H : Type} : Lit × DataW H → Nat
  | (.string bytes, d) => bytes.length + uptoBulk d + 1
  | (_, d) => uptoBulk d + 1
 end
def uptoSmall : (H : Type) → List (DataW H) → Bool := fun _ ds => decide (uptoBulkAll ds ≤ 1048576)
def OpenSpec.upto (s : _root_.Go.ChangeSpec) : _root_.Go.OpenSpec := { _root_.Go.OpenSpec.ofChange s with cond := some uptoSmall }

/-- 'laws.FnExactEtchBy', WHERE WHAT IT READS IS OF BULK AT MOST 1048576: true; the input reads as it did. -/
def fnExactEtchByUptoRow : OpenClaim := { program := "ytceljakmjddgbab", sum := "aadc38d83fdf57ea23ef685a0a964f83b4244e22404e7a5694c95d23054caa8b", func := "loop.example/g00057/laws.FnExactEtchBy", spec := "fnExactEtchBy", unfollowed := true, recurses := true, apart := false, narrowed := true }
def FnExactEtchByUptoSaid : Prop := fnExactEtchByUptoRow.holds Try.pinned (OpenSpec.upto fnExactEtchBySpec)

/-- 'laws.FnExactPolishTo', WHERE WHAT IT READS IS OF BULK AT MOST 1048576: true; the input reads as it did. -/
def fnExactPolishToUptoRow : OpenClaim := { program := "ytceljakmjddgbab", sum := "aadc38d83fdf57ea23ef685a0a964f83b4244e22404e7a5694c95d23054caa8b", func := "loop.example/g00057/laws.FnExactPolishTo", spec := "fnExactPolishTo", unfollowed := true, recurses := true, apart := false, narrowed := true }
def FnExactPolishToUptoSaid : Prop := fnExactPolishToUptoRow.holds Try.pinned (OpenSpec.upto fnExactPolishToSpec)

/-- 'laws.FnExactOxidise', WHERE WHAT IT READS IS OF BULK AT MOST 1048576: true; the input reads as it did. -/
def fnExactOxidiseUptoRow : OpenClaim := { program := "ytceljakmjddgbab", sum := "aadc38d83fdf57ea23ef685a0a964f83b4244e22404e7a5694c95d23054caa8b", func := "loop.example/g00057/laws.FnExactOxidise", spec := "fnExactOxidise", unfollowed := true, recurses := true, apart := false, narrowed := true }
def FnExactOxidiseUptoSaid : Prop := fnExactOxidiseUptoRow.holds Try.pinned (OpenSpec.upto fnExactOxidiseSpec)

/-- 'laws.FnExactStripMat', WHERE WHAT IT READS IS OF BULK AT MOST 1048576: true; the input reads as it did. -/
def fnExactStripMatUptoRow : OpenClaim := { program := "ytceljakmjddgbab", sum := "aadc38d83fdf57ea23ef685a0a964f83b4244e22404e7a5694c95d23054caa8b", func := "loop.example/g00057/laws.FnExactStripMat", spec := "fnExactStripMat", unfollowed := true, recurses := true, apart := false, narrowed := true }
def FnExactStripMatUptoSaid : Prop := fnExactStripMatUptoRow.holds Try.pinned (OpenSpec.upto fnExactStripMatSpec)

/-- 'laws.FnExactLookAt', WHERE WHAT IT READS IS OF BULK AT MOST 1048576: true; the input reads as it did. -/
def fnExactLookAtUptoRow : OpenClaim := { program := "ytceljakmjddgbab", sum := "aadc38d83fdf57ea23ef685a0a964f83b4244e22404e7a5694c95d23054caa8b", func := "loop.example/g00057/laws.FnExactLookAt", spec := "fnExactLookAt", apart := false, narrowed := true }
def FnExactLookAtUptoSaid : Prop := fnExactLookAtUptoRow.holds Try.pinned (OpenSpec.upto fnExactLookAtSpec)

end Rows
end Go.Proofs.Ytceljakmjddgbab
