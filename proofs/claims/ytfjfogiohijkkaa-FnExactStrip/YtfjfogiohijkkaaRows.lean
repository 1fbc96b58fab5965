/-
  No cell of these rows narrows 'for every input' (looked for: loops, veiled, ifaces, maps, wideKeys, modest, calm, conditions, laid).
  DERIVED. THE GIVEN ROWS OF THIS SEAT. 6 by the template 'for every input the law returns true; each argument reads behind the call as it read before'; 0 by the template 'total and deterministic' (their statements: YtfjfogiohijkkaaTotals.lean).
  GIVEN WITH THE SEED: the statements are not yours to turn. If you find one false, say at which input.
  Laid BY PROGRAM, IN A SANDBOX (cutbox-rows.mjs): the forced cells as the released guide's own fill.sh prints them over the translation 5557946ce66402ff… (all of the seat's roots in one cut). By AI agents, Wed Nov 11 2026. No macro, syntax, notation, axiom, sorry.
-/
import Derived.Test.YtfjfogiohijkkaaChecked
import GoSem.Claim
import GoSem.ClaimJoined
import GoSem.ClaimMapViews
import Derived.JoinedTies
import Derived.KernelRfl
namespace Go.Proofs.Ytfjfogiohijkkaa
/- THE CELL 'sum', in the pinned program and in every row, IS THE sha256 OF THE DUMP (.gsa) THAT YtfjfogiohijkkaaProg.lean LOADS. Nothing in Lean hashes anything: it is a label: what it is worth is what the hold of that sum in a sandbox is worth. -/
noncomputable def Try.pinned : Pinned := { name := "ytfjfogiohijkkaa", sum := "5557946ce66402ffdfcce21141293589f84eb944062e8a6b958a9c50eff91c85", checked := Try.checked }
namespace Rows
def none {H : Type} : Left H := { results := [], args := [] }

/-- 'laws.FnExactProfileFault': WHATEVER THE INPUT: true; the input reads as it did. -/
def fnExactProfileFaultSpec : ChangeSpec := { name := "fnExactProfileFault", fn := fun _ => fun
  | [d] => { results := [.lit (.bool true)], args := [d] }
  | _ => none }
def fnExactProfileFaultRow : OpenClaim := { program := "ytfjfogiohijkkaa", sum := "5557946ce66402ffdfcce21141293589f84eb944062e8a6b958a9c50eff91c85", func := "loop.example/g00057/laws.FnExactProfileFault", spec := "fnExactProfileFault", unfollowed := true, recurses := true, apart := false }
def FnExactProfileFaultSaid : Prop := fnExactProfileFaultRow.holds Try.pinned (OpenSpec.ofChange fnExactProfileFaultSpec)

/-- ITS FALSE NEIGHBOUR: 'it returns false'. Refute it at one input. -/
def fnExactProfileFaultWrong : ChangeSpec := { name := "fnExactProfileFault", fn := fun _ => fun
  | [d] => { results := [.lit (.bool false)], args := [d] }
  | _ => none }
def FnExactProfileFaultWrongFalsely : Prop := fnExactProfileFaultRow.holds Try.pinned (OpenSpec.ofChange fnExactProfileFaultWrong)

/-- 'laws.FnExactDoseOf': WHATEVER THE INPUT: true; the input reads as it did. -/
def fnExactDoseOfSpec : ChangeSpec := { name := "fnExactDoseOf", fn := fun _ => fun
  | [d] => { results := [.lit (.bool true)], args := [d] }
  | _ => none }
def fnExactDoseOfRow : OpenClaim := { program := "ytfjfogiohijkkaa", sum := "5557946ce66402ffdfcce21141293589f84eb944062e8a6b958a9c50eff91c85", func := "loop.example/g00057/laws.FnExactDoseOf", spec := "fnExactDoseOf", unfollowed := true, recurses := true, apart := false }
def FnExactDoseOfSaid : Prop := fnExactDoseOfRow.holds Try.pinned (OpenSpec.ofChange fnExactDoseOfSpec)

/-- ITS FALSE NEIGHBOUR: 'it returns false'. Refute it at one input. -/
def fnExactDoseOfWrong : ChangeSpec := { name := "fnExactDoseOf", fn := fun _ => fun
  | [d] => { results := [.lit (.bool false)], args := [d] }
  | _ => none }
def FnExactDoseOfWrongFalsely : Prop := fnExactDoseOfRow.holds Try.pinned (OpenSpec.ofChange fnExactDoseOfWrong)

/-- 'laws.FnExactImplantTable': WHATEVER THE INPUT: true; the input reads as it did. -/
def fnExactImplantTableSpec : ChangeSpec := { name := "fnExactImplantTable", fn := fun _ => fun
  | [d1, d2, d3, d4] => { results := [.lit (.bool true)], args := [d1, d2, d3, d4] }
  | _ => none }
def fnExactImplantTableRow : OpenClaim := { program := "ytfjfogiohijkkaa", sum := "5557946ce66402ffdfcce21141293589f84eb944062e8a6b958a9c50eff91c85", func := "loop.example/g00057/laws.FnExactImplantTable", spec := "fnExactImplantTable", unfollowed := true, recurses := true, apart := false }
def FnExactImplantTableSaid : Prop := fnExactImplantTableRow.holds Try.pinned (OpenSpec.ofChange fnExactImplantTableSpec)

/-- ITS FALSE NEIGHBOUR: 'it returns false'. Refute it at one input. -/
def fnExactImplantTableWrong : ChangeSpec := { name := "fnExactImplantTable", fn := fun _ => fun
  | [d1, d2, d3, d4] => { results := [.lit (.bool false)], args := [d1, d2, d3, d4] }
  | _ => none }
def FnExactImplantTableWrongFalsely : Prop := fnExactImplantTableRow.holds Try.pinned (OpenSpec.ofChange fnExactImplantTableWrong)

/-- 'laws.FnExactImplantCoins': WHATEVER THE INPUT: true; the input reads as it did. -/
def fnExactImplantCoinsSpec : ChangeSpec := { name := "fnExactImplantCoins", fn := fun _ => fun
  | [d1, d2, d3, d4] => { results := [.lit (.bool true)], args := [d1, d2, d3, d4] }
  | _ => none }
def fnExactImplantCoinsRow : OpenClaim := { program := "ytfjfogiohijkkaa", sum := "5557946ce66402ffdfcce21141293589f84eb944062e8a6b958a9c50eff91c85", func := "loop.example/g00057/laws.FnExactImplantCoins", spec := "fnExactImplantCoins", unfollowed := true, recurses := true, apart := false }
def FnExactImplantCoinsSaid : Prop := fnExactImplantCoinsRow.holds Try.pinned (OpenSpec.ofChange fnExactImplantCoinsSpec)

/-- ITS FALSE NEIGHBOUR: 'it returns false'. Refute it at one input. -/
def fnExactImplantCoinsWrong : ChangeSpec := { name := "fnExactImplantCoins", fn := fun _ => fun
  | [d1, d2, d3, d4] => { results := [.lit (.bool false)], args := [d1, d2, d3, d4] }
  | _ => none }
def FnExactImplantCoinsWrongFalsely : Prop := fnExactImplantCoinsRow.holds Try.pinned (OpenSpec.ofChange fnExactImplantCoinsWrong)

/-- 'laws.FnExactAnneal': WHATEVER THE INPUT: true; the input reads as it did. -/
def fnExactAnnealSpec : ChangeSpec := { name := "fnExactAnneal", fn := fun _ => fun
  | [d1, d2, d3] => { results := [.lit (.bool true)], args := [d1, d2, d3] }
  | _ => none }
def fnExactAnnealRow : OpenClaim := { program := "ytfjfogiohijkkaa", sum := "5557946ce66402ffdfcce21141293589f84eb944062e8a6b958a9c50eff91c85", func := "loop.example/g00057/laws.FnExactAnneal", spec := "fnExactAnneal", unfollowed := true, recurses := true, apart := false }
def FnExactAnnealSaid : Prop := fnExactAnnealRow.holds Try.pinned (OpenSpec.ofChange fnExactAnnealSpec)

/-- ITS FALSE NEIGHBOUR: 'it returns false'. Refute it at one input. -/
def fnExactAnnealWrong : ChangeSpec := { name := "fnExactAnneal", fn := fun _ => fun
  | [d1, d2, d3] => { results := [.lit (.bool false)], args := [d1, d2, d3] }
  | _ => none }
def FnExactAnnealWrongFalsely : Prop := fnExactAnnealRow.holds Try.pinned (OpenSpec.ofChange fnExactAnnealWrong)

/-- 'laws.FnExactStrip': WHATEVER THE INPUT: true; the input reads as it did. -/
def fnExactStripSpec : ChangeSpec := { name := "fnExactStrip", fn := fun _ => fun
  | [d1, d2] => { results := [.lit (.bool true)], args := [d1, d2] }
  | _ => none }
def fnExactStripRow : OpenClaim := { program := "ytfjfogiohijkkaa", sum := "5557946ce66402ffdfcce21141293589f84eb944062e8a6b958a9c50eff91c85", func := "loop.example/g00057/laws.FnExactStrip", spec := "fnExactStrip", unfollowed := true, recurses := true, apart := false }
def FnExactStripSaid : Prop := fnExactStripRow.holds Try.pinned (OpenSpec.ofChange fnExactStripSpec)

/-- ITS FALSE NEIGHBOUR: 'it returns false'. Refute it at one input. -/
def fnExactStripWrong : ChangeSpec := { name := "fnExactStrip", fn := fun _ => fun
  | [d1, d2] => { results := [.lit (.bool false)], args := [d1, d2] }
  | _ => none }
def FnExactStripWrongFalsely : Prop := fnExactStripRow.holds Try.pinned (OpenSpec.ofChange fnExactStripWrong)

/- THE SECOND FORM. 'bulk': how many values and letters a reading holds, each counted each time it is reached (what is shared counts as often as it is met; a slice's spare places count too). A statement '..UptoSaid' is the law's where the arguments, and the package variables that the reading takes, are together of bulk at most 1048576: NARROWER than '..Said'. Prove '..Said' where nothing that the law and all that it calls make is longer than what came in: it says more and counts as full. Else prove '..UptoSaid'. A law counts once. -/
mutual
def uptoBulk {H : Type} : DataW H → Nat
  | .lit (.string bytes) => bytes.length + 1
  | .lit _ => 1
  | .nil => 1
  | .ptr d => uptoBulk d + 1
  | .slice elems spare => uptoBulkAll elems + uptoBulkAll spare + 1
  | .agg parts => uptoBulkAll parts + 1
  | .iface _ d => uptoBulk d + 1
  | .map entries => uptoBulkEntries entries + 1
  | .held _ => 1
def uptoBulkAll {H : Type} : List (DataW H) → Nat
  | [] => 0
  | d :: r => uptoBulk d + uptoBulkAll r
def uptoBulkEntries {H : Type} : List (Lit × DataW H) → Nat
  | [] => 0
  | x :: r => uptoBulkEntry x + uptoBulkEntries r
def uptoBulkEntry {H : Type} : Lit × DataW H → Nat
  | (.string bytes, d) => bytes.length + uptoBulk d + 1
  | (_, d) => uptoBulk d + 1
 end
def uptoSmall : (H : Type) → List (DataW H) → Bool := fun _ ds => decide (uptoBulkAll ds ≤ 1048576)
def OpenSpec.upto (s : _root_.Go.ChangeSpec) : _root_.Go.OpenSpec := { _root_.Go.OpenSpec.ofChange s with cond := some uptoSmall }

/-- 'laws.FnExactProfileFault', WHERE WHAT IT READS IS OF BULK AT MOST 1048576: true; the input reads as it did. -/
def fnExactProfileFaultUptoRow : OpenClaim := { program := "ytfjfogiohijkkaa", sum := "5557946ce66402ffdfcce21141293589f84eb944062e8a6b958a9c50eff91c85", func := "loop.example/g00057/laws.FnExactProfileFault", spec := "fnExactProfileFault", unfollowed := true, recurses := true, apart := false, narrowed := true }
def FnExactProfileFaultUptoSaid : Prop := fnExactProfileFaultUptoRow.holds Try.pinned (OpenSpec.upto fnExactProfileFaultSpec)

/-- 'laws.FnExactDoseOf', WHERE WHAT IT READS IS OF BULK AT MOST 1048576: true; the input reads as it did. -/
def fnExactDoseOfUptoRow : OpenClaim := { program := "ytfjfogiohijkkaa", sum := "5557946ce66402ffdfcce21141293589f84eb944062e8a6b958a9c50eff91c85", func := "loop.example/g00057/laws.FnExactDoseOf", spec := "fnExactDoseOf", unfollowed := true, recurses := true, apart := false, narrowed := true }
def FnExactDoseOfUptoSaid : Prop := fnExactDoseOfUptoRow.holds Try.pinned (OpenSpec.upto fnExactDoseOfSpec)

/-- 'laws.FnExactImplantTable', WHERE WHAT IT READS IS OF BULK AT MOST 1048576: true; the input reads as it did. -/
def fnExactImplantTableUptoRow : OpenClaim := { program := "ytfjfogiohijkkaa", sum := "5557946ce66402ffdfcce21141293589f84eb944062e8a6b958a9c50eff91c85", func := "loop.example/g00057/laws.FnExactImplantTable", spec := "fnExactImplantTable", unfollowed := true, recurses := true, apart := false, narrowed := true }
def FnExactImplantTableUptoSaid : Prop := fnExactImplantTableUptoRow.holds Try.pinned (OpenSpec.upto fnExactImplantTableSpec)

/-- 'laws.FnExactImplantCoins', WHERE WHAT IT READS IS OF BULK AT MOST 1048576: true; the input reads as it did. -/
def fnExactImplantCoinsUptoRow : OpenClaim := { program := "ytfjfogiohijkkaa", sum := "5557946ce66402ffdfcce21141293589f84eb944062e8a6b958a9c50eff91c85", func := "loop.example/g00057/laws.FnExactImplantCoins", spec := "fnExactImplantCoins", unfollowed := true, recurses := true, apart := false, narrowed := true }
def FnExactImplantCoinsUptoSaid : Prop := fnExactImplantCoinsUptoRow.holds Try.pinned (OpenSpec.upto fnExactImplantCoinsSpec)

/-- 'laws.FnExactAnneal', WHERE WHAT IT READS IS OF BULK AT MOST 1048576: true; the input reads as it did. -/
def fnExactAnnealUptoRow : OpenClaim := { program := "ytfjfogiohijkkaa", sum := "5557946ce66402ffdfcce21141293589f84eb944062e8a6b958a9c50eff91c85", func := "loop.example/g00057/laws.FnExactAnneal", spec := "fnExactAnneal", unfollowed := true, recurses := true, apart := false, narrowed := true }
def FnExactAnnealUptoSaid : Prop := fnExactAnnealUptoRow.holds Try.pinned (OpenSpec.upto fnExactAnnealSpec)

/-- 'laws.FnExactStrip', WHERE WHAT IT READS IS OF BULK AT MOST 1048576: true; the input reads as it did. -/
def fnExactStripUptoRow : OpenClaim := { program := "ytfjfogiohijkkaa", sum := "5557946ce66402ffdfcce21141293589f84eb944062e8a6b958a9c50eff91c85", func := "loop.example/g00057/laws.FnExactStrip", spec := "fnExactStrip", unfollowed := true, recurses := true, apart := false, narrowed := true }
def FnExactStripUptoSaid : Prop := fnExactStripUptoRow.holds Try.pinned (OpenSpec.upto fnExactStripSpec)

end Rows
end Go.Proofs.Ytfjfogiohijkkaa
