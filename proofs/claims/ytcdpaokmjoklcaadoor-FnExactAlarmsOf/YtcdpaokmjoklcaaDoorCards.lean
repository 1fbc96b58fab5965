/-
  DERIVED. GIVEN WITH THE SEED: THE CARDS: each row of YtcdpaokmjoklcaaDoorRows.lean that lists a variable, with what it lists TIED to the program's text (the seventh form; the later family's looks); each row that meets fmt, with fmt's text TOLD by the authors' own Lean function (tested against real Go, not proved from fmt's source: count such statements apart). THE CARD IS WHAT COUNTS. Prove the row's statement (the work); the ties are given (YtcdpaokmjoklcaaDoorTie.lean); close each card by the builder's one call (the guide's Derived/Test/ToyasCard.lean, 'card_holds'). Laid BY PROGRAM, IN A SANDBOX (cutbox-door.mjs). By AI agents, Wed Nov 11 2026. No macro, syntax, notation, axiom, sorry.
-/
import Derived.Test.YtcdpaokmjoklcaaDoorRows
import GoSem.ClaimSeven
namespace Go.Proofs.YtcdpaokmjoklcaaDoor
namespace Rows

/-- THE TIED CARD OF 'laws.FnExactAlarmsOf'. -/
def fnExactAlarmsOfCard : Claim7 := { stood := { row := fnExactAlarmsOfRow, standIns := [], harness := (true, "b3b195bf5e51aee5eadd1b4ca5e0d127d2db20971d97b195d74fd3fedda6e05c"), looks := false }, kinds := [], alts := [], laidByText := true, laidKinds := [.data], laidTests := true, laidLooks := .later }
def FnExactAlarmsOfCardSaid : Prop := Claim7.holds Tryd.pinned (.plain (OpenSpec.ofChange fnExactAlarmsOfSpec)) fnExactAlarmsOfCard

/-- THE SECOND FORM's CARD OF 'laws.FnExactAlarmsOf'. -/
def fnExactAlarmsOfUptoCard : Claim7 := { stood := { row := fnExactAlarmsOfUptoRow, standIns := [], harness := (true, "b3b195bf5e51aee5eadd1b4ca5e0d127d2db20971d97b195d74fd3fedda6e05c"), looks := false }, kinds := [], alts := [], laidByText := true, laidKinds := [.data], laidTests := true, laidLooks := .later }
def FnExactAlarmsOfUptoCardSaid : Prop := Claim7.holds Tryd.pinned (.plain (OpenSpec.upto fnExactAlarmsOfSpec)) fnExactAlarmsOfUptoCard
end Rows
end Go.Proofs.YtcdpaokmjoklcaaDoor
