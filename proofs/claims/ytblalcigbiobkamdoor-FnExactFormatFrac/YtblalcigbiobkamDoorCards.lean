/-
  DERIVED. GIVEN WITH THE SEED: THE CARDS: each row of YtblalcigbiobkamDoorRows.lean that lists a variable, with what it lists TIED to the program's text (the seventh form; the later family's looks); each row that meets fmt, with fmt's text TOLD by the authors' own Lean function (tested against real Go, not proved from fmt's source: count such statements apart). THE CARD IS WHAT COUNTS. Prove the row's statement (the work); the ties are given (YtblalcigbiobkamDoorTie.lean); close each card by the builder's one call (the guide's Derived/Test/ToyasCard.lean, 'card_holds'). Laid BY PROGRAM, IN A SANDBOX (cutbox-door.mjs). By AI agents, Wed Nov 11 2026. No macro, syntax, notation, axiom, sorry.
-/
import Derived.Test.YtblalcigbiobkamDoorRows
import GoSem.ClaimSeven
namespace Go.Proofs.YtblalcigbiobkamDoor
namespace Rows

/-- THE TIED CARD OF 'laws.FnExactFormatFrac'. -/
def fnExactFormatFracCard : Claim7 := { stood := { row := fnExactFormatFracRow, standIns := [], harness := (true, "1e76a2bd2873580b53d7be2803733012bb4e7b42babbf35295fa3dda0596b8b7"), looks := false }, kinds := [], alts := [], laidByText := true, laidKinds := [.data, .data, .data], laidTests := true, laidLooks := .later }
def FnExactFormatFracCardSaid : Prop := Claim7.holds Tryd.pinned (.plain (OpenSpec.ofChange fnExactFormatFracSpec)) fnExactFormatFracCard

/-- THE SECOND FORM's CARD OF 'laws.FnExactFormatFrac'. -/
def fnExactFormatFracUptoCard : Claim7 := { stood := { row := fnExactFormatFracUptoRow, standIns := [], harness := (true, "1e76a2bd2873580b53d7be2803733012bb4e7b42babbf35295fa3dda0596b8b7"), looks := false }, kinds := [], alts := [], laidByText := true, laidKinds := [.data, .data, .data], laidTests := true, laidLooks := .later }
def FnExactFormatFracUptoCardSaid : Prop := Claim7.holds Tryd.pinned (.plain (OpenSpec.upto fnExactFormatFracSpec)) fnExactFormatFracUptoCard
end Rows
end Go.Proofs.YtblalcigbiobkamDoor
