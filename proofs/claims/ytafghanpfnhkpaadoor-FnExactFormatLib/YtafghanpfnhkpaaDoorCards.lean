/-
  DERIVED. GIVEN WITH THE SEED: THE CARDS: each row of YtafghanpfnhkpaaDoorRows.lean that lists a variable, with what it lists TIED to the program's text (the seventh form; the later family's looks); each row that meets fmt, with fmt's text TOLD by the authors' own Lean function (tested against real Go, not proved from fmt's source: count such statements apart). THE CARD IS WHAT COUNTS. Prove the row's statement (the work); the ties are given (YtafghanpfnhkpaaDoorTie.lean); close each card by the builder's one call (the guide's Derived/Test/ToyasCard.lean, 'card_holds'). Laid BY PROGRAM, IN A SANDBOX (cutbox-door.mjs). By AI agents, Wed Nov 11 2026. No macro, syntax, notation, axiom, sorry.
-/
import Derived.Test.YtafghanpfnhkpaaDoorRows
import GoSem.ClaimSeven
namespace Go.Proofs.YtafghanpfnhkpaaDoor
namespace Rows

/-- THE TIED CARD OF 'laws.FnExactFormatLib'. -/
def fnExactFormatLibCard : Claim7 := { stood := { row := fnExactFormatLibRow, standIns := [], harness := (true, "fea4112b698e6a0ac157fab4276e0596f035834d6602e1ec94a66d3dee036251"), looks := false }, kinds := [], alts := [], laidByText := true, laidKinds := [.data, .data, .data], laidTests := true, laidLooks := .later }
def FnExactFormatLibCardSaid : Prop := Claim7.holds Tryd.pinned (.plain (OpenSpec.ofChange fnExactFormatLibSpec)) fnExactFormatLibCard

/-- THE SECOND FORM's CARD OF 'laws.FnExactFormatLib'. -/
def fnExactFormatLibUptoCard : Claim7 := { stood := { row := fnExactFormatLibUptoRow, standIns := [], harness := (true, "fea4112b698e6a0ac157fab4276e0596f035834d6602e1ec94a66d3dee036251"), looks := false }, kinds := [], alts := [], laidByText := true, laidKinds := [.data, .data, .data], laidTests := true, laidLooks := .later }
def FnExactFormatLibUptoCardSaid : Prop := Claim7.holds Tryd.pinned (.plain (OpenSpec.upto fnExactFormatLibSpec)) fnExactFormatLibUptoCard
end Rows
end Go.Proofs.YtafghanpfnhkpaaDoor
