/-
  DERIVED. GIVEN WITH THE SEED: THE CARDS: each row of YtnljomeacnjmmaaDoorRows.lean that lists a variable, with what it lists TIED to the program's text (the seventh form; the later family's looks); each row that meets fmt, with fmt's text TOLD by the authors' own Lean function (tested against real Go, not proved from fmt's source: count such statements apart). THE CARD IS WHAT COUNTS. Prove the row's statement (the work); the ties are given (YtnljomeacnjmmaaDoorTie.lean); close each card by the builder's one call (the guide's Derived/Test/ToyasCard.lean, 'card_holds'). Laid BY PROGRAM, IN A SANDBOX (cutbox-door.mjs). By AI agents, Wed Nov 11 2026. No macro, syntax, notation, axiom, sorry.
-/
import Derived.Test.YtnljomeacnjmmaaDoorRows
import GoSem.ClaimSeven
namespace Go.Proofs.YtnljomeacnjmmaaDoor
namespace Rows

/-- THE TIED CARD OF 'laws.FnExactSumOfRecipe'. -/
def fnExactSumOfRecipeCard : Claim7 := { stood := { row := fnExactSumOfRecipeRow, standIns := [], harness := (true, "3cef83c57d69ca8379b804cb9acf15b42c5f8dd7346305fee058be972c2f14a4"), looks := false }, kinds := [], alts := [], laidByText := true, laidKinds := [.data, .data, .data], laidTests := true, laidLooks := .later }
def FnExactSumOfRecipeCardSaid : Prop := Claim7.holds Tryd.pinned (.plain (OpenSpec.ofChange fnExactSumOfRecipeSpec)) fnExactSumOfRecipeCard

/-- THE SECOND FORM's CARD OF 'laws.FnExactSumOfRecipe'. -/
def fnExactSumOfRecipeUptoCard : Claim7 := { stood := { row := fnExactSumOfRecipeUptoRow, standIns := [], harness := (true, "3cef83c57d69ca8379b804cb9acf15b42c5f8dd7346305fee058be972c2f14a4"), looks := false }, kinds := [], alts := [], laidByText := true, laidKinds := [.data, .data, .data], laidTests := true, laidLooks := .later }
def FnExactSumOfRecipeUptoCardSaid : Prop := Claim7.holds Tryd.pinned (.plain (OpenSpec.upto fnExactSumOfRecipeSpec)) fnExactSumOfRecipeUptoCard
end Rows
end Go.Proofs.YtnljomeacnjmmaaDoor
