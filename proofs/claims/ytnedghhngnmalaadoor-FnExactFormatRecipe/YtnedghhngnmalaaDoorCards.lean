/-
  DERIVED. GIVEN WITH THE SEED: THE CARDS: each row of YtnedghhngnmalaaDoorRows.lean that lists a variable, with what it lists TIED to the program's text (the seventh form; the later family's looks); each row that meets fmt, with fmt's text TOLD by the authors' own Lean function (tested against real Go, not proved from fmt's source: count such statements apart). THE CARD IS WHAT COUNTS. Prove the row's statement (the work); the ties are given (YtnedghhngnmalaaDoorTie.lean); close each card by the builder's one call (the guide's Derived/Test/ToyasCard.lean, 'card_holds'). Laid BY PROGRAM, IN A SANDBOX (cutbox-door.mjs). By AI agents, Wed Nov 11 2026. No macro, syntax, notation, axiom, sorry.
-/
import Derived.Test.YtnedghhngnmalaaDoorRows
import GoSem.ClaimSeven
namespace Go.Proofs.YtnedghhngnmalaaDoor
namespace Rows

/-- THE TIED CARD OF 'laws.FnExactValueText'. -/
def fnExactValueTextCard : Claim7 := { stood := { row := fnExactValueTextRow, standIns := [], harness := (true, "ef7992c603d241427b28bbd12b0a75d375be0e38e45baee020226fc95fcb339e"), looks := false }, kinds := [], alts := [], laidByText := true, laidKinds := [.data, .data, .data], laidTests := true, laidLooks := .later }
def FnExactValueTextCardSaid : Prop := Claim7.holds Tryd.pinned (.plain (OpenSpec.ofChange fnExactValueTextSpec)) fnExactValueTextCard

/-- THE TIED CARD OF 'laws.FnExactRecipeFault'. -/
def fnExactRecipeFaultCard : Claim7 := { stood := { row := fnExactRecipeFaultRow, standIns := [], harness := (true, "ef7992c603d241427b28bbd12b0a75d375be0e38e45baee020226fc95fcb339e"), looks := false }, kinds := [], alts := [], laidByText := true, laidKinds := [.data, .data, .data], laidTests := true, laidLooks := .later }
def FnExactRecipeFaultCardSaid : Prop := Claim7.holds Tryd.pinned (.plain (OpenSpec.ofChange fnExactRecipeFaultSpec)) fnExactRecipeFaultCard

/-- THE TIED CARD OF 'laws.FnExactTotalTime'. -/
def fnExactTotalTimeCard : Claim7 := { stood := { row := fnExactTotalTimeRow, standIns := [], harness := (true, "ef7992c603d241427b28bbd12b0a75d375be0e38e45baee020226fc95fcb339e"), looks := false }, kinds := [], alts := [], laidByText := true, laidKinds := [.data, .data, .data], laidTests := true, laidLooks := .later }
def FnExactTotalTimeCardSaid : Prop := Claim7.holds Tryd.pinned (.plain (OpenSpec.ofChange fnExactTotalTimeSpec)) fnExactTotalTimeCard

/-- THE TIED CARD OF 'laws.FnExactSetParams'. -/
def fnExactSetParamsCard : Claim7 := { stood := { row := fnExactSetParamsRow, standIns := [], harness := (true, "ef7992c603d241427b28bbd12b0a75d375be0e38e45baee020226fc95fcb339e"), looks := false }, kinds := [], alts := [], laidByText := true, laidKinds := [.data, .data, .data], laidTests := true, laidLooks := .later }
def FnExactSetParamsCardSaid : Prop := Claim7.holds Tryd.pinned (.plain (OpenSpec.ofChange fnExactSetParamsSpec)) fnExactSetParamsCard

/-- THE TIED CARD OF 'laws.FnExactDiffRecipes'. -/
def fnExactDiffRecipesCard : Claim7 := { stood := { row := fnExactDiffRecipesRow, standIns := [], harness := (true, "ef7992c603d241427b28bbd12b0a75d375be0e38e45baee020226fc95fcb339e"), looks := false }, kinds := [], alts := [], laidByText := true, laidKinds := [.data, .data, .data], laidTests := true, laidLooks := .later }
def FnExactDiffRecipesCardSaid : Prop := Claim7.holds Tryd.pinned (.plain (OpenSpec.ofChange fnExactDiffRecipesSpec)) fnExactDiffRecipesCard

/-- THE TIED CARD OF 'laws.FnExactFormatRecipe'. -/
def fnExactFormatRecipeCard : Claim7 := { stood := { row := fnExactFormatRecipeRow, standIns := [], harness := (true, "ef7992c603d241427b28bbd12b0a75d375be0e38e45baee020226fc95fcb339e"), looks := false }, kinds := [], alts := [], laidByText := true, laidKinds := [.data, .data, .data], laidTests := true, laidLooks := .later }
def FnExactFormatRecipeCardSaid : Prop := Claim7.holds Tryd.pinned (.plain (OpenSpec.ofChange fnExactFormatRecipeSpec)) fnExactFormatRecipeCard

/-- THE SECOND FORM's CARD OF 'laws.FnExactValueText'. -/
def fnExactValueTextUptoCard : Claim7 := { stood := { row := fnExactValueTextUptoRow, standIns := [], harness := (true, "ef7992c603d241427b28bbd12b0a75d375be0e38e45baee020226fc95fcb339e"), looks := false }, kinds := [], alts := [], laidByText := true, laidKinds := [.data, .data, .data], laidTests := true, laidLooks := .later }
def FnExactValueTextUptoCardSaid : Prop := Claim7.holds Tryd.pinned (.plain (OpenSpec.upto fnExactValueTextSpec)) fnExactValueTextUptoCard

/-- THE SECOND FORM's CARD OF 'laws.FnExactRecipeFault'. -/
def fnExactRecipeFaultUptoCard : Claim7 := { stood := { row := fnExactRecipeFaultUptoRow, standIns := [], harness := (true, "ef7992c603d241427b28bbd12b0a75d375be0e38e45baee020226fc95fcb339e"), looks := false }, kinds := [], alts := [], laidByText := true, laidKinds := [.data, .data, .data], laidTests := true, laidLooks := .later }
def FnExactRecipeFaultUptoCardSaid : Prop := Claim7.holds Tryd.pinned (.plain (OpenSpec.upto fnExactRecipeFaultSpec)) fnExactRecipeFaultUptoCard

/-- THE SECOND FORM's CARD OF 'laws.FnExactTotalTime'. -/
def fnExactTotalTimeUptoCard : Claim7 := { stood := { row := fnExactTotalTimeUptoRow, standIns := [], harness := (true, "ef7992c603d241427b28bbd12b0a75d375be0e38e45baee020226fc95fcb339e"), looks := false }, kinds := [], alts := [], laidByText := true, laidKinds := [.data, .data, .data], laidTests := true, laidLooks := .later }
def FnExactTotalTimeUptoCardSaid : Prop := Claim7.holds Tryd.pinned (.plain (OpenSpec.upto fnExactTotalTimeSpec)) fnExactTotalTimeUptoCard

/-- THE SECOND FORM's CARD OF 'laws.FnExactSetParams'. -/
def fnExactSetParamsUptoCard : Claim7 := { stood := { row := fnExactSetParamsUptoRow, standIns := [], harness := (true, "ef7992c603d241427b28bbd12b0a75d375be0e38e45baee020226fc95fcb339e"), looks := false }, kinds := [], alts := [], laidByText := true, laidKinds := [.data, .data, .data], laidTests := true, laidLooks := .later }
def FnExactSetParamsUptoCardSaid : Prop := Claim7.holds Tryd.pinned (.plain (OpenSpec.upto fnExactSetParamsSpec)) fnExactSetParamsUptoCard

/-- THE SECOND FORM's CARD OF 'laws.FnExactDiffRecipes'. -/
def fnExactDiffRecipesUptoCard : Claim7 := { stood := { row := fnExactDiffRecipesUptoRow, standIns := [], harness := (true, "ef7992c603d241427b28bbd12b0a75d375be0e38e45baee020226fc95fcb339e"), looks := false }, kinds := [], alts := [], laidByText := true, laidKinds := [.data, .data, .data], laidTests := true, laidLooks := .later }
def FnExactDiffRecipesUptoCardSaid : Prop := Claim7.holds Tryd.pinned (.plain (OpenSpec.upto fnExactDiffRecipesSpec)) fnExactDiffRecipesUptoCard

/-- THE SECOND FORM's CARD OF 'laws.FnExactFormatRecipe'. -/
def fnExactFormatRecipeUptoCard : Claim7 := { stood := { row := fnExactFormatRecipeUptoRow, standIns := [], harness := (true, "ef7992c603d241427b28bbd12b0a75d375be0e38e45baee020226fc95fcb339e"), looks := false }, kinds := [], alts := [], laidByText := true, laidKinds := [.data, .data, .data], laidTests := true, laidLooks := .later }
def FnExactFormatRecipeUptoCardSaid : Prop := Claim7.holds Tryd.pinned (.plain (OpenSpec.upto fnExactFormatRecipeSpec)) fnExactFormatRecipeUptoCard
end Rows
end Go.Proofs.YtnedghhngnmalaaDoor
