/-
  DERIVED. GIVEN WITH THE SEED: THE CARDS: each row of YtmdmcmdchjlmiaaDoorRows.lean that lists a variable, with what it lists TIED to the program's text (the seventh form; the later family's looks); each row that meets fmt, with fmt's text TOLD by the authors' own Lean function (tested against real Go, not proved from fmt's source: count such statements apart). THE CARD IS WHAT COUNTS. Prove the row's statement (the work); the ties are given (YtmdmcmdchjlmiaaDoorTie.lean); close each card by the builder's one call (the guide's Derived/Test/ToyasCard.lean, 'card_holds'). Laid BY PROGRAM, IN A SANDBOX (cutbox-door.mjs). By AI agents, Wed Nov 11 2026. No macro, syntax, notation, axiom, sorry.
-/
import Derived.Test.YtmdmcmdchjlmiaaDoorRows
import GoSem.ClaimSeven
namespace Go.Proofs.YtmdmcmdchjlmiaaDoor
namespace Rows

/-- THE TIED CARD OF 'penstocklaw11.NumberMakes'. -/
def numberMakesCard : Claim7 := { stood := { row := numberMakesRow, standIns := [], harness := (true, "4e844f0ad49390b576d50c70f249c377053486e05031e15bce9e3175441542b2"), looks := false }, kinds := [], alts := [], laidByText := true, laidKinds := [.data, .data, .data, .data], laidTests := true, laidLooks := .later }
def NumberMakesCardSaid : Prop := Claim7.holds Tryd.pinned (.plain (OpenSpec.ofChange numberMakesSpec)) numberMakesCard

/-- THE TIED CARD OF 'penstocklaw11.NumberMeans'. -/
def numberMeansCard : Claim7 := { stood := { row := numberMeansRow, standIns := [], harness := (true, "4e844f0ad49390b576d50c70f249c377053486e05031e15bce9e3175441542b2"), looks := false }, kinds := [], alts := [], laidByText := true, laidKinds := [.data, .data, .data, .data], laidTests := true, laidLooks := .later }
def NumberMeansCardSaid : Prop := Claim7.holds Tryd.pinned (.plain (OpenSpec.ofChange numberMeansSpec)) numberMeansCard

/-- THE TIED CARD OF 'penstocklaw11.NumberHolds'. -/
def numberHoldsCard : Claim7 := { stood := { row := numberHoldsRow, standIns := [], harness := (true, "4e844f0ad49390b576d50c70f249c377053486e05031e15bce9e3175441542b2"), looks := false }, kinds := [], alts := [], laidByText := true, laidKinds := [.data, .data, .data, .data], laidTests := true, laidLooks := .later }
def NumberHoldsCardSaid : Prop := Claim7.holds Tryd.pinned (.plain (OpenSpec.ofChange numberHoldsSpec)) numberHoldsCard

/-- THE TIED CARD OF 'penstocklaw11.NumberRefuses'. -/
def numberRefusesCard : Claim7 := { stood := { row := numberRefusesRow, standIns := [], harness := (true, "4e844f0ad49390b576d50c70f249c377053486e05031e15bce9e3175441542b2"), looks := false }, kinds := [], alts := [], laidByText := true, laidKinds := [.data, .data, .data, .data], laidTests := true, laidLooks := .later }
def NumberRefusesCardSaid : Prop := Claim7.holds Tryd.pinned (.plain (OpenSpec.ofChange numberRefusesSpec)) numberRefusesCard

/-- THE TIED CARD OF 'penstocklaw11.NumberChunks'. -/
def numberChunksCard : Claim7 := { stood := { row := numberChunksRow, standIns := [], harness := (true, "4e844f0ad49390b576d50c70f249c377053486e05031e15bce9e3175441542b2"), looks := false }, kinds := [], alts := [], laidByText := true, laidKinds := [.data, .data, .data, .data], laidTests := true, laidLooks := .later }
def NumberChunksCardSaid : Prop := Claim7.holds Tryd.pinned (.plain (OpenSpec.ofChange numberChunksSpec)) numberChunksCard

/-- THE TIED CARD OF 'penstocklaw11.NumberGrows'. -/
def numberGrowsCard : Claim7 := { stood := { row := numberGrowsRow, standIns := [], harness := (true, "4e844f0ad49390b576d50c70f249c377053486e05031e15bce9e3175441542b2"), looks := false }, kinds := [], alts := [], laidByText := true, laidKinds := [.data, .data, .data, .data], laidTests := true, laidLooks := .later }
def NumberGrowsCardSaid : Prop := Claim7.holds Tryd.pinned (.plain (OpenSpec.ofChange numberGrowsSpec)) numberGrowsCard

/-- THE TIED CARD OF 'penstocklaw11.NumberRises'. -/
def numberRisesCard : Claim7 := { stood := { row := numberRisesRow, standIns := [], harness := (true, "4e844f0ad49390b576d50c70f249c377053486e05031e15bce9e3175441542b2"), looks := false }, kinds := [], alts := [], laidByText := true, laidKinds := [.data, .data, .data, .data], laidTests := true, laidLooks := .later }
def NumberRisesCardSaid : Prop := Claim7.holds Tryd.pinned (.plain (OpenSpec.ofChange numberRisesSpec)) numberRisesCard

/-- THE SECOND FORM's CARD OF 'penstocklaw11.NumberMakes'. -/
def numberMakesUptoCard : Claim7 := { stood := { row := numberMakesUptoRow, standIns := [], harness := (true, "4e844f0ad49390b576d50c70f249c377053486e05031e15bce9e3175441542b2"), looks := false }, kinds := [], alts := [], laidByText := true, laidKinds := [.data, .data, .data, .data], laidTests := true, laidLooks := .later }
def NumberMakesUptoCardSaid : Prop := Claim7.holds Tryd.pinned (.plain (OpenSpec.upto numberMakesSpec)) numberMakesUptoCard

/-- THE SECOND FORM's CARD OF 'penstocklaw11.NumberMeans'. -/
def numberMeansUptoCard : Claim7 := { stood := { row := numberMeansUptoRow, standIns := [], harness := (true, "4e844f0ad49390b576d50c70f249c377053486e05031e15bce9e3175441542b2"), looks := false }, kinds := [], alts := [], laidByText := true, laidKinds := [.data, .data, .data, .data], laidTests := true, laidLooks := .later }
def NumberMeansUptoCardSaid : Prop := Claim7.holds Tryd.pinned (.plain (OpenSpec.upto numberMeansSpec)) numberMeansUptoCard

/-- THE SECOND FORM's CARD OF 'penstocklaw11.NumberHolds'. -/
def numberHoldsUptoCard : Claim7 := { stood := { row := numberHoldsUptoRow, standIns := [], harness := (true, "4e844f0ad49390b576d50c70f249c377053486e05031e15bce9e3175441542b2"), looks := false }, kinds := [], alts := [], laidByText := true, laidKinds := [.data, .data, .data, .data], laidTests := true, laidLooks := .later }
def NumberHoldsUptoCardSaid : Prop := Claim7.holds Tryd.pinned (.plain (OpenSpec.upto numberHoldsSpec)) numberHoldsUptoCard

/-- THE SECOND FORM's CARD OF 'penstocklaw11.NumberRefuses'. -/
def numberRefusesUptoCard : Claim7 := { stood := { row := numberRefusesUptoRow, standIns := [], harness := (true, "4e844f0ad49390b576d50c70f249c377053486e05031e15bce9e3175441542b2"), looks := false }, kinds := [], alts := [], laidByText := true, laidKinds := [.data, .data, .data, .data], laidTests := true, laidLooks := .later }
def NumberRefusesUptoCardSaid : Prop := Claim7.holds Tryd.pinned (.plain (OpenSpec.upto numberRefusesSpec)) numberRefusesUptoCard

/-- THE SECOND FORM's CARD OF 'penstocklaw11.NumberChunks'. -/
def numberChunksUptoCard : Claim7 := { stood := { row := numberChunksUptoRow, standIns := [], harness := (true, "4e844f0ad49390b576d50c70f249c377053486e05031e15bce9e3175441542b2"), looks := false }, kinds := [], alts := [], laidByText := true, laidKinds := [.data, .data, .data, .data], laidTests := true, laidLooks := .later }
def NumberChunksUptoCardSaid : Prop := Claim7.holds Tryd.pinned (.plain (OpenSpec.upto numberChunksSpec)) numberChunksUptoCard

/-- THE SECOND FORM's CARD OF 'penstocklaw11.NumberGrows'. -/
def numberGrowsUptoCard : Claim7 := { stood := { row := numberGrowsUptoRow, standIns := [], harness := (true, "4e844f0ad49390b576d50c70f249c377053486e05031e15bce9e3175441542b2"), looks := false }, kinds := [], alts := [], laidByText := true, laidKinds := [.data, .data, .data, .data], laidTests := true, laidLooks := .later }
def NumberGrowsUptoCardSaid : Prop := Claim7.holds Tryd.pinned (.plain (OpenSpec.upto numberGrowsSpec)) numberGrowsUptoCard

/-- THE SECOND FORM's CARD OF 'penstocklaw11.NumberRises'. -/
def numberRisesUptoCard : Claim7 := { stood := { row := numberRisesUptoRow, standIns := [], harness := (true, "4e844f0ad49390b576d50c70f249c377053486e05031e15bce9e3175441542b2"), looks := false }, kinds := [], alts := [], laidByText := true, laidKinds := [.data, .data, .data, .data], laidTests := true, laidLooks := .later }
def NumberRisesUptoCardSaid : Prop := Claim7.holds Tryd.pinned (.plain (OpenSpec.upto numberRisesSpec)) numberRisesUptoCard
end Rows
end Go.Proofs.YtmdmcmdchjlmiaaDoor
