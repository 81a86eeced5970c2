/-
  DERIVED. GIVEN WITH THE SEED: THE CARDS: each row of YtdpjopemdhbgpaaDoorRows.lean that lists a variable, with what it lists TIED to the program's text (the seventh form; the later family's looks); each row that meets fmt, with fmt's text TOLD by the authors' own Lean function (tested against real Go, not proved from fmt's source: count such statements apart). THE CARD IS WHAT COUNTS. Prove the row's statement (the work); the ties are given (YtdpjopemdhbgpaaDoorTie.lean); close each card by the builder's one call (the guide's Derived/Test/ToyasCard.lean, 'card_holds'). Laid BY PROGRAM, IN A SANDBOX (cutbox-door.mjs). By AI agents, Wed Nov 11 2026. No macro, syntax, notation, axiom, sorry.
-/
import Derived.Test.YtdpjopemdhbgpaaDoorRows
import GoSem.ClaimSeven
namespace Go.Proofs.YtdpjopemdhbgpaaDoor
namespace Rows

/-- THE TIED CARD OF 'penstocklaw05.TailMakes'. -/
def tailMakesCard : Claim7 := { stood := { row := tailMakesRow, standIns := [], harness := (true, "5dc7ed968b568a6b1fec72fa766edd46ca6b94f216354d8ccbc32ae81c7f27cf"), looks := false }, kinds := [], alts := [], laidByText := true, laidKinds := [.data], laidTests := true, laidLooks := .later }
def TailMakesCardSaid : Prop := Claim7.holds Tryd.pinned (.plain (OpenSpec.ofChange tailMakesSpec)) tailMakesCard

/-- THE TIED CARD OF 'penstocklaw05.TailMeans'. -/
def tailMeansCard : Claim7 := { stood := { row := tailMeansRow, standIns := [], harness := (true, "5dc7ed968b568a6b1fec72fa766edd46ca6b94f216354d8ccbc32ae81c7f27cf"), looks := false }, kinds := [], alts := [], laidByText := true, laidKinds := [.data], laidTests := true, laidLooks := .later }
def TailMeansCardSaid : Prop := Claim7.holds Tryd.pinned (.plain (OpenSpec.ofChange tailMeansSpec)) tailMeansCard

/-- THE TIED CARD OF 'penstocklaw05.TailHolds'. -/
def tailHoldsCard : Claim7 := { stood := { row := tailHoldsRow, standIns := [], harness := (true, "5dc7ed968b568a6b1fec72fa766edd46ca6b94f216354d8ccbc32ae81c7f27cf"), looks := false }, kinds := [], alts := [], laidByText := true, laidKinds := [.data], laidTests := true, laidLooks := .later }
def TailHoldsCardSaid : Prop := Claim7.holds Tryd.pinned (.plain (OpenSpec.ofChange tailHoldsSpec)) tailHoldsCard

/-- THE TIED CARD OF 'penstocklaw05.TailRefuses'. -/
def tailRefusesCard : Claim7 := { stood := { row := tailRefusesRow, standIns := [], harness := (true, "5dc7ed968b568a6b1fec72fa766edd46ca6b94f216354d8ccbc32ae81c7f27cf"), looks := false }, kinds := [], alts := [], laidByText := true, laidKinds := [.data], laidTests := true, laidLooks := .later }
def TailRefusesCardSaid : Prop := Claim7.holds Tryd.pinned (.plain (OpenSpec.ofChange tailRefusesSpec)) tailRefusesCard

/-- THE TIED CARD OF 'penstocklaw05.TailChunks'. -/
def tailChunksCard : Claim7 := { stood := { row := tailChunksRow, standIns := [], harness := (true, "5dc7ed968b568a6b1fec72fa766edd46ca6b94f216354d8ccbc32ae81c7f27cf"), looks := false }, kinds := [], alts := [], laidByText := true, laidKinds := [.data], laidTests := true, laidLooks := .later }
def TailChunksCardSaid : Prop := Claim7.holds Tryd.pinned (.plain (OpenSpec.ofChange tailChunksSpec)) tailChunksCard

/-- THE TIED CARD OF 'penstocklaw05.TailGrows'. -/
def tailGrowsCard : Claim7 := { stood := { row := tailGrowsRow, standIns := [], harness := (true, "5dc7ed968b568a6b1fec72fa766edd46ca6b94f216354d8ccbc32ae81c7f27cf"), looks := false }, kinds := [], alts := [], laidByText := true, laidKinds := [.data], laidTests := true, laidLooks := .later }
def TailGrowsCardSaid : Prop := Claim7.holds Tryd.pinned (.plain (OpenSpec.ofChange tailGrowsSpec)) tailGrowsCard

/-- THE TIED CARD OF 'penstocklaw05.TailTakes'. -/
def tailTakesCard : Claim7 := { stood := { row := tailTakesRow, standIns := [], harness := (true, "5dc7ed968b568a6b1fec72fa766edd46ca6b94f216354d8ccbc32ae81c7f27cf"), looks := false }, kinds := [], alts := [], laidByText := true, laidKinds := [.data], laidTests := true, laidLooks := .later }
def TailTakesCardSaid : Prop := Claim7.holds Tryd.pinned (.plain (OpenSpec.ofChange tailTakesSpec)) tailTakesCard

/-- THE SECOND FORM's CARD OF 'penstocklaw05.TailMakes'. -/
def tailMakesUptoCard : Claim7 := { stood := { row := tailMakesUptoRow, standIns := [], harness := (true, "5dc7ed968b568a6b1fec72fa766edd46ca6b94f216354d8ccbc32ae81c7f27cf"), looks := false }, kinds := [], alts := [], laidByText := true, laidKinds := [.data], laidTests := true, laidLooks := .later }
def TailMakesUptoCardSaid : Prop := Claim7.holds Tryd.pinned (.plain (OpenSpec.upto tailMakesSpec)) tailMakesUptoCard

/-- THE SECOND FORM's CARD OF 'penstocklaw05.TailMeans'. -/
def tailMeansUptoCard : Claim7 := { stood := { row := tailMeansUptoRow, standIns := [], harness := (true, "5dc7ed968b568a6b1fec72fa766edd46ca6b94f216354d8ccbc32ae81c7f27cf"), looks := false }, kinds := [], alts := [], laidByText := true, laidKinds := [.data], laidTests := true, laidLooks := .later }
def TailMeansUptoCardSaid : Prop := Claim7.holds Tryd.pinned (.plain (OpenSpec.upto tailMeansSpec)) tailMeansUptoCard

/-- THE SECOND FORM's CARD OF 'penstocklaw05.TailHolds'. -/
def tailHoldsUptoCard : Claim7 := { stood := { row := tailHoldsUptoRow, standIns := [], harness := (true, "5dc7ed968b568a6b1fec72fa766edd46ca6b94f216354d8ccbc32ae81c7f27cf"), looks := false }, kinds := [], alts := [], laidByText := true, laidKinds := [.data], laidTests := true, laidLooks := .later }
def TailHoldsUptoCardSaid : Prop := Claim7.holds Tryd.pinned (.plain (OpenSpec.upto tailHoldsSpec)) tailHoldsUptoCard

/-- THE SECOND FORM's CARD OF 'penstocklaw05.TailRefuses'. -/
def tailRefusesUptoCard : Claim7 := { stood := { row := tailRefusesUptoRow, standIns := [], harness := (true, "5dc7ed968b568a6b1fec72fa766edd46ca6b94f216354d8ccbc32ae81c7f27cf"), looks := false }, kinds := [], alts := [], laidByText := true, laidKinds := [.data], laidTests := true, laidLooks := .later }
def TailRefusesUptoCardSaid : Prop := Claim7.holds Tryd.pinned (.plain (OpenSpec.upto tailRefusesSpec)) tailRefusesUptoCard

/-- THE SECOND FORM's CARD OF 'penstocklaw05.TailChunks'. -/
def tailChunksUptoCard : Claim7 := { stood := { row := tailChunksUptoRow, standIns := [], harness := (true, "5dc7ed968b568a6b1fec72fa766edd46ca6b94f216354d8ccbc32ae81c7f27cf"), looks := false }, kinds := [], alts := [], laidByText := true, laidKinds := [.data], laidTests := true, laidLooks := .later }
def TailChunksUptoCardSaid : Prop := Claim7.holds Tryd.pinned (.plain (OpenSpec.upto tailChunksSpec)) tailChunksUptoCard

/-- THE SECOND FORM's CARD OF 'penstocklaw05.TailGrows'. -/
def tailGrowsUptoCard : Claim7 := { stood := { row := tailGrowsUptoRow, standIns := [], harness := (true, "5dc7ed968b568a6b1fec72fa766edd46ca6b94f216354d8ccbc32ae81c7f27cf"), looks := false }, kinds := [], alts := [], laidByText := true, laidKinds := [.data], laidTests := true, laidLooks := .later }
def TailGrowsUptoCardSaid : Prop := Claim7.holds Tryd.pinned (.plain (OpenSpec.upto tailGrowsSpec)) tailGrowsUptoCard

/-- THE SECOND FORM's CARD OF 'penstocklaw05.TailTakes'. -/
def tailTakesUptoCard : Claim7 := { stood := { row := tailTakesUptoRow, standIns := [], harness := (true, "5dc7ed968b568a6b1fec72fa766edd46ca6b94f216354d8ccbc32ae81c7f27cf"), looks := false }, kinds := [], alts := [], laidByText := true, laidKinds := [.data], laidTests := true, laidLooks := .later }
def TailTakesUptoCardSaid : Prop := Claim7.holds Tryd.pinned (.plain (OpenSpec.upto tailTakesSpec)) tailTakesUptoCard
end Rows
end Go.Proofs.YtdpjopemdhbgpaaDoor
