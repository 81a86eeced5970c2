/-
  DERIVED. GIVEN WITH THE SEED: THE CARDS: each row of YthedfcdcocimbaaDoorRows.lean that lists a variable, with what it lists TIED to the program's text (the seventh form; the later family's looks); each row that meets fmt, with fmt's text TOLD by the authors' own Lean function (tested against real Go, not proved from fmt's source: count such statements apart). THE CARD IS WHAT COUNTS. Prove the row's statement (the work); the ties are given (YthedfcdcocimbaaDoorTie.lean); close each card by the builder's one call (the guide's Derived/Test/ToyasCard.lean, 'card_holds'). Laid BY PROGRAM, IN A SANDBOX (cutbox-door.mjs). By AI agents, Wed Nov 11 2026. No macro, syntax, notation, axiom, sorry.
-/
import Derived.Test.YthedfcdcocimbaaDoorRows
import GoSem.ClaimSeven
namespace Go.Proofs.YthedfcdcocimbaaDoor
namespace Rows

/-- THE TIED CARD OF 'penstocklaw04.HeadMakes'. -/
def headMakesCard : Claim7 := { stood := { row := headMakesRow, standIns := [], harness := (true, "767cd1d94da7614dd9f848f85e72b68d0f5ffe9bbedf86b7cbd1bf92261fd535"), looks := false }, kinds := [], alts := [], laidByText := true, laidKinds := [.data], laidTests := true, laidLooks := .later }
def HeadMakesCardSaid : Prop := Claim7.holds Tryd.pinned (.plain (OpenSpec.ofChange headMakesSpec)) headMakesCard

/-- THE TIED CARD OF 'penstocklaw04.HeadMeans'. -/
def headMeansCard : Claim7 := { stood := { row := headMeansRow, standIns := [], harness := (true, "767cd1d94da7614dd9f848f85e72b68d0f5ffe9bbedf86b7cbd1bf92261fd535"), looks := false }, kinds := [], alts := [], laidByText := true, laidKinds := [.data], laidTests := true, laidLooks := .later }
def HeadMeansCardSaid : Prop := Claim7.holds Tryd.pinned (.plain (OpenSpec.ofChange headMeansSpec)) headMeansCard

/-- THE TIED CARD OF 'penstocklaw04.HeadHolds'. -/
def headHoldsCard : Claim7 := { stood := { row := headHoldsRow, standIns := [], harness := (true, "767cd1d94da7614dd9f848f85e72b68d0f5ffe9bbedf86b7cbd1bf92261fd535"), looks := false }, kinds := [], alts := [], laidByText := true, laidKinds := [.data], laidTests := true, laidLooks := .later }
def HeadHoldsCardSaid : Prop := Claim7.holds Tryd.pinned (.plain (OpenSpec.ofChange headHoldsSpec)) headHoldsCard

/-- THE TIED CARD OF 'penstocklaw04.HeadRefuses'. -/
def headRefusesCard : Claim7 := { stood := { row := headRefusesRow, standIns := [], harness := (true, "767cd1d94da7614dd9f848f85e72b68d0f5ffe9bbedf86b7cbd1bf92261fd535"), looks := false }, kinds := [], alts := [], laidByText := true, laidKinds := [.data], laidTests := true, laidLooks := .later }
def HeadRefusesCardSaid : Prop := Claim7.holds Tryd.pinned (.plain (OpenSpec.ofChange headRefusesSpec)) headRefusesCard

/-- THE TIED CARD OF 'penstocklaw04.HeadChunks'. -/
def headChunksCard : Claim7 := { stood := { row := headChunksRow, standIns := [], harness := (true, "767cd1d94da7614dd9f848f85e72b68d0f5ffe9bbedf86b7cbd1bf92261fd535"), looks := false }, kinds := [], alts := [], laidByText := true, laidKinds := [.data], laidTests := true, laidLooks := .later }
def HeadChunksCardSaid : Prop := Claim7.holds Tryd.pinned (.plain (OpenSpec.ofChange headChunksSpec)) headChunksCard

/-- THE TIED CARD OF 'penstocklaw04.HeadGrows'. -/
def headGrowsCard : Claim7 := { stood := { row := headGrowsRow, standIns := [], harness := (true, "767cd1d94da7614dd9f848f85e72b68d0f5ffe9bbedf86b7cbd1bf92261fd535"), looks := false }, kinds := [], alts := [], laidByText := true, laidKinds := [.data], laidTests := true, laidLooks := .later }
def HeadGrowsCardSaid : Prop := Claim7.holds Tryd.pinned (.plain (OpenSpec.ofChange headGrowsSpec)) headGrowsCard

/-- THE TIED CARD OF 'penstocklaw04.HeadTakes'. -/
def headTakesCard : Claim7 := { stood := { row := headTakesRow, standIns := [], harness := (true, "767cd1d94da7614dd9f848f85e72b68d0f5ffe9bbedf86b7cbd1bf92261fd535"), looks := false }, kinds := [], alts := [], laidByText := true, laidKinds := [.data], laidTests := true, laidLooks := .later }
def HeadTakesCardSaid : Prop := Claim7.holds Tryd.pinned (.plain (OpenSpec.ofChange headTakesSpec)) headTakesCard

/-- THE TIED CARD OF 'penstocklaw05.TailMakes'. -/
def tailMakesCard : Claim7 := { stood := { row := tailMakesRow, standIns := [], harness := (true, "767cd1d94da7614dd9f848f85e72b68d0f5ffe9bbedf86b7cbd1bf92261fd535"), looks := false }, kinds := [], alts := [], laidByText := true, laidKinds := [.data], laidTests := true, laidLooks := .later }
def TailMakesCardSaid : Prop := Claim7.holds Tryd.pinned (.plain (OpenSpec.ofChange tailMakesSpec)) tailMakesCard

/-- THE TIED CARD OF 'penstocklaw05.TailMeans'. -/
def tailMeansCard : Claim7 := { stood := { row := tailMeansRow, standIns := [], harness := (true, "767cd1d94da7614dd9f848f85e72b68d0f5ffe9bbedf86b7cbd1bf92261fd535"), looks := false }, kinds := [], alts := [], laidByText := true, laidKinds := [.data], laidTests := true, laidLooks := .later }
def TailMeansCardSaid : Prop := Claim7.holds Tryd.pinned (.plain (OpenSpec.ofChange tailMeansSpec)) tailMeansCard

/-- THE TIED CARD OF 'penstocklaw05.TailHolds'. -/
def tailHoldsCard : Claim7 := { stood := { row := tailHoldsRow, standIns := [], harness := (true, "767cd1d94da7614dd9f848f85e72b68d0f5ffe9bbedf86b7cbd1bf92261fd535"), looks := false }, kinds := [], alts := [], laidByText := true, laidKinds := [.data], laidTests := true, laidLooks := .later }
def TailHoldsCardSaid : Prop := Claim7.holds Tryd.pinned (.plain (OpenSpec.ofChange tailHoldsSpec)) tailHoldsCard

/-- THE TIED CARD OF 'penstocklaw05.TailRefuses'. -/
def tailRefusesCard : Claim7 := { stood := { row := tailRefusesRow, standIns := [], harness := (true, "767cd1d94da7614dd9f848f85e72b68d0f5ffe9bbedf86b7cbd1bf92261fd535"), looks := false }, kinds := [], alts := [], laidByText := true, laidKinds := [.data], laidTests := true, laidLooks := .later }
def TailRefusesCardSaid : Prop := Claim7.holds Tryd.pinned (.plain (OpenSpec.ofChange tailRefusesSpec)) tailRefusesCard

/-- THE TIED CARD OF 'penstocklaw05.TailChunks'. -/
def tailChunksCard : Claim7 := { stood := { row := tailChunksRow, standIns := [], harness := (true, "767cd1d94da7614dd9f848f85e72b68d0f5ffe9bbedf86b7cbd1bf92261fd535"), looks := false }, kinds := [], alts := [], laidByText := true, laidKinds := [.data], laidTests := true, laidLooks := .later }
def TailChunksCardSaid : Prop := Claim7.holds Tryd.pinned (.plain (OpenSpec.ofChange tailChunksSpec)) tailChunksCard

/-- THE TIED CARD OF 'penstocklaw05.TailGrows'. -/
def tailGrowsCard : Claim7 := { stood := { row := tailGrowsRow, standIns := [], harness := (true, "767cd1d94da7614dd9f848f85e72b68d0f5ffe9bbedf86b7cbd1bf92261fd535"), looks := false }, kinds := [], alts := [], laidByText := true, laidKinds := [.data], laidTests := true, laidLooks := .later }
def TailGrowsCardSaid : Prop := Claim7.holds Tryd.pinned (.plain (OpenSpec.ofChange tailGrowsSpec)) tailGrowsCard

/-- THE TIED CARD OF 'penstocklaw05.TailTakes'. -/
def tailTakesCard : Claim7 := { stood := { row := tailTakesRow, standIns := [], harness := (true, "767cd1d94da7614dd9f848f85e72b68d0f5ffe9bbedf86b7cbd1bf92261fd535"), looks := false }, kinds := [], alts := [], laidByText := true, laidKinds := [.data], laidTests := true, laidLooks := .later }
def TailTakesCardSaid : Prop := Claim7.holds Tryd.pinned (.plain (OpenSpec.ofChange tailTakesSpec)) tailTakesCard

/-- THE SECOND FORM's CARD OF 'penstocklaw04.HeadMakes'. -/
def headMakesUptoCard : Claim7 := { stood := { row := headMakesUptoRow, standIns := [], harness := (true, "767cd1d94da7614dd9f848f85e72b68d0f5ffe9bbedf86b7cbd1bf92261fd535"), looks := false }, kinds := [], alts := [], laidByText := true, laidKinds := [.data], laidTests := true, laidLooks := .later }
def HeadMakesUptoCardSaid : Prop := Claim7.holds Tryd.pinned (.plain (OpenSpec.upto headMakesSpec)) headMakesUptoCard

/-- THE SECOND FORM's CARD OF 'penstocklaw04.HeadMeans'. -/
def headMeansUptoCard : Claim7 := { stood := { row := headMeansUptoRow, standIns := [], harness := (true, "767cd1d94da7614dd9f848f85e72b68d0f5ffe9bbedf86b7cbd1bf92261fd535"), looks := false }, kinds := [], alts := [], laidByText := true, laidKinds := [.data], laidTests := true, laidLooks := .later }
def HeadMeansUptoCardSaid : Prop := Claim7.holds Tryd.pinned (.plain (OpenSpec.upto headMeansSpec)) headMeansUptoCard

/-- THE SECOND FORM's CARD OF 'penstocklaw04.HeadHolds'. -/
def headHoldsUptoCard : Claim7 := { stood := { row := headHoldsUptoRow, standIns := [], harness := (true, "767cd1d94da7614dd9f848f85e72b68d0f5ffe9bbedf86b7cbd1bf92261fd535"), looks := false }, kinds := [], alts := [], laidByText := true, laidKinds := [.data], laidTests := true, laidLooks := .later }
def HeadHoldsUptoCardSaid : Prop := Claim7.holds Tryd.pinned (.plain (OpenSpec.upto headHoldsSpec)) headHoldsUptoCard

/-- THE SECOND FORM's CARD OF 'penstocklaw04.HeadRefuses'. -/
def headRefusesUptoCard : Claim7 := { stood := { row := headRefusesUptoRow, standIns := [], harness := (true, "767cd1d94da7614dd9f848f85e72b68d0f5ffe9bbedf86b7cbd1bf92261fd535"), looks := false }, kinds := [], alts := [], laidByText := true, laidKinds := [.data], laidTests := true, laidLooks := .later }
def HeadRefusesUptoCardSaid : Prop := Claim7.holds Tryd.pinned (.plain (OpenSpec.upto headRefusesSpec)) headRefusesUptoCard

/-- THE SECOND FORM's CARD OF 'penstocklaw04.HeadChunks'. -/
def headChunksUptoCard : Claim7 := { stood := { row := headChunksUptoRow, standIns := [], harness := (true, "767cd1d94da7614dd9f848f85e72b68d0f5ffe9bbedf86b7cbd1bf92261fd535"), looks := false }, kinds := [], alts := [], laidByText := true, laidKinds := [.data], laidTests := true, laidLooks := .later }
def HeadChunksUptoCardSaid : Prop := Claim7.holds Tryd.pinned (.plain (OpenSpec.upto headChunksSpec)) headChunksUptoCard

/-- THE SECOND FORM's CARD OF 'penstocklaw04.HeadGrows'. -/
def headGrowsUptoCard : Claim7 := { stood := { row := headGrowsUptoRow, standIns := [], harness := (true, "767cd1d94da7614dd9f848f85e72b68d0f5ffe9bbedf86b7cbd1bf92261fd535"), looks := false }, kinds := [], alts := [], laidByText := true, laidKinds := [.data], laidTests := true, laidLooks := .later }
def HeadGrowsUptoCardSaid : Prop := Claim7.holds Tryd.pinned (.plain (OpenSpec.upto headGrowsSpec)) headGrowsUptoCard

/-- THE SECOND FORM's CARD OF 'penstocklaw04.HeadTakes'. -/
def headTakesUptoCard : Claim7 := { stood := { row := headTakesUptoRow, standIns := [], harness := (true, "767cd1d94da7614dd9f848f85e72b68d0f5ffe9bbedf86b7cbd1bf92261fd535"), looks := false }, kinds := [], alts := [], laidByText := true, laidKinds := [.data], laidTests := true, laidLooks := .later }
def HeadTakesUptoCardSaid : Prop := Claim7.holds Tryd.pinned (.plain (OpenSpec.upto headTakesSpec)) headTakesUptoCard

/-- THE SECOND FORM's CARD OF 'penstocklaw05.TailMakes'. -/
def tailMakesUptoCard : Claim7 := { stood := { row := tailMakesUptoRow, standIns := [], harness := (true, "767cd1d94da7614dd9f848f85e72b68d0f5ffe9bbedf86b7cbd1bf92261fd535"), looks := false }, kinds := [], alts := [], laidByText := true, laidKinds := [.data], laidTests := true, laidLooks := .later }
def TailMakesUptoCardSaid : Prop := Claim7.holds Tryd.pinned (.plain (OpenSpec.upto tailMakesSpec)) tailMakesUptoCard

/-- THE SECOND FORM's CARD OF 'penstocklaw05.TailMeans'. -/
def tailMeansUptoCard : Claim7 := { stood := { row := tailMeansUptoRow, standIns := [], harness := (true, "767cd1d94da7614dd9f848f85e72b68d0f5ffe9bbedf86b7cbd1bf92261fd535"), looks := false }, kinds := [], alts := [], laidByText := true, laidKinds := [.data], laidTests := true, laidLooks := .later }
def TailMeansUptoCardSaid : Prop := Claim7.holds Tryd.pinned (.plain (OpenSpec.upto tailMeansSpec)) tailMeansUptoCard

/-- THE SECOND FORM's CARD OF 'penstocklaw05.TailHolds'. -/
def tailHoldsUptoCard : Claim7 := { stood := { row := tailHoldsUptoRow, standIns := [], harness := (true, "767cd1d94da7614dd9f848f85e72b68d0f5ffe9bbedf86b7cbd1bf92261fd535"), looks := false }, kinds := [], alts := [], laidByText := true, laidKinds := [.data], laidTests := true, laidLooks := .later }
def TailHoldsUptoCardSaid : Prop := Claim7.holds Tryd.pinned (.plain (OpenSpec.upto tailHoldsSpec)) tailHoldsUptoCard

/-- THE SECOND FORM's CARD OF 'penstocklaw05.TailRefuses'. -/
def tailRefusesUptoCard : Claim7 := { stood := { row := tailRefusesUptoRow, standIns := [], harness := (true, "767cd1d94da7614dd9f848f85e72b68d0f5ffe9bbedf86b7cbd1bf92261fd535"), looks := false }, kinds := [], alts := [], laidByText := true, laidKinds := [.data], laidTests := true, laidLooks := .later }
def TailRefusesUptoCardSaid : Prop := Claim7.holds Tryd.pinned (.plain (OpenSpec.upto tailRefusesSpec)) tailRefusesUptoCard

/-- THE SECOND FORM's CARD OF 'penstocklaw05.TailChunks'. -/
def tailChunksUptoCard : Claim7 := { stood := { row := tailChunksUptoRow, standIns := [], harness := (true, "767cd1d94da7614dd9f848f85e72b68d0f5ffe9bbedf86b7cbd1bf92261fd535"), looks := false }, kinds := [], alts := [], laidByText := true, laidKinds := [.data], laidTests := true, laidLooks := .later }
def TailChunksUptoCardSaid : Prop := Claim7.holds Tryd.pinned (.plain (OpenSpec.upto tailChunksSpec)) tailChunksUptoCard

/-- THE SECOND FORM's CARD OF 'penstocklaw05.TailGrows'. -/
def tailGrowsUptoCard : Claim7 := { stood := { row := tailGrowsUptoRow, standIns := [], harness := (true, "767cd1d94da7614dd9f848f85e72b68d0f5ffe9bbedf86b7cbd1bf92261fd535"), looks := false }, kinds := [], alts := [], laidByText := true, laidKinds := [.data], laidTests := true, laidLooks := .later }
def TailGrowsUptoCardSaid : Prop := Claim7.holds Tryd.pinned (.plain (OpenSpec.upto tailGrowsSpec)) tailGrowsUptoCard

/-- THE SECOND FORM's CARD OF 'penstocklaw05.TailTakes'. -/
def tailTakesUptoCard : Claim7 := { stood := { row := tailTakesUptoRow, standIns := [], harness := (true, "767cd1d94da7614dd9f848f85e72b68d0f5ffe9bbedf86b7cbd1bf92261fd535"), looks := false }, kinds := [], alts := [], laidByText := true, laidKinds := [.data], laidTests := true, laidLooks := .later }
def TailTakesUptoCardSaid : Prop := Claim7.holds Tryd.pinned (.plain (OpenSpec.upto tailTakesSpec)) tailTakesUptoCard
end Rows
end Go.Proofs.YthedfcdcocimbaaDoor
