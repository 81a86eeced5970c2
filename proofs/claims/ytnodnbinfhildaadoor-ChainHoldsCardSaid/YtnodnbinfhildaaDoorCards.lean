/-
  DERIVED. GIVEN WITH THE SEED: THE CARDS: each row of YtnodnbinfhildaaDoorRows.lean that lists a variable, with what it lists TIED to the program's text (the seventh form; the later family's looks); each row that meets fmt, with fmt's text TOLD by the authors' own Lean function (tested against real Go, not proved from fmt's source: count such statements apart). THE CARD IS WHAT COUNTS. Prove the row's statement (the work); the ties are given (YtnodnbinfhildaaDoorTie.lean); close each card by the builder's one call (the guide's Derived/Test/ToyasCard.lean, 'card_holds'). Laid BY PROGRAM, IN A SANDBOX (cutbox-door.mjs). By AI agents, Wed Nov 11 2026. No macro, syntax, notation, axiom, sorry.
-/
import Derived.Test.YtnodnbinfhildaaDoorRows
import GoSem.ClaimSeven
namespace Go.Proofs.YtnodnbinfhildaaDoor
namespace Rows

/-- THE TIED CARD OF 'penstocklaw12.ChainMakes'. -/
def chainMakesCard : Claim7 := { stood := { row := chainMakesRow, standIns := [], harness := (true, "4b43a01384b047b8bccdb11b304f5e4e8a418aca9a9598deaf7e786aa3e05ed6"), looks := false }, kinds := [], alts := [], laidByText := true, laidKinds := [.data], laidTests := true, laidLooks := .later }
def ChainMakesCardSaid : Prop := Claim7.holds Tryd.pinned (.plain (OpenSpec.ofChange chainMakesSpec)) chainMakesCard

/-- THE TIED CARD OF 'penstocklaw12.ChainMeans'. -/
def chainMeansCard : Claim7 := { stood := { row := chainMeansRow, standIns := [], harness := (true, "4b43a01384b047b8bccdb11b304f5e4e8a418aca9a9598deaf7e786aa3e05ed6"), looks := false }, kinds := [], alts := [], laidByText := true, laidKinds := [.data], laidTests := true, laidLooks := .later }
def ChainMeansCardSaid : Prop := Claim7.holds Tryd.pinned (.plain (OpenSpec.ofChange chainMeansSpec)) chainMeansCard

/-- THE TIED CARD OF 'penstocklaw12.ChainHolds'. -/
def chainHoldsCard : Claim7 := { stood := { row := chainHoldsRow, standIns := [], harness := (true, "4b43a01384b047b8bccdb11b304f5e4e8a418aca9a9598deaf7e786aa3e05ed6"), looks := false }, kinds := [], alts := [], laidByText := true, laidKinds := [.data], laidTests := true, laidLooks := .later }
def ChainHoldsCardSaid : Prop := Claim7.holds Tryd.pinned (.plain (OpenSpec.ofChange chainHoldsSpec)) chainHoldsCard

/-- THE TIED CARD OF 'penstocklaw12.ChainRefuses'. -/
def chainRefusesCard : Claim7 := { stood := { row := chainRefusesRow, standIns := [], harness := (true, "4b43a01384b047b8bccdb11b304f5e4e8a418aca9a9598deaf7e786aa3e05ed6"), looks := false }, kinds := [], alts := [], laidByText := true, laidKinds := [.data], laidTests := true, laidLooks := .later }
def ChainRefusesCardSaid : Prop := Claim7.holds Tryd.pinned (.plain (OpenSpec.ofChange chainRefusesSpec)) chainRefusesCard

/-- THE TIED CARD OF 'penstocklaw12.ChainChunks'. -/
def chainChunksCard : Claim7 := { stood := { row := chainChunksRow, standIns := [], harness := (true, "4b43a01384b047b8bccdb11b304f5e4e8a418aca9a9598deaf7e786aa3e05ed6"), looks := false }, kinds := [], alts := [], laidByText := true, laidKinds := [.data], laidTests := true, laidLooks := .later }
def ChainChunksCardSaid : Prop := Claim7.holds Tryd.pinned (.plain (OpenSpec.ofChange chainChunksSpec)) chainChunksCard

/-- THE TIED CARD OF 'penstocklaw12.ChainGrows'. -/
def chainGrowsCard : Claim7 := { stood := { row := chainGrowsRow, standIns := [], harness := (true, "4b43a01384b047b8bccdb11b304f5e4e8a418aca9a9598deaf7e786aa3e05ed6"), looks := false }, kinds := [], alts := [], laidByText := true, laidKinds := [.data], laidTests := true, laidLooks := .later }
def ChainGrowsCardSaid : Prop := Claim7.holds Tryd.pinned (.plain (OpenSpec.ofChange chainGrowsSpec)) chainGrowsCard

/-- THE TIED CARD OF 'penstocklaw12.ChainJoins'. -/
def chainJoinsCard : Claim7 := { stood := { row := chainJoinsRow, standIns := [], harness := (true, "4b43a01384b047b8bccdb11b304f5e4e8a418aca9a9598deaf7e786aa3e05ed6"), looks := false }, kinds := [], alts := [], laidByText := true, laidKinds := [.data], laidTests := true, laidLooks := .later }
def ChainJoinsCardSaid : Prop := Claim7.holds Tryd.pinned (.plain (OpenSpec.ofChange chainJoinsSpec)) chainJoinsCard

/-- THE SECOND FORM's CARD OF 'penstocklaw12.ChainMakes'. -/
def chainMakesUptoCard : Claim7 := { stood := { row := chainMakesUptoRow, standIns := [], harness := (true, "4b43a01384b047b8bccdb11b304f5e4e8a418aca9a9598deaf7e786aa3e05ed6"), looks := false }, kinds := [], alts := [], laidByText := true, laidKinds := [.data], laidTests := true, laidLooks := .later }
def ChainMakesUptoCardSaid : Prop := Claim7.holds Tryd.pinned (.plain (OpenSpec.upto chainMakesSpec)) chainMakesUptoCard

/-- THE SECOND FORM's CARD OF 'penstocklaw12.ChainMeans'. -/
def chainMeansUptoCard : Claim7 := { stood := { row := chainMeansUptoRow, standIns := [], harness := (true, "4b43a01384b047b8bccdb11b304f5e4e8a418aca9a9598deaf7e786aa3e05ed6"), looks := false }, kinds := [], alts := [], laidByText := true, laidKinds := [.data], laidTests := true, laidLooks := .later }
def ChainMeansUptoCardSaid : Prop := Claim7.holds Tryd.pinned (.plain (OpenSpec.upto chainMeansSpec)) chainMeansUptoCard

/-- THE SECOND FORM's CARD OF 'penstocklaw12.ChainHolds'. -/
def chainHoldsUptoCard : Claim7 := { stood := { row := chainHoldsUptoRow, standIns := [], harness := (true, "4b43a01384b047b8bccdb11b304f5e4e8a418aca9a9598deaf7e786aa3e05ed6"), looks := false }, kinds := [], alts := [], laidByText := true, laidKinds := [.data], laidTests := true, laidLooks := .later }
def ChainHoldsUptoCardSaid : Prop := Claim7.holds Tryd.pinned (.plain (OpenSpec.upto chainHoldsSpec)) chainHoldsUptoCard

/-- THE SECOND FORM's CARD OF 'penstocklaw12.ChainRefuses'. -/
def chainRefusesUptoCard : Claim7 := { stood := { row := chainRefusesUptoRow, standIns := [], harness := (true, "4b43a01384b047b8bccdb11b304f5e4e8a418aca9a9598deaf7e786aa3e05ed6"), looks := false }, kinds := [], alts := [], laidByText := true, laidKinds := [.data], laidTests := true, laidLooks := .later }
def ChainRefusesUptoCardSaid : Prop := Claim7.holds Tryd.pinned (.plain (OpenSpec.upto chainRefusesSpec)) chainRefusesUptoCard

/-- THE SECOND FORM's CARD OF 'penstocklaw12.ChainChunks'. -/
def chainChunksUptoCard : Claim7 := { stood := { row := chainChunksUptoRow, standIns := [], harness := (true, "4b43a01384b047b8bccdb11b304f5e4e8a418aca9a9598deaf7e786aa3e05ed6"), looks := false }, kinds := [], alts := [], laidByText := true, laidKinds := [.data], laidTests := true, laidLooks := .later }
def ChainChunksUptoCardSaid : Prop := Claim7.holds Tryd.pinned (.plain (OpenSpec.upto chainChunksSpec)) chainChunksUptoCard

/-- THE SECOND FORM's CARD OF 'penstocklaw12.ChainGrows'. -/
def chainGrowsUptoCard : Claim7 := { stood := { row := chainGrowsUptoRow, standIns := [], harness := (true, "4b43a01384b047b8bccdb11b304f5e4e8a418aca9a9598deaf7e786aa3e05ed6"), looks := false }, kinds := [], alts := [], laidByText := true, laidKinds := [.data], laidTests := true, laidLooks := .later }
def ChainGrowsUptoCardSaid : Prop := Claim7.holds Tryd.pinned (.plain (OpenSpec.upto chainGrowsSpec)) chainGrowsUptoCard

/-- THE SECOND FORM's CARD OF 'penstocklaw12.ChainJoins'. -/
def chainJoinsUptoCard : Claim7 := { stood := { row := chainJoinsUptoRow, standIns := [], harness := (true, "4b43a01384b047b8bccdb11b304f5e4e8a418aca9a9598deaf7e786aa3e05ed6"), looks := false }, kinds := [], alts := [], laidByText := true, laidKinds := [.data], laidTests := true, laidLooks := .later }
def ChainJoinsUptoCardSaid : Prop := Claim7.holds Tryd.pinned (.plain (OpenSpec.upto chainJoinsSpec)) chainJoinsUptoCard
end Rows
end Go.Proofs.YtnodnbinfhildaaDoor
