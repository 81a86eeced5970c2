/-
  DERIVED. GIVEN WITH THE SEED: THE CARDS: each row of YtchepmikbnnnhaaDoorRows.lean that lists a variable, with what it lists TIED to the program's text (the seventh form; the later family's looks); each row that meets fmt, with fmt's text TOLD by the authors' own Lean function (tested against real Go, not proved from fmt's source: count such statements apart). THE CARD IS WHAT COUNTS. Prove the row's statement (the work); the ties are given (YtchepmikbnnnhaaDoorTie.lean); close each card by the builder's one call (the guide's Derived/Test/ToyasCard.lean, 'card_holds'). Laid BY PROGRAM, IN A SANDBOX (cutbox-door.mjs). By AI agents, Wed Nov 11 2026. No macro, syntax, notation, axiom, sorry.
-/
import Derived.Test.YtchepmikbnnnhaaDoorRows
import GoSem.ClaimSeven
namespace Go.Proofs.YtchepmikbnnnhaaDoor
namespace Rows

/-- THE TIED CARD OF 'penstocklaw14.JoinMakes'. -/
def joinMakesCard : Claim7 := { stood := { row := joinMakesRow, standIns := [], harness := (true, "9b9e001f8147a53a8b5641836157a3544d021efa012aa4d7c13b0660a0828f48"), looks := false }, kinds := [], alts := [], laidByText := true, laidKinds := [.data], laidTests := true, laidLooks := .later }
def JoinMakesCardSaid : Prop := Claim7.holds Tryd.pinned (.plain (OpenSpec.ofChange joinMakesSpec)) joinMakesCard

/-- THE TIED CARD OF 'penstocklaw14.JoinMeans'. -/
def joinMeansCard : Claim7 := { stood := { row := joinMeansRow, standIns := [], harness := (true, "9b9e001f8147a53a8b5641836157a3544d021efa012aa4d7c13b0660a0828f48"), looks := false }, kinds := [], alts := [], laidByText := true, laidKinds := [.data], laidTests := true, laidLooks := .later }
def JoinMeansCardSaid : Prop := Claim7.holds Tryd.pinned (.plain (OpenSpec.ofChange joinMeansSpec)) joinMeansCard

/-- THE TIED CARD OF 'penstocklaw14.JoinHolds'. -/
def joinHoldsCard : Claim7 := { stood := { row := joinHoldsRow, standIns := [], harness := (true, "9b9e001f8147a53a8b5641836157a3544d021efa012aa4d7c13b0660a0828f48"), looks := false }, kinds := [], alts := [], laidByText := true, laidKinds := [.data], laidTests := true, laidLooks := .later }
def JoinHoldsCardSaid : Prop := Claim7.holds Tryd.pinned (.plain (OpenSpec.ofChange joinHoldsSpec)) joinHoldsCard

/-- THE TIED CARD OF 'penstocklaw14.JoinRefuses'. -/
def joinRefusesCard : Claim7 := { stood := { row := joinRefusesRow, standIns := [], harness := (true, "9b9e001f8147a53a8b5641836157a3544d021efa012aa4d7c13b0660a0828f48"), looks := false }, kinds := [], alts := [], laidByText := true, laidKinds := [.data], laidTests := true, laidLooks := .later }
def JoinRefusesCardSaid : Prop := Claim7.holds Tryd.pinned (.plain (OpenSpec.ofChange joinRefusesSpec)) joinRefusesCard

/-- THE TIED CARD OF 'penstocklaw14.JoinChunks'. -/
def joinChunksCard : Claim7 := { stood := { row := joinChunksRow, standIns := [], harness := (true, "9b9e001f8147a53a8b5641836157a3544d021efa012aa4d7c13b0660a0828f48"), looks := false }, kinds := [], alts := [], laidByText := true, laidKinds := [.data], laidTests := true, laidLooks := .later }
def JoinChunksCardSaid : Prop := Claim7.holds Tryd.pinned (.plain (OpenSpec.ofChange joinChunksSpec)) joinChunksCard

/-- THE TIED CARD OF 'penstocklaw14.JoinGrows'. -/
def joinGrowsCard : Claim7 := { stood := { row := joinGrowsRow, standIns := [], harness := (true, "9b9e001f8147a53a8b5641836157a3544d021efa012aa4d7c13b0660a0828f48"), looks := false }, kinds := [], alts := [], laidByText := true, laidKinds := [.data], laidTests := true, laidLooks := .later }
def JoinGrowsCardSaid : Prop := Claim7.holds Tryd.pinned (.plain (OpenSpec.ofChange joinGrowsSpec)) joinGrowsCard

/-- THE TIED CARD OF 'penstocklaw14.JoinPairs'. -/
def joinPairsCard : Claim7 := { stood := { row := joinPairsRow, standIns := [], harness := (true, "9b9e001f8147a53a8b5641836157a3544d021efa012aa4d7c13b0660a0828f48"), looks := false }, kinds := [], alts := [], laidByText := true, laidKinds := [.data], laidTests := true, laidLooks := .later }
def JoinPairsCardSaid : Prop := Claim7.holds Tryd.pinned (.plain (OpenSpec.ofChange joinPairsSpec)) joinPairsCard

/-- THE SECOND FORM's CARD OF 'penstocklaw14.JoinMakes'. -/
def joinMakesUptoCard : Claim7 := { stood := { row := joinMakesUptoRow, standIns := [], harness := (true, "9b9e001f8147a53a8b5641836157a3544d021efa012aa4d7c13b0660a0828f48"), looks := false }, kinds := [], alts := [], laidByText := true, laidKinds := [.data], laidTests := true, laidLooks := .later }
def JoinMakesUptoCardSaid : Prop := Claim7.holds Tryd.pinned (.plain (OpenSpec.upto joinMakesSpec)) joinMakesUptoCard

/-- THE SECOND FORM's CARD OF 'penstocklaw14.JoinMeans'. -/
def joinMeansUptoCard : Claim7 := { stood := { row := joinMeansUptoRow, standIns := [], harness := (true, "9b9e001f8147a53a8b5641836157a3544d021efa012aa4d7c13b0660a0828f48"), looks := false }, kinds := [], alts := [], laidByText := true, laidKinds := [.data], laidTests := true, laidLooks := .later }
def JoinMeansUptoCardSaid : Prop := Claim7.holds Tryd.pinned (.plain (OpenSpec.upto joinMeansSpec)) joinMeansUptoCard

/-- THE SECOND FORM's CARD OF 'penstocklaw14.JoinHolds'. -/
def joinHoldsUptoCard : Claim7 := { stood := { row := joinHoldsUptoRow, standIns := [], harness := (true, "9b9e001f8147a53a8b5641836157a3544d021efa012aa4d7c13b0660a0828f48"), looks := false }, kinds := [], alts := [], laidByText := true, laidKinds := [.data], laidTests := true, laidLooks := .later }
def JoinHoldsUptoCardSaid : Prop := Claim7.holds Tryd.pinned (.plain (OpenSpec.upto joinHoldsSpec)) joinHoldsUptoCard

/-- THE SECOND FORM's CARD OF 'penstocklaw14.JoinRefuses'. -/
def joinRefusesUptoCard : Claim7 := { stood := { row := joinRefusesUptoRow, standIns := [], harness := (true, "9b9e001f8147a53a8b5641836157a3544d021efa012aa4d7c13b0660a0828f48"), looks := false }, kinds := [], alts := [], laidByText := true, laidKinds := [.data], laidTests := true, laidLooks := .later }
def JoinRefusesUptoCardSaid : Prop := Claim7.holds Tryd.pinned (.plain (OpenSpec.upto joinRefusesSpec)) joinRefusesUptoCard

/-- THE SECOND FORM's CARD OF 'penstocklaw14.JoinChunks'. -/
def joinChunksUptoCard : Claim7 := { stood := { row := joinChunksUptoRow, standIns := [], harness := (true, "9b9e001f8147a53a8b5641836157a3544d021efa012aa4d7c13b0660a0828f48"), looks := false }, kinds := [], alts := [], laidByText := true, laidKinds := [.data], laidTests := true, laidLooks := .later }
def JoinChunksUptoCardSaid : Prop := Claim7.holds Tryd.pinned (.plain (OpenSpec.upto joinChunksSpec)) joinChunksUptoCard

/-- THE SECOND FORM's CARD OF 'penstocklaw14.JoinGrows'. -/
def joinGrowsUptoCard : Claim7 := { stood := { row := joinGrowsUptoRow, standIns := [], harness := (true, "9b9e001f8147a53a8b5641836157a3544d021efa012aa4d7c13b0660a0828f48"), looks := false }, kinds := [], alts := [], laidByText := true, laidKinds := [.data], laidTests := true, laidLooks := .later }
def JoinGrowsUptoCardSaid : Prop := Claim7.holds Tryd.pinned (.plain (OpenSpec.upto joinGrowsSpec)) joinGrowsUptoCard

/-- THE SECOND FORM's CARD OF 'penstocklaw14.JoinPairs'. -/
def joinPairsUptoCard : Claim7 := { stood := { row := joinPairsUptoRow, standIns := [], harness := (true, "9b9e001f8147a53a8b5641836157a3544d021efa012aa4d7c13b0660a0828f48"), looks := false }, kinds := [], alts := [], laidByText := true, laidKinds := [.data], laidTests := true, laidLooks := .later }
def JoinPairsUptoCardSaid : Prop := Claim7.holds Tryd.pinned (.plain (OpenSpec.upto joinPairsSpec)) joinPairsUptoCard
end Rows
end Go.Proofs.YtchepmikbnnnhaaDoor
