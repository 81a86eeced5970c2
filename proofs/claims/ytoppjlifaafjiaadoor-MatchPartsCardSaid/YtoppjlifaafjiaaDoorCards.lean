/-
  DERIVED. GIVEN WITH THE SEED: THE CARDS: each row of YtoppjlifaafjiaaDoorRows.lean that lists a variable, with what it lists TIED to the program's text (the seventh form; the later family's looks); each row that meets fmt, with fmt's text TOLD by the authors' own Lean function (tested against real Go, not proved from fmt's source: count such statements apart). THE CARD IS WHAT COUNTS. Prove the row's statement (the work); the ties are given (YtoppjlifaafjiaaDoorTie.lean); close each card by the builder's one call (the guide's Derived/Test/ToyasCard.lean, 'card_holds'). Laid BY PROGRAM, IN A SANDBOX (cutbox-door.mjs). By AI agents, Wed Nov 11 2026. No macro, syntax, notation, axiom, sorry.
-/
import Derived.Test.YtoppjlifaafjiaaDoorRows
import GoSem.ClaimSeven
namespace Go.Proofs.YtoppjlifaafjiaaDoor
namespace Rows

/-- THE TIED CARD OF 'penstocklaw06.MatchMakes'. -/
def matchMakesCard : Claim7 := { stood := { row := matchMakesRow, standIns := [], harness := (true, "7bcda4e74ac5cc193c97d6f4e27737c77ea77afa9772ab36a70c8a094761b3e2"), looks := false }, kinds := [], alts := [], laidByText := true, laidKinds := [.data], laidTests := true, laidLooks := .later }
def MatchMakesCardSaid : Prop := Claim7.holds Tryd.pinned (.plain (OpenSpec.ofChange matchMakesSpec)) matchMakesCard

/-- THE TIED CARD OF 'penstocklaw06.MatchMeans'. -/
def matchMeansCard : Claim7 := { stood := { row := matchMeansRow, standIns := [], harness := (true, "7bcda4e74ac5cc193c97d6f4e27737c77ea77afa9772ab36a70c8a094761b3e2"), looks := false }, kinds := [], alts := [], laidByText := true, laidKinds := [.data], laidTests := true, laidLooks := .later }
def MatchMeansCardSaid : Prop := Claim7.holds Tryd.pinned (.plain (OpenSpec.ofChange matchMeansSpec)) matchMeansCard

/-- THE TIED CARD OF 'penstocklaw06.MatchHolds'. -/
def matchHoldsCard : Claim7 := { stood := { row := matchHoldsRow, standIns := [], harness := (true, "7bcda4e74ac5cc193c97d6f4e27737c77ea77afa9772ab36a70c8a094761b3e2"), looks := false }, kinds := [], alts := [], laidByText := true, laidKinds := [.data], laidTests := true, laidLooks := .later }
def MatchHoldsCardSaid : Prop := Claim7.holds Tryd.pinned (.plain (OpenSpec.ofChange matchHoldsSpec)) matchHoldsCard

/-- THE TIED CARD OF 'penstocklaw06.MatchRefuses'. -/
def matchRefusesCard : Claim7 := { stood := { row := matchRefusesRow, standIns := [], harness := (true, "7bcda4e74ac5cc193c97d6f4e27737c77ea77afa9772ab36a70c8a094761b3e2"), looks := false }, kinds := [], alts := [], laidByText := true, laidKinds := [.data], laidTests := true, laidLooks := .later }
def MatchRefusesCardSaid : Prop := Claim7.holds Tryd.pinned (.plain (OpenSpec.ofChange matchRefusesSpec)) matchRefusesCard

/-- THE TIED CARD OF 'penstocklaw06.MatchChunks'. -/
def matchChunksCard : Claim7 := { stood := { row := matchChunksRow, standIns := [], harness := (true, "7bcda4e74ac5cc193c97d6f4e27737c77ea77afa9772ab36a70c8a094761b3e2"), looks := false }, kinds := [], alts := [], laidByText := true, laidKinds := [.data], laidTests := true, laidLooks := .later }
def MatchChunksCardSaid : Prop := Claim7.holds Tryd.pinned (.plain (OpenSpec.ofChange matchChunksSpec)) matchChunksCard

/-- THE TIED CARD OF 'penstocklaw06.MatchGrows'. -/
def matchGrowsCard : Claim7 := { stood := { row := matchGrowsRow, standIns := [], harness := (true, "7bcda4e74ac5cc193c97d6f4e27737c77ea77afa9772ab36a70c8a094761b3e2"), looks := false }, kinds := [], alts := [], laidByText := true, laidKinds := [.data], laidTests := true, laidLooks := .later }
def MatchGrowsCardSaid : Prop := Claim7.holds Tryd.pinned (.plain (OpenSpec.ofChange matchGrowsSpec)) matchGrowsCard

/-- THE TIED CARD OF 'penstocklaw06.MatchParts'. -/
def matchPartsCard : Claim7 := { stood := { row := matchPartsRow, standIns := [], harness := (true, "7bcda4e74ac5cc193c97d6f4e27737c77ea77afa9772ab36a70c8a094761b3e2"), looks := false }, kinds := [], alts := [], laidByText := true, laidKinds := [.data], laidTests := true, laidLooks := .later }
def MatchPartsCardSaid : Prop := Claim7.holds Tryd.pinned (.plain (OpenSpec.ofChange matchPartsSpec)) matchPartsCard

/-- THE SECOND FORM's CARD OF 'penstocklaw06.MatchMakes'. -/
def matchMakesUptoCard : Claim7 := { stood := { row := matchMakesUptoRow, standIns := [], harness := (true, "7bcda4e74ac5cc193c97d6f4e27737c77ea77afa9772ab36a70c8a094761b3e2"), looks := false }, kinds := [], alts := [], laidByText := true, laidKinds := [.data], laidTests := true, laidLooks := .later }
def MatchMakesUptoCardSaid : Prop := Claim7.holds Tryd.pinned (.plain (OpenSpec.upto matchMakesSpec)) matchMakesUptoCard

/-- THE SECOND FORM's CARD OF 'penstocklaw06.MatchMeans'. -/
def matchMeansUptoCard : Claim7 := { stood := { row := matchMeansUptoRow, standIns := [], harness := (true, "7bcda4e74ac5cc193c97d6f4e27737c77ea77afa9772ab36a70c8a094761b3e2"), looks := false }, kinds := [], alts := [], laidByText := true, laidKinds := [.data], laidTests := true, laidLooks := .later }
def MatchMeansUptoCardSaid : Prop := Claim7.holds Tryd.pinned (.plain (OpenSpec.upto matchMeansSpec)) matchMeansUptoCard

/-- THE SECOND FORM's CARD OF 'penstocklaw06.MatchHolds'. -/
def matchHoldsUptoCard : Claim7 := { stood := { row := matchHoldsUptoRow, standIns := [], harness := (true, "7bcda4e74ac5cc193c97d6f4e27737c77ea77afa9772ab36a70c8a094761b3e2"), looks := false }, kinds := [], alts := [], laidByText := true, laidKinds := [.data], laidTests := true, laidLooks := .later }
def MatchHoldsUptoCardSaid : Prop := Claim7.holds Tryd.pinned (.plain (OpenSpec.upto matchHoldsSpec)) matchHoldsUptoCard

/-- THE SECOND FORM's CARD OF 'penstocklaw06.MatchRefuses'. -/
def matchRefusesUptoCard : Claim7 := { stood := { row := matchRefusesUptoRow, standIns := [], harness := (true, "7bcda4e74ac5cc193c97d6f4e27737c77ea77afa9772ab36a70c8a094761b3e2"), looks := false }, kinds := [], alts := [], laidByText := true, laidKinds := [.data], laidTests := true, laidLooks := .later }
def MatchRefusesUptoCardSaid : Prop := Claim7.holds Tryd.pinned (.plain (OpenSpec.upto matchRefusesSpec)) matchRefusesUptoCard

/-- THE SECOND FORM's CARD OF 'penstocklaw06.MatchChunks'. -/
def matchChunksUptoCard : Claim7 := { stood := { row := matchChunksUptoRow, standIns := [], harness := (true, "7bcda4e74ac5cc193c97d6f4e27737c77ea77afa9772ab36a70c8a094761b3e2"), looks := false }, kinds := [], alts := [], laidByText := true, laidKinds := [.data], laidTests := true, laidLooks := .later }
def MatchChunksUptoCardSaid : Prop := Claim7.holds Tryd.pinned (.plain (OpenSpec.upto matchChunksSpec)) matchChunksUptoCard

/-- THE SECOND FORM's CARD OF 'penstocklaw06.MatchGrows'. -/
def matchGrowsUptoCard : Claim7 := { stood := { row := matchGrowsUptoRow, standIns := [], harness := (true, "7bcda4e74ac5cc193c97d6f4e27737c77ea77afa9772ab36a70c8a094761b3e2"), looks := false }, kinds := [], alts := [], laidByText := true, laidKinds := [.data], laidTests := true, laidLooks := .later }
def MatchGrowsUptoCardSaid : Prop := Claim7.holds Tryd.pinned (.plain (OpenSpec.upto matchGrowsSpec)) matchGrowsUptoCard

/-- THE SECOND FORM's CARD OF 'penstocklaw06.MatchParts'. -/
def matchPartsUptoCard : Claim7 := { stood := { row := matchPartsUptoRow, standIns := [], harness := (true, "7bcda4e74ac5cc193c97d6f4e27737c77ea77afa9772ab36a70c8a094761b3e2"), looks := false }, kinds := [], alts := [], laidByText := true, laidKinds := [.data], laidTests := true, laidLooks := .later }
def MatchPartsUptoCardSaid : Prop := Claim7.holds Tryd.pinned (.plain (OpenSpec.upto matchPartsSpec)) matchPartsUptoCard
end Rows
end Go.Proofs.YtoppjlifaafjiaaDoor
