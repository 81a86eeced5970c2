/-
  DERIVED. GIVEN WITH THE SEED: THE CARDS: each row of YtbblkgknnolkmaaDoorRows.lean that lists a variable, with what it lists TIED to the program's text (the seventh form; the later family's looks); each row that meets fmt, with fmt's text TOLD by the authors' own Lean function (tested against real Go, not proved from fmt's source: count such statements apart). THE CARD IS WHAT COUNTS. Prove the row's statement (the work); the ties are given (YtbblkgknnolkmaaDoorTie.lean); close each card by the builder's one call (the guide's Derived/Test/ToyasCard.lean, 'card_holds'). Laid BY PROGRAM, IN A SANDBOX (cutbox-door.mjs). By AI agents, Wed Nov 11 2026. No macro, syntax, notation, axiom, sorry.
-/
import Derived.Test.YtbblkgknnolkmaaDoorRows
import GoSem.ClaimSeven
namespace Go.Proofs.YtbblkgknnolkmaaDoor
namespace Rows

/-- THE TIED CARD OF 'penstocklaw16.SplitMakes'. -/
def splitMakesCard : Claim7 := { stood := { row := splitMakesRow, standIns := [], harness := (true, "7608aa142638109a84e23b15988b040cec06499d2dc4ad1d2ab8474198f8c54b"), looks := false }, kinds := [], alts := [], laidByText := true, laidKinds := [.data], laidTests := true, laidLooks := .later }
def SplitMakesCardSaid : Prop := Claim7.holds Tryd.pinned (.plain (OpenSpec.ofChange splitMakesSpec)) splitMakesCard

/-- THE TIED CARD OF 'penstocklaw16.SplitMeans'. -/
def splitMeansCard : Claim7 := { stood := { row := splitMeansRow, standIns := [], harness := (true, "7608aa142638109a84e23b15988b040cec06499d2dc4ad1d2ab8474198f8c54b"), looks := false }, kinds := [], alts := [], laidByText := true, laidKinds := [.data], laidTests := true, laidLooks := .later }
def SplitMeansCardSaid : Prop := Claim7.holds Tryd.pinned (.plain (OpenSpec.ofChange splitMeansSpec)) splitMeansCard

/-- THE TIED CARD OF 'penstocklaw16.SplitHolds'. -/
def splitHoldsCard : Claim7 := { stood := { row := splitHoldsRow, standIns := [], harness := (true, "7608aa142638109a84e23b15988b040cec06499d2dc4ad1d2ab8474198f8c54b"), looks := false }, kinds := [], alts := [], laidByText := true, laidKinds := [.data], laidTests := true, laidLooks := .later }
def SplitHoldsCardSaid : Prop := Claim7.holds Tryd.pinned (.plain (OpenSpec.ofChange splitHoldsSpec)) splitHoldsCard

/-- THE TIED CARD OF 'penstocklaw16.SplitRefuses'. -/
def splitRefusesCard : Claim7 := { stood := { row := splitRefusesRow, standIns := [], harness := (true, "7608aa142638109a84e23b15988b040cec06499d2dc4ad1d2ab8474198f8c54b"), looks := false }, kinds := [], alts := [], laidByText := true, laidKinds := [.data], laidTests := true, laidLooks := .later }
def SplitRefusesCardSaid : Prop := Claim7.holds Tryd.pinned (.plain (OpenSpec.ofChange splitRefusesSpec)) splitRefusesCard

/-- THE TIED CARD OF 'penstocklaw16.SplitChunks'. -/
def splitChunksCard : Claim7 := { stood := { row := splitChunksRow, standIns := [], harness := (true, "7608aa142638109a84e23b15988b040cec06499d2dc4ad1d2ab8474198f8c54b"), looks := false }, kinds := [], alts := [], laidByText := true, laidKinds := [.data], laidTests := true, laidLooks := .later }
def SplitChunksCardSaid : Prop := Claim7.holds Tryd.pinned (.plain (OpenSpec.ofChange splitChunksSpec)) splitChunksCard

/-- THE TIED CARD OF 'penstocklaw16.SplitGrows'. -/
def splitGrowsCard : Claim7 := { stood := { row := splitGrowsRow, standIns := [], harness := (true, "7608aa142638109a84e23b15988b040cec06499d2dc4ad1d2ab8474198f8c54b"), looks := false }, kinds := [], alts := [], laidByText := true, laidKinds := [.data], laidTests := true, laidLooks := .later }
def SplitGrowsCardSaid : Prop := Claim7.holds Tryd.pinned (.plain (OpenSpec.ofChange splitGrowsSpec)) splitGrowsCard

/-- THE TIED CARD OF 'penstocklaw16.SplitRound'. -/
def splitRoundCard : Claim7 := { stood := { row := splitRoundRow, standIns := [], harness := (true, "7608aa142638109a84e23b15988b040cec06499d2dc4ad1d2ab8474198f8c54b"), looks := false }, kinds := [], alts := [], laidByText := true, laidKinds := [.data], laidTests := true, laidLooks := .later }
def SplitRoundCardSaid : Prop := Claim7.holds Tryd.pinned (.plain (OpenSpec.ofChange splitRoundSpec)) splitRoundCard

/-- THE SECOND FORM's CARD OF 'penstocklaw16.SplitMakes'. -/
def splitMakesUptoCard : Claim7 := { stood := { row := splitMakesUptoRow, standIns := [], harness := (true, "7608aa142638109a84e23b15988b040cec06499d2dc4ad1d2ab8474198f8c54b"), looks := false }, kinds := [], alts := [], laidByText := true, laidKinds := [.data], laidTests := true, laidLooks := .later }
def SplitMakesUptoCardSaid : Prop := Claim7.holds Tryd.pinned (.plain (OpenSpec.upto splitMakesSpec)) splitMakesUptoCard

/-- THE SECOND FORM's CARD OF 'penstocklaw16.SplitMeans'. -/
def splitMeansUptoCard : Claim7 := { stood := { row := splitMeansUptoRow, standIns := [], harness := (true, "7608aa142638109a84e23b15988b040cec06499d2dc4ad1d2ab8474198f8c54b"), looks := false }, kinds := [], alts := [], laidByText := true, laidKinds := [.data], laidTests := true, laidLooks := .later }
def SplitMeansUptoCardSaid : Prop := Claim7.holds Tryd.pinned (.plain (OpenSpec.upto splitMeansSpec)) splitMeansUptoCard

/-- THE SECOND FORM's CARD OF 'penstocklaw16.SplitHolds'. -/
def splitHoldsUptoCard : Claim7 := { stood := { row := splitHoldsUptoRow, standIns := [], harness := (true, "7608aa142638109a84e23b15988b040cec06499d2dc4ad1d2ab8474198f8c54b"), looks := false }, kinds := [], alts := [], laidByText := true, laidKinds := [.data], laidTests := true, laidLooks := .later }
def SplitHoldsUptoCardSaid : Prop := Claim7.holds Tryd.pinned (.plain (OpenSpec.upto splitHoldsSpec)) splitHoldsUptoCard

/-- THE SECOND FORM's CARD OF 'penstocklaw16.SplitRefuses'. -/
def splitRefusesUptoCard : Claim7 := { stood := { row := splitRefusesUptoRow, standIns := [], harness := (true, "7608aa142638109a84e23b15988b040cec06499d2dc4ad1d2ab8474198f8c54b"), looks := false }, kinds := [], alts := [], laidByText := true, laidKinds := [.data], laidTests := true, laidLooks := .later }
def SplitRefusesUptoCardSaid : Prop := Claim7.holds Tryd.pinned (.plain (OpenSpec.upto splitRefusesSpec)) splitRefusesUptoCard

/-- THE SECOND FORM's CARD OF 'penstocklaw16.SplitChunks'. -/
def splitChunksUptoCard : Claim7 := { stood := { row := splitChunksUptoRow, standIns := [], harness := (true, "7608aa142638109a84e23b15988b040cec06499d2dc4ad1d2ab8474198f8c54b"), looks := false }, kinds := [], alts := [], laidByText := true, laidKinds := [.data], laidTests := true, laidLooks := .later }
def SplitChunksUptoCardSaid : Prop := Claim7.holds Tryd.pinned (.plain (OpenSpec.upto splitChunksSpec)) splitChunksUptoCard

/-- THE SECOND FORM's CARD OF 'penstocklaw16.SplitGrows'. -/
def splitGrowsUptoCard : Claim7 := { stood := { row := splitGrowsUptoRow, standIns := [], harness := (true, "7608aa142638109a84e23b15988b040cec06499d2dc4ad1d2ab8474198f8c54b"), looks := false }, kinds := [], alts := [], laidByText := true, laidKinds := [.data], laidTests := true, laidLooks := .later }
def SplitGrowsUptoCardSaid : Prop := Claim7.holds Tryd.pinned (.plain (OpenSpec.upto splitGrowsSpec)) splitGrowsUptoCard

/-- THE SECOND FORM's CARD OF 'penstocklaw16.SplitRound'. -/
def splitRoundUptoCard : Claim7 := { stood := { row := splitRoundUptoRow, standIns := [], harness := (true, "7608aa142638109a84e23b15988b040cec06499d2dc4ad1d2ab8474198f8c54b"), looks := false }, kinds := [], alts := [], laidByText := true, laidKinds := [.data], laidTests := true, laidLooks := .later }
def SplitRoundUptoCardSaid : Prop := Claim7.holds Tryd.pinned (.plain (OpenSpec.upto splitRoundSpec)) splitRoundUptoCard
end Rows
end Go.Proofs.YtbblkgknnolkmaaDoor
