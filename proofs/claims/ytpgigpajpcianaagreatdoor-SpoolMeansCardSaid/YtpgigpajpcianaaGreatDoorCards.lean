/-
  DERIVED. GIVEN WITH THE SEED: THE CARDS: each row of YtpgigpajpcianaaGreatDoorRows.lean that lists a variable, with what it lists TIED to the program's text (the seventh form; the later family's looks); each row that meets fmt, with fmt's text TOLD by the authors' own Lean function (tested against real Go, not proved from fmt's source: count such statements apart). THE CARD IS WHAT COUNTS. Prove the row's statement (the work); the ties are given (YtpgigpajpcianaaGreatDoorTie.lean); close each card by the builder's one call (the guide's Derived/Test/ToyasCard.lean, 'card_holds'). Laid BY PROGRAM, IN A SANDBOX (cutbox-door.mjs). By AI agents, Wed Nov 11 2026. No macro, syntax, notation, axiom, sorry.
-/
import Derived.Test.YtpgigpajpcianaaGreatDoorRows
import GoSem.ClaimSeven
namespace Go.Proofs.YtpgigpajpcianaaGreatDoor
namespace Rows

/-- THE TIED CARD OF 'penstocklaw18.SpoolMakes'. -/
def spoolMakesCard : Claim7 := { stood := { row := spoolMakesRow, standIns := [], harness := (true, "0ffedf83326eb8da730232a98959e8148a0d20e5059cb03b4d3ed6230af8b882"), looks := false }, kinds := [], alts := [], laidByText := true, laidKinds := [.data], laidTests := true, laidLooks := .later }
def SpoolMakesCardSaid : Prop := Claim7.holds Tryz.pinned (.plain (OpenSpec.ofChange spoolMakesSpec)) spoolMakesCard

/-- THE TIED CARD OF 'penstocklaw18.SpoolMeans'. -/
def spoolMeansCard : Claim7 := { stood := { row := spoolMeansRow, standIns := [], harness := (true, "0ffedf83326eb8da730232a98959e8148a0d20e5059cb03b4d3ed6230af8b882"), looks := false }, kinds := [], alts := [], laidByText := true, laidKinds := [.data], laidTests := true, laidLooks := .later }
def SpoolMeansCardSaid : Prop := Claim7.holds Tryz.pinned (.plain (OpenSpec.ofChange spoolMeansSpec)) spoolMeansCard

/-- THE TIED CARD OF 'penstocklaw18.SpoolHolds'. -/
def spoolHoldsCard : Claim7 := { stood := { row := spoolHoldsRow, standIns := [], harness := (true, "0ffedf83326eb8da730232a98959e8148a0d20e5059cb03b4d3ed6230af8b882"), looks := false }, kinds := [], alts := [], laidByText := true, laidKinds := [.data], laidTests := true, laidLooks := .later }
def SpoolHoldsCardSaid : Prop := Claim7.holds Tryz.pinned (.plain (OpenSpec.ofChange spoolHoldsSpec)) spoolHoldsCard

/-- THE TIED CARD OF 'penstocklaw18.SpoolCloses'. -/
def spoolClosesCard : Claim7 := { stood := { row := spoolClosesRow, standIns := [], harness := (true, "0ffedf83326eb8da730232a98959e8148a0d20e5059cb03b4d3ed6230af8b882"), looks := false }, kinds := [], alts := [], laidByText := true, laidKinds := [.data], laidTests := true, laidLooks := .later }
def SpoolClosesCardSaid : Prop := Claim7.holds Tryz.pinned (.plain (OpenSpec.ofChange spoolClosesSpec)) spoolClosesCard

/-- THE TIED CARD OF 'penstocklaw18.SpoolSorts'. -/
def spoolSortsCard : Claim7 := { stood := { row := spoolSortsRow, standIns := [], harness := (true, "0ffedf83326eb8da730232a98959e8148a0d20e5059cb03b4d3ed6230af8b882"), looks := false }, kinds := [], alts := [], laidByText := true, laidKinds := [.data], laidTests := true, laidLooks := .later }
def SpoolSortsCardSaid : Prop := Claim7.holds Tryz.pinned (.plain (OpenSpec.ofChange spoolSortsSpec)) spoolSortsCard

/-- THE TIED CARD OF 'penstocklaw18.SpoolChunks'. -/
def spoolChunksCard : Claim7 := { stood := { row := spoolChunksRow, standIns := [], harness := (true, "0ffedf83326eb8da730232a98959e8148a0d20e5059cb03b4d3ed6230af8b882"), looks := false }, kinds := [], alts := [], laidByText := true, laidKinds := [.data], laidTests := true, laidLooks := .later }
def SpoolChunksCardSaid : Prop := Claim7.holds Tryz.pinned (.plain (OpenSpec.ofChange spoolChunksSpec)) spoolChunksCard

/-- THE TIED CARD OF 'penstocklaw18.SpoolNobody'. -/
def spoolNobodyCard : Claim7 := { stood := { row := spoolNobodyRow, standIns := [], harness := (true, "0ffedf83326eb8da730232a98959e8148a0d20e5059cb03b4d3ed6230af8b882"), looks := false }, kinds := [], alts := [], laidByText := true, laidKinds := [.data], laidTests := true, laidLooks := .later }
def SpoolNobodyCardSaid : Prop := Claim7.holds Tryz.pinned (.plain (OpenSpec.ofChange spoolNobodySpec)) spoolNobodyCard

/-- THE SECOND FORM's CARD OF 'penstocklaw18.SpoolMakes'. -/
def spoolMakesUptoCard : Claim7 := { stood := { row := spoolMakesUptoRow, standIns := [], harness := (true, "0ffedf83326eb8da730232a98959e8148a0d20e5059cb03b4d3ed6230af8b882"), looks := false }, kinds := [], alts := [], laidByText := true, laidKinds := [.data], laidTests := true, laidLooks := .later }
def SpoolMakesUptoCardSaid : Prop := Claim7.holds Tryz.pinned (.plain (OpenSpec.upto spoolMakesSpec)) spoolMakesUptoCard

/-- THE SECOND FORM's CARD OF 'penstocklaw18.SpoolMeans'. -/
def spoolMeansUptoCard : Claim7 := { stood := { row := spoolMeansUptoRow, standIns := [], harness := (true, "0ffedf83326eb8da730232a98959e8148a0d20e5059cb03b4d3ed6230af8b882"), looks := false }, kinds := [], alts := [], laidByText := true, laidKinds := [.data], laidTests := true, laidLooks := .later }
def SpoolMeansUptoCardSaid : Prop := Claim7.holds Tryz.pinned (.plain (OpenSpec.upto spoolMeansSpec)) spoolMeansUptoCard

/-- THE SECOND FORM's CARD OF 'penstocklaw18.SpoolHolds'. -/
def spoolHoldsUptoCard : Claim7 := { stood := { row := spoolHoldsUptoRow, standIns := [], harness := (true, "0ffedf83326eb8da730232a98959e8148a0d20e5059cb03b4d3ed6230af8b882"), looks := false }, kinds := [], alts := [], laidByText := true, laidKinds := [.data], laidTests := true, laidLooks := .later }
def SpoolHoldsUptoCardSaid : Prop := Claim7.holds Tryz.pinned (.plain (OpenSpec.upto spoolHoldsSpec)) spoolHoldsUptoCard

/-- THE SECOND FORM's CARD OF 'penstocklaw18.SpoolCloses'. -/
def spoolClosesUptoCard : Claim7 := { stood := { row := spoolClosesUptoRow, standIns := [], harness := (true, "0ffedf83326eb8da730232a98959e8148a0d20e5059cb03b4d3ed6230af8b882"), looks := false }, kinds := [], alts := [], laidByText := true, laidKinds := [.data], laidTests := true, laidLooks := .later }
def SpoolClosesUptoCardSaid : Prop := Claim7.holds Tryz.pinned (.plain (OpenSpec.upto spoolClosesSpec)) spoolClosesUptoCard

/-- THE SECOND FORM's CARD OF 'penstocklaw18.SpoolSorts'. -/
def spoolSortsUptoCard : Claim7 := { stood := { row := spoolSortsUptoRow, standIns := [], harness := (true, "0ffedf83326eb8da730232a98959e8148a0d20e5059cb03b4d3ed6230af8b882"), looks := false }, kinds := [], alts := [], laidByText := true, laidKinds := [.data], laidTests := true, laidLooks := .later }
def SpoolSortsUptoCardSaid : Prop := Claim7.holds Tryz.pinned (.plain (OpenSpec.upto spoolSortsSpec)) spoolSortsUptoCard

/-- THE SECOND FORM's CARD OF 'penstocklaw18.SpoolChunks'. -/
def spoolChunksUptoCard : Claim7 := { stood := { row := spoolChunksUptoRow, standIns := [], harness := (true, "0ffedf83326eb8da730232a98959e8148a0d20e5059cb03b4d3ed6230af8b882"), looks := false }, kinds := [], alts := [], laidByText := true, laidKinds := [.data], laidTests := true, laidLooks := .later }
def SpoolChunksUptoCardSaid : Prop := Claim7.holds Tryz.pinned (.plain (OpenSpec.upto spoolChunksSpec)) spoolChunksUptoCard

/-- THE SECOND FORM's CARD OF 'penstocklaw18.SpoolNobody'. -/
def spoolNobodyUptoCard : Claim7 := { stood := { row := spoolNobodyUptoRow, standIns := [], harness := (true, "0ffedf83326eb8da730232a98959e8148a0d20e5059cb03b4d3ed6230af8b882"), looks := false }, kinds := [], alts := [], laidByText := true, laidKinds := [.data], laidTests := true, laidLooks := .later }
def SpoolNobodyUptoCardSaid : Prop := Claim7.holds Tryz.pinned (.plain (OpenSpec.upto spoolNobodySpec)) spoolNobodyUptoCard
end Rows
end Go.Proofs.YtpgigpajpcianaaGreatDoor
