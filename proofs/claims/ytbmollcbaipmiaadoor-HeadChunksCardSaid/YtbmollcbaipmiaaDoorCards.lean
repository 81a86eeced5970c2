/-
  DERIVED. GIVEN WITH THE SEED: THE CARDS: each row of YtbmollcbaipmiaaDoorRows.lean that lists a variable, with what it lists TIED to the program's text (the seventh form; the later family's looks); each row that meets fmt, with fmt's text TOLD by the authors' own Lean function (tested against real Go, not proved from fmt's source: count such statements apart). THE CARD IS WHAT COUNTS. Prove the row's statement (the work); the ties are given (YtbmollcbaipmiaaDoorTie.lean); close each card by the builder's one call (the guide's Derived/Test/ToyasCard.lean, 'card_holds'). Laid BY PROGRAM, IN A SANDBOX (cutbox-door.mjs). By AI agents, Wed Nov 11 2026. No macro, syntax, notation, axiom, sorry.
-/
import Derived.Test.YtbmollcbaipmiaaDoorRows
import GoSem.ClaimSeven
namespace Go.Proofs.YtbmollcbaipmiaaDoor
namespace Rows

/-- THE TIED CARD OF 'penstocklaw04.HeadMakes'. -/
def headMakesCard : Claim7 := { stood := { row := headMakesRow, standIns := [], harness := (true, "3fccfddc5b2690a147979310cebb0ffe71af866780ffd5dba7844c650ea01685"), looks := false }, kinds := [], alts := [], laidByText := true, laidKinds := [.data], laidTests := true, laidLooks := .later }
def HeadMakesCardSaid : Prop := Claim7.holds Tryd.pinned (.plain (OpenSpec.ofChange headMakesSpec)) headMakesCard

/-- THE TIED CARD OF 'penstocklaw04.HeadMeans'. -/
def headMeansCard : Claim7 := { stood := { row := headMeansRow, standIns := [], harness := (true, "3fccfddc5b2690a147979310cebb0ffe71af866780ffd5dba7844c650ea01685"), looks := false }, kinds := [], alts := [], laidByText := true, laidKinds := [.data], laidTests := true, laidLooks := .later }
def HeadMeansCardSaid : Prop := Claim7.holds Tryd.pinned (.plain (OpenSpec.ofChange headMeansSpec)) headMeansCard

/-- THE TIED CARD OF 'penstocklaw04.HeadHolds'. -/
def headHoldsCard : Claim7 := { stood := { row := headHoldsRow, standIns := [], harness := (true, "3fccfddc5b2690a147979310cebb0ffe71af866780ffd5dba7844c650ea01685"), looks := false }, kinds := [], alts := [], laidByText := true, laidKinds := [.data], laidTests := true, laidLooks := .later }
def HeadHoldsCardSaid : Prop := Claim7.holds Tryd.pinned (.plain (OpenSpec.ofChange headHoldsSpec)) headHoldsCard

/-- THE TIED CARD OF 'penstocklaw04.HeadRefuses'. -/
def headRefusesCard : Claim7 := { stood := { row := headRefusesRow, standIns := [], harness := (true, "3fccfddc5b2690a147979310cebb0ffe71af866780ffd5dba7844c650ea01685"), looks := false }, kinds := [], alts := [], laidByText := true, laidKinds := [.data], laidTests := true, laidLooks := .later }
def HeadRefusesCardSaid : Prop := Claim7.holds Tryd.pinned (.plain (OpenSpec.ofChange headRefusesSpec)) headRefusesCard

/-- THE TIED CARD OF 'penstocklaw04.HeadChunks'. -/
def headChunksCard : Claim7 := { stood := { row := headChunksRow, standIns := [], harness := (true, "3fccfddc5b2690a147979310cebb0ffe71af866780ffd5dba7844c650ea01685"), looks := false }, kinds := [], alts := [], laidByText := true, laidKinds := [.data], laidTests := true, laidLooks := .later }
def HeadChunksCardSaid : Prop := Claim7.holds Tryd.pinned (.plain (OpenSpec.ofChange headChunksSpec)) headChunksCard

/-- THE TIED CARD OF 'penstocklaw04.HeadGrows'. -/
def headGrowsCard : Claim7 := { stood := { row := headGrowsRow, standIns := [], harness := (true, "3fccfddc5b2690a147979310cebb0ffe71af866780ffd5dba7844c650ea01685"), looks := false }, kinds := [], alts := [], laidByText := true, laidKinds := [.data], laidTests := true, laidLooks := .later }
def HeadGrowsCardSaid : Prop := Claim7.holds Tryd.pinned (.plain (OpenSpec.ofChange headGrowsSpec)) headGrowsCard

/-- THE TIED CARD OF 'penstocklaw04.HeadTakes'. -/
def headTakesCard : Claim7 := { stood := { row := headTakesRow, standIns := [], harness := (true, "3fccfddc5b2690a147979310cebb0ffe71af866780ffd5dba7844c650ea01685"), looks := false }, kinds := [], alts := [], laidByText := true, laidKinds := [.data], laidTests := true, laidLooks := .later }
def HeadTakesCardSaid : Prop := Claim7.holds Tryd.pinned (.plain (OpenSpec.ofChange headTakesSpec)) headTakesCard

/-- THE SECOND FORM's CARD OF 'penstocklaw04.HeadMakes'. -/
def headMakesUptoCard : Claim7 := { stood := { row := headMakesUptoRow, standIns := [], harness := (true, "3fccfddc5b2690a147979310cebb0ffe71af866780ffd5dba7844c650ea01685"), looks := false }, kinds := [], alts := [], laidByText := true, laidKinds := [.data], laidTests := true, laidLooks := .later }
def HeadMakesUptoCardSaid : Prop := Claim7.holds Tryd.pinned (.plain (OpenSpec.upto headMakesSpec)) headMakesUptoCard

/-- THE SECOND FORM's CARD OF 'penstocklaw04.HeadMeans'. -/
def headMeansUptoCard : Claim7 := { stood := { row := headMeansUptoRow, standIns := [], harness := (true, "3fccfddc5b2690a147979310cebb0ffe71af866780ffd5dba7844c650ea01685"), looks := false }, kinds := [], alts := [], laidByText := true, laidKinds := [.data], laidTests := true, laidLooks := .later }
def HeadMeansUptoCardSaid : Prop := Claim7.holds Tryd.pinned (.plain (OpenSpec.upto headMeansSpec)) headMeansUptoCard

/-- THE SECOND FORM's CARD OF 'penstocklaw04.HeadHolds'. -/
def headHoldsUptoCard : Claim7 := { stood := { row := headHoldsUptoRow, standIns := [], harness := (true, "3fccfddc5b2690a147979310cebb0ffe71af866780ffd5dba7844c650ea01685"), looks := false }, kinds := [], alts := [], laidByText := true, laidKinds := [.data], laidTests := true, laidLooks := .later }
def HeadHoldsUptoCardSaid : Prop := Claim7.holds Tryd.pinned (.plain (OpenSpec.upto headHoldsSpec)) headHoldsUptoCard

/-- THE SECOND FORM's CARD OF 'penstocklaw04.HeadRefuses'. -/
def headRefusesUptoCard : Claim7 := { stood := { row := headRefusesUptoRow, standIns := [], harness := (true, "3fccfddc5b2690a147979310cebb0ffe71af866780ffd5dba7844c650ea01685"), looks := false }, kinds := [], alts := [], laidByText := true, laidKinds := [.data], laidTests := true, laidLooks := .later }
def HeadRefusesUptoCardSaid : Prop := Claim7.holds Tryd.pinned (.plain (OpenSpec.upto headRefusesSpec)) headRefusesUptoCard

/-- THE SECOND FORM's CARD OF 'penstocklaw04.HeadChunks'. -/
def headChunksUptoCard : Claim7 := { stood := { row := headChunksUptoRow, standIns := [], harness := (true, "3fccfddc5b2690a147979310cebb0ffe71af866780ffd5dba7844c650ea01685"), looks := false }, kinds := [], alts := [], laidByText := true, laidKinds := [.data], laidTests := true, laidLooks := .later }
def HeadChunksUptoCardSaid : Prop := Claim7.holds Tryd.pinned (.plain (OpenSpec.upto headChunksSpec)) headChunksUptoCard

/-- THE SECOND FORM's CARD OF 'penstocklaw04.HeadGrows'. -/
def headGrowsUptoCard : Claim7 := { stood := { row := headGrowsUptoRow, standIns := [], harness := (true, "3fccfddc5b2690a147979310cebb0ffe71af866780ffd5dba7844c650ea01685"), looks := false }, kinds := [], alts := [], laidByText := true, laidKinds := [.data], laidTests := true, laidLooks := .later }
def HeadGrowsUptoCardSaid : Prop := Claim7.holds Tryd.pinned (.plain (OpenSpec.upto headGrowsSpec)) headGrowsUptoCard

/-- THE SECOND FORM's CARD OF 'penstocklaw04.HeadTakes'. -/
def headTakesUptoCard : Claim7 := { stood := { row := headTakesUptoRow, standIns := [], harness := (true, "3fccfddc5b2690a147979310cebb0ffe71af866780ffd5dba7844c650ea01685"), looks := false }, kinds := [], alts := [], laidByText := true, laidKinds := [.data], laidTests := true, laidLooks := .later }
def HeadTakesUptoCardSaid : Prop := Claim7.holds Tryd.pinned (.plain (OpenSpec.upto headTakesSpec)) headTakesUptoCard
end Rows
end Go.Proofs.YtbmollcbaipmiaaDoor
