/-
  DERIVED. GIVEN WITH THE SEED: THE CARDS: each row of YtdcaniidkaicdaaDoorRows.lean that lists a variable, with what it lists TIED to the program's text (the seventh form; the later family's looks); each row that meets fmt, with fmt's text TOLD by the authors' own Lean function (tested against real Go, not proved from fmt's source: count such statements apart). THE CARD IS WHAT COUNTS. Prove the row's statement (the work); the ties are given (YtdcaniidkaicdaaDoorTie.lean); close each card by the builder's one call (the guide's Derived/Test/ToyasCard.lean, 'card_holds'). Laid BY PROGRAM, IN A SANDBOX (cutbox-door.mjs). By AI agents, Wed Nov 11 2026. No macro, syntax, notation, axiom, sorry.
-/
import Derived.Test.YtdcaniidkaicdaaDoorRows
import GoSem.ClaimSeven
namespace Go.Proofs.YtdcaniidkaicdaaDoor
namespace Rows

/-- THE TIED CARD OF 'penstocklaw15.TeeMakes'. -/
def teeMakesCard : Claim7 := { stood := { row := teeMakesRow, standIns := [], harness := (true, "40bd1cf5b89358fabfd82b5b41a5a2973a318ed00656d6193bff3d5dcded10f0"), looks := false }, kinds := [], alts := [], laidByText := true, laidKinds := [.data], laidTests := true, laidLooks := .later }
def TeeMakesCardSaid : Prop := Claim7.holds Tryd.pinned (.plain (OpenSpec.ofChange teeMakesSpec)) teeMakesCard

/-- THE TIED CARD OF 'penstocklaw15.TeeMeans'. -/
def teeMeansCard : Claim7 := { stood := { row := teeMeansRow, standIns := [], harness := (true, "40bd1cf5b89358fabfd82b5b41a5a2973a318ed00656d6193bff3d5dcded10f0"), looks := false }, kinds := [], alts := [], laidByText := true, laidKinds := [.data], laidTests := true, laidLooks := .later }
def TeeMeansCardSaid : Prop := Claim7.holds Tryd.pinned (.plain (OpenSpec.ofChange teeMeansSpec)) teeMeansCard

/-- THE TIED CARD OF 'penstocklaw15.TeeHolds'. -/
def teeHoldsCard : Claim7 := { stood := { row := teeHoldsRow, standIns := [], harness := (true, "40bd1cf5b89358fabfd82b5b41a5a2973a318ed00656d6193bff3d5dcded10f0"), looks := false }, kinds := [], alts := [], laidByText := true, laidKinds := [.data], laidTests := true, laidLooks := .later }
def TeeHoldsCardSaid : Prop := Claim7.holds Tryd.pinned (.plain (OpenSpec.ofChange teeHoldsSpec)) teeHoldsCard

/-- THE TIED CARD OF 'penstocklaw15.TeeRefuses'. -/
def teeRefusesCard : Claim7 := { stood := { row := teeRefusesRow, standIns := [], harness := (true, "40bd1cf5b89358fabfd82b5b41a5a2973a318ed00656d6193bff3d5dcded10f0"), looks := false }, kinds := [], alts := [], laidByText := true, laidKinds := [.data], laidTests := true, laidLooks := .later }
def TeeRefusesCardSaid : Prop := Claim7.holds Tryd.pinned (.plain (OpenSpec.ofChange teeRefusesSpec)) teeRefusesCard

/-- THE TIED CARD OF 'penstocklaw15.TeeChunks'. -/
def teeChunksCard : Claim7 := { stood := { row := teeChunksRow, standIns := [], harness := (true, "40bd1cf5b89358fabfd82b5b41a5a2973a318ed00656d6193bff3d5dcded10f0"), looks := false }, kinds := [], alts := [], laidByText := true, laidKinds := [.data], laidTests := true, laidLooks := .later }
def TeeChunksCardSaid : Prop := Claim7.holds Tryd.pinned (.plain (OpenSpec.ofChange teeChunksSpec)) teeChunksCard

/-- THE TIED CARD OF 'penstocklaw15.TeeGrows'. -/
def teeGrowsCard : Claim7 := { stood := { row := teeGrowsRow, standIns := [], harness := (true, "40bd1cf5b89358fabfd82b5b41a5a2973a318ed00656d6193bff3d5dcded10f0"), looks := false }, kinds := [], alts := [], laidByText := true, laidKinds := [.data], laidTests := true, laidLooks := .later }
def TeeGrowsCardSaid : Prop := Claim7.holds Tryd.pinned (.plain (OpenSpec.ofChange teeGrowsSpec)) teeGrowsCard

/-- THE TIED CARD OF 'penstocklaw15.TeeSame'. -/
def teeSameCard : Claim7 := { stood := { row := teeSameRow, standIns := [], harness := (true, "40bd1cf5b89358fabfd82b5b41a5a2973a318ed00656d6193bff3d5dcded10f0"), looks := false }, kinds := [], alts := [], laidByText := true, laidKinds := [.data], laidTests := true, laidLooks := .later }
def TeeSameCardSaid : Prop := Claim7.holds Tryd.pinned (.plain (OpenSpec.ofChange teeSameSpec)) teeSameCard

/-- THE SECOND FORM's CARD OF 'penstocklaw15.TeeMakes'. -/
def teeMakesUptoCard : Claim7 := { stood := { row := teeMakesUptoRow, standIns := [], harness := (true, "40bd1cf5b89358fabfd82b5b41a5a2973a318ed00656d6193bff3d5dcded10f0"), looks := false }, kinds := [], alts := [], laidByText := true, laidKinds := [.data], laidTests := true, laidLooks := .later }
def TeeMakesUptoCardSaid : Prop := Claim7.holds Tryd.pinned (.plain (OpenSpec.upto teeMakesSpec)) teeMakesUptoCard

/-- THE SECOND FORM's CARD OF 'penstocklaw15.TeeMeans'. -/
def teeMeansUptoCard : Claim7 := { stood := { row := teeMeansUptoRow, standIns := [], harness := (true, "40bd1cf5b89358fabfd82b5b41a5a2973a318ed00656d6193bff3d5dcded10f0"), looks := false }, kinds := [], alts := [], laidByText := true, laidKinds := [.data], laidTests := true, laidLooks := .later }
def TeeMeansUptoCardSaid : Prop := Claim7.holds Tryd.pinned (.plain (OpenSpec.upto teeMeansSpec)) teeMeansUptoCard

/-- THE SECOND FORM's CARD OF 'penstocklaw15.TeeHolds'. -/
def teeHoldsUptoCard : Claim7 := { stood := { row := teeHoldsUptoRow, standIns := [], harness := (true, "40bd1cf5b89358fabfd82b5b41a5a2973a318ed00656d6193bff3d5dcded10f0"), looks := false }, kinds := [], alts := [], laidByText := true, laidKinds := [.data], laidTests := true, laidLooks := .later }
def TeeHoldsUptoCardSaid : Prop := Claim7.holds Tryd.pinned (.plain (OpenSpec.upto teeHoldsSpec)) teeHoldsUptoCard

/-- THE SECOND FORM's CARD OF 'penstocklaw15.TeeRefuses'. -/
def teeRefusesUptoCard : Claim7 := { stood := { row := teeRefusesUptoRow, standIns := [], harness := (true, "40bd1cf5b89358fabfd82b5b41a5a2973a318ed00656d6193bff3d5dcded10f0"), looks := false }, kinds := [], alts := [], laidByText := true, laidKinds := [.data], laidTests := true, laidLooks := .later }
def TeeRefusesUptoCardSaid : Prop := Claim7.holds Tryd.pinned (.plain (OpenSpec.upto teeRefusesSpec)) teeRefusesUptoCard

/-- THE SECOND FORM's CARD OF 'penstocklaw15.TeeChunks'. -/
def teeChunksUptoCard : Claim7 := { stood := { row := teeChunksUptoRow, standIns := [], harness := (true, "40bd1cf5b89358fabfd82b5b41a5a2973a318ed00656d6193bff3d5dcded10f0"), looks := false }, kinds := [], alts := [], laidByText := true, laidKinds := [.data], laidTests := true, laidLooks := .later }
def TeeChunksUptoCardSaid : Prop := Claim7.holds Tryd.pinned (.plain (OpenSpec.upto teeChunksSpec)) teeChunksUptoCard

/-- THE SECOND FORM's CARD OF 'penstocklaw15.TeeGrows'. -/
def teeGrowsUptoCard : Claim7 := { stood := { row := teeGrowsUptoRow, standIns := [], harness := (true, "40bd1cf5b89358fabfd82b5b41a5a2973a318ed00656d6193bff3d5dcded10f0"), looks := false }, kinds := [], alts := [], laidByText := true, laidKinds := [.data], laidTests := true, laidLooks := .later }
def TeeGrowsUptoCardSaid : Prop := Claim7.holds Tryd.pinned (.plain (OpenSpec.upto teeGrowsSpec)) teeGrowsUptoCard

/-- THE SECOND FORM's CARD OF 'penstocklaw15.TeeSame'. -/
def teeSameUptoCard : Claim7 := { stood := { row := teeSameUptoRow, standIns := [], harness := (true, "40bd1cf5b89358fabfd82b5b41a5a2973a318ed00656d6193bff3d5dcded10f0"), looks := false }, kinds := [], alts := [], laidByText := true, laidKinds := [.data], laidTests := true, laidLooks := .later }
def TeeSameUptoCardSaid : Prop := Claim7.holds Tryd.pinned (.plain (OpenSpec.upto teeSameSpec)) teeSameUptoCard
end Rows
end Go.Proofs.YtdcaniidkaicdaaDoor
