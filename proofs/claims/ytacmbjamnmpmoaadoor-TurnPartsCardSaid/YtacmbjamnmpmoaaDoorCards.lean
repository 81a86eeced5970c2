/-
  DERIVED. GIVEN WITH THE SEED: THE CARDS: each row of YtacmbjamnmpmoaaDoorRows.lean that lists a variable, with what it lists TIED to the program's text (the seventh form; the later family's looks); each row that meets fmt, with fmt's text TOLD by the authors' own Lean function (tested against real Go, not proved from fmt's source: count such statements apart). THE CARD IS WHAT COUNTS. Prove the row's statement (the work); the ties are given (YtacmbjamnmpmoaaDoorTie.lean); close each card by the builder's one call (the guide's Derived/Test/ToyasCard.lean, 'card_holds'). Laid BY PROGRAM, IN A SANDBOX (cutbox-door.mjs). By AI agents, Wed Nov 11 2026. No macro, syntax, notation, axiom, sorry.
-/
import Derived.Test.YtacmbjamnmpmoaaDoorRows
import GoSem.ClaimSeven
namespace Go.Proofs.YtacmbjamnmpmoaaDoor
namespace Rows

/-- THE TIED CARD OF 'penstocklaw07.TurnMakes'. -/
def turnMakesCard : Claim7 := { stood := { row := turnMakesRow, standIns := [], harness := (true, "9b57677e6fcadbfd9aaf16e57f7dcde6e7b1f6d19cc5190c4b239ec82a12e3a4"), looks := false }, kinds := [], alts := [], laidByText := true, laidKinds := [.data], laidTests := true, laidLooks := .later }
def TurnMakesCardSaid : Prop := Claim7.holds Tryd.pinned (.plain (OpenSpec.ofChange turnMakesSpec)) turnMakesCard

/-- THE TIED CARD OF 'penstocklaw07.TurnMeans'. -/
def turnMeansCard : Claim7 := { stood := { row := turnMeansRow, standIns := [], harness := (true, "9b57677e6fcadbfd9aaf16e57f7dcde6e7b1f6d19cc5190c4b239ec82a12e3a4"), looks := false }, kinds := [], alts := [], laidByText := true, laidKinds := [.data], laidTests := true, laidLooks := .later }
def TurnMeansCardSaid : Prop := Claim7.holds Tryd.pinned (.plain (OpenSpec.ofChange turnMeansSpec)) turnMeansCard

/-- THE TIED CARD OF 'penstocklaw07.TurnHolds'. -/
def turnHoldsCard : Claim7 := { stood := { row := turnHoldsRow, standIns := [], harness := (true, "9b57677e6fcadbfd9aaf16e57f7dcde6e7b1f6d19cc5190c4b239ec82a12e3a4"), looks := false }, kinds := [], alts := [], laidByText := true, laidKinds := [.data], laidTests := true, laidLooks := .later }
def TurnHoldsCardSaid : Prop := Claim7.holds Tryd.pinned (.plain (OpenSpec.ofChange turnHoldsSpec)) turnHoldsCard

/-- THE TIED CARD OF 'penstocklaw07.TurnRefuses'. -/
def turnRefusesCard : Claim7 := { stood := { row := turnRefusesRow, standIns := [], harness := (true, "9b57677e6fcadbfd9aaf16e57f7dcde6e7b1f6d19cc5190c4b239ec82a12e3a4"), looks := false }, kinds := [], alts := [], laidByText := true, laidKinds := [.data], laidTests := true, laidLooks := .later }
def TurnRefusesCardSaid : Prop := Claim7.holds Tryd.pinned (.plain (OpenSpec.ofChange turnRefusesSpec)) turnRefusesCard

/-- THE TIED CARD OF 'penstocklaw07.TurnChunks'. -/
def turnChunksCard : Claim7 := { stood := { row := turnChunksRow, standIns := [], harness := (true, "9b57677e6fcadbfd9aaf16e57f7dcde6e7b1f6d19cc5190c4b239ec82a12e3a4"), looks := false }, kinds := [], alts := [], laidByText := true, laidKinds := [.data], laidTests := true, laidLooks := .later }
def TurnChunksCardSaid : Prop := Claim7.holds Tryd.pinned (.plain (OpenSpec.ofChange turnChunksSpec)) turnChunksCard

/-- THE TIED CARD OF 'penstocklaw07.TurnGrows'. -/
def turnGrowsCard : Claim7 := { stood := { row := turnGrowsRow, standIns := [], harness := (true, "9b57677e6fcadbfd9aaf16e57f7dcde6e7b1f6d19cc5190c4b239ec82a12e3a4"), looks := false }, kinds := [], alts := [], laidByText := true, laidKinds := [.data], laidTests := true, laidLooks := .later }
def TurnGrowsCardSaid : Prop := Claim7.holds Tryd.pinned (.plain (OpenSpec.ofChange turnGrowsSpec)) turnGrowsCard

/-- THE TIED CARD OF 'penstocklaw07.TurnParts'. -/
def turnPartsCard : Claim7 := { stood := { row := turnPartsRow, standIns := [], harness := (true, "9b57677e6fcadbfd9aaf16e57f7dcde6e7b1f6d19cc5190c4b239ec82a12e3a4"), looks := false }, kinds := [], alts := [], laidByText := true, laidKinds := [.data], laidTests := true, laidLooks := .later }
def TurnPartsCardSaid : Prop := Claim7.holds Tryd.pinned (.plain (OpenSpec.ofChange turnPartsSpec)) turnPartsCard

/-- THE SECOND FORM's CARD OF 'penstocklaw07.TurnMakes'. -/
def turnMakesUptoCard : Claim7 := { stood := { row := turnMakesUptoRow, standIns := [], harness := (true, "9b57677e6fcadbfd9aaf16e57f7dcde6e7b1f6d19cc5190c4b239ec82a12e3a4"), looks := false }, kinds := [], alts := [], laidByText := true, laidKinds := [.data], laidTests := true, laidLooks := .later }
def TurnMakesUptoCardSaid : Prop := Claim7.holds Tryd.pinned (.plain (OpenSpec.upto turnMakesSpec)) turnMakesUptoCard

/-- THE SECOND FORM's CARD OF 'penstocklaw07.TurnMeans'. -/
def turnMeansUptoCard : Claim7 := { stood := { row := turnMeansUptoRow, standIns := [], harness := (true, "9b57677e6fcadbfd9aaf16e57f7dcde6e7b1f6d19cc5190c4b239ec82a12e3a4"), looks := false }, kinds := [], alts := [], laidByText := true, laidKinds := [.data], laidTests := true, laidLooks := .later }
def TurnMeansUptoCardSaid : Prop := Claim7.holds Tryd.pinned (.plain (OpenSpec.upto turnMeansSpec)) turnMeansUptoCard

/-- THE SECOND FORM's CARD OF 'penstocklaw07.TurnHolds'. -/
def turnHoldsUptoCard : Claim7 := { stood := { row := turnHoldsUptoRow, standIns := [], harness := (true, "9b57677e6fcadbfd9aaf16e57f7dcde6e7b1f6d19cc5190c4b239ec82a12e3a4"), looks := false }, kinds := [], alts := [], laidByText := true, laidKinds := [.data], laidTests := true, laidLooks := .later }
def TurnHoldsUptoCardSaid : Prop := Claim7.holds Tryd.pinned (.plain (OpenSpec.upto turnHoldsSpec)) turnHoldsUptoCard

/-- THE SECOND FORM's CARD OF 'penstocklaw07.TurnRefuses'. -/
def turnRefusesUptoCard : Claim7 := { stood := { row := turnRefusesUptoRow, standIns := [], harness := (true, "9b57677e6fcadbfd9aaf16e57f7dcde6e7b1f6d19cc5190c4b239ec82a12e3a4"), looks := false }, kinds := [], alts := [], laidByText := true, laidKinds := [.data], laidTests := true, laidLooks := .later }
def TurnRefusesUptoCardSaid : Prop := Claim7.holds Tryd.pinned (.plain (OpenSpec.upto turnRefusesSpec)) turnRefusesUptoCard

/-- THE SECOND FORM's CARD OF 'penstocklaw07.TurnChunks'. -/
def turnChunksUptoCard : Claim7 := { stood := { row := turnChunksUptoRow, standIns := [], harness := (true, "9b57677e6fcadbfd9aaf16e57f7dcde6e7b1f6d19cc5190c4b239ec82a12e3a4"), looks := false }, kinds := [], alts := [], laidByText := true, laidKinds := [.data], laidTests := true, laidLooks := .later }
def TurnChunksUptoCardSaid : Prop := Claim7.holds Tryd.pinned (.plain (OpenSpec.upto turnChunksSpec)) turnChunksUptoCard

/-- THE SECOND FORM's CARD OF 'penstocklaw07.TurnGrows'. -/
def turnGrowsUptoCard : Claim7 := { stood := { row := turnGrowsUptoRow, standIns := [], harness := (true, "9b57677e6fcadbfd9aaf16e57f7dcde6e7b1f6d19cc5190c4b239ec82a12e3a4"), looks := false }, kinds := [], alts := [], laidByText := true, laidKinds := [.data], laidTests := true, laidLooks := .later }
def TurnGrowsUptoCardSaid : Prop := Claim7.holds Tryd.pinned (.plain (OpenSpec.upto turnGrowsSpec)) turnGrowsUptoCard

/-- THE SECOND FORM's CARD OF 'penstocklaw07.TurnParts'. -/
def turnPartsUptoCard : Claim7 := { stood := { row := turnPartsUptoRow, standIns := [], harness := (true, "9b57677e6fcadbfd9aaf16e57f7dcde6e7b1f6d19cc5190c4b239ec82a12e3a4"), looks := false }, kinds := [], alts := [], laidByText := true, laidKinds := [.data], laidTests := true, laidLooks := .later }
def TurnPartsUptoCardSaid : Prop := Claim7.holds Tryd.pinned (.plain (OpenSpec.upto turnPartsSpec)) turnPartsUptoCard
end Rows
end Go.Proofs.YtacmbjamnmpmoaaDoor
