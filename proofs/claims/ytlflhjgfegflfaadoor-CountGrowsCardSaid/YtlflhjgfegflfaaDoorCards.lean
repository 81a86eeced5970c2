/-
  DERIVED. GIVEN WITH THE SEED: THE CARDS: each row of YtlflhjgfegflfaaDoorRows.lean that lists a variable, with what it lists TIED to the program's text (the seventh form; the later family's looks); each row that meets fmt, with fmt's text TOLD by the authors' own Lean function (tested against real Go, not proved from fmt's source: count such statements apart). THE CARD IS WHAT COUNTS. Prove the row's statement (the work); the ties are given (YtlflhjgfegflfaaDoorTie.lean); close each card by the builder's one call (the guide's Derived/Test/ToyasCard.lean, 'card_holds'). Laid BY PROGRAM, IN A SANDBOX (cutbox-door.mjs). By AI agents, Wed Nov 11 2026. No macro, syntax, notation, axiom, sorry.
-/
import Derived.Test.YtlflhjgfegflfaaDoorRows
import GoSem.ClaimSeven
namespace Go.Proofs.YtlflhjgfegflfaaDoor
namespace Rows

/-- THE TIED CARD OF 'penstocklaw10.CountMakes'. -/
def countMakesCard : Claim7 := { stood := { row := countMakesRow, standIns := [], harness := (true, "601cc326d5b0162bef2060fa8b5043b3f32b97642fe23adb64656a1e18da755c"), looks := false }, kinds := [], alts := [], laidByText := true, laidKinds := [.data], laidTests := true, laidLooks := .later }
def CountMakesCardSaid : Prop := Claim7.holds Tryd.pinned (.plain (OpenSpec.ofChange countMakesSpec)) countMakesCard

/-- THE TIED CARD OF 'penstocklaw10.CountMeans'. -/
def countMeansCard : Claim7 := { stood := { row := countMeansRow, standIns := [], harness := (true, "601cc326d5b0162bef2060fa8b5043b3f32b97642fe23adb64656a1e18da755c"), looks := false }, kinds := [], alts := [], laidByText := true, laidKinds := [.data], laidTests := true, laidLooks := .later }
def CountMeansCardSaid : Prop := Claim7.holds Tryd.pinned (.plain (OpenSpec.ofChange countMeansSpec)) countMeansCard

/-- THE TIED CARD OF 'penstocklaw10.CountHolds'. -/
def countHoldsCard : Claim7 := { stood := { row := countHoldsRow, standIns := [], harness := (true, "601cc326d5b0162bef2060fa8b5043b3f32b97642fe23adb64656a1e18da755c"), looks := false }, kinds := [], alts := [], laidByText := true, laidKinds := [.data], laidTests := true, laidLooks := .later }
def CountHoldsCardSaid : Prop := Claim7.holds Tryd.pinned (.plain (OpenSpec.ofChange countHoldsSpec)) countHoldsCard

/-- THE TIED CARD OF 'penstocklaw10.CountRefuses'. -/
def countRefusesCard : Claim7 := { stood := { row := countRefusesRow, standIns := [], harness := (true, "601cc326d5b0162bef2060fa8b5043b3f32b97642fe23adb64656a1e18da755c"), looks := false }, kinds := [], alts := [], laidByText := true, laidKinds := [.data], laidTests := true, laidLooks := .later }
def CountRefusesCardSaid : Prop := Claim7.holds Tryd.pinned (.plain (OpenSpec.ofChange countRefusesSpec)) countRefusesCard

/-- THE TIED CARD OF 'penstocklaw10.CountChunks'. -/
def countChunksCard : Claim7 := { stood := { row := countChunksRow, standIns := [], harness := (true, "601cc326d5b0162bef2060fa8b5043b3f32b97642fe23adb64656a1e18da755c"), looks := false }, kinds := [], alts := [], laidByText := true, laidKinds := [.data], laidTests := true, laidLooks := .later }
def CountChunksCardSaid : Prop := Claim7.holds Tryd.pinned (.plain (OpenSpec.ofChange countChunksSpec)) countChunksCard

/-- THE TIED CARD OF 'penstocklaw10.CountGrows'. -/
def countGrowsCard : Claim7 := { stood := { row := countGrowsRow, standIns := [], harness := (true, "601cc326d5b0162bef2060fa8b5043b3f32b97642fe23adb64656a1e18da755c"), looks := false }, kinds := [], alts := [], laidByText := true, laidKinds := [.data], laidTests := true, laidLooks := .later }
def CountGrowsCardSaid : Prop := Claim7.holds Tryd.pinned (.plain (OpenSpec.ofChange countGrowsSpec)) countGrowsCard

/-- THE TIED CARD OF 'penstocklaw10.CountAdds'. -/
def countAddsCard : Claim7 := { stood := { row := countAddsRow, standIns := [], harness := (true, "601cc326d5b0162bef2060fa8b5043b3f32b97642fe23adb64656a1e18da755c"), looks := false }, kinds := [], alts := [], laidByText := true, laidKinds := [.data], laidTests := true, laidLooks := .later }
def CountAddsCardSaid : Prop := Claim7.holds Tryd.pinned (.plain (OpenSpec.ofChange countAddsSpec)) countAddsCard

/-- THE SECOND FORM's CARD OF 'penstocklaw10.CountMakes'. -/
def countMakesUptoCard : Claim7 := { stood := { row := countMakesUptoRow, standIns := [], harness := (true, "601cc326d5b0162bef2060fa8b5043b3f32b97642fe23adb64656a1e18da755c"), looks := false }, kinds := [], alts := [], laidByText := true, laidKinds := [.data], laidTests := true, laidLooks := .later }
def CountMakesUptoCardSaid : Prop := Claim7.holds Tryd.pinned (.plain (OpenSpec.upto countMakesSpec)) countMakesUptoCard

/-- THE SECOND FORM's CARD OF 'penstocklaw10.CountMeans'. -/
def countMeansUptoCard : Claim7 := { stood := { row := countMeansUptoRow, standIns := [], harness := (true, "601cc326d5b0162bef2060fa8b5043b3f32b97642fe23adb64656a1e18da755c"), looks := false }, kinds := [], alts := [], laidByText := true, laidKinds := [.data], laidTests := true, laidLooks := .later }
def CountMeansUptoCardSaid : Prop := Claim7.holds Tryd.pinned (.plain (OpenSpec.upto countMeansSpec)) countMeansUptoCard

/-- THE SECOND FORM's CARD OF 'penstocklaw10.CountHolds'. -/
def countHoldsUptoCard : Claim7 := { stood := { row := countHoldsUptoRow, standIns := [], harness := (true, "601cc326d5b0162bef2060fa8b5043b3f32b97642fe23adb64656a1e18da755c"), looks := false }, kinds := [], alts := [], laidByText := true, laidKinds := [.data], laidTests := true, laidLooks := .later }
def CountHoldsUptoCardSaid : Prop := Claim7.holds Tryd.pinned (.plain (OpenSpec.upto countHoldsSpec)) countHoldsUptoCard

/-- THE SECOND FORM's CARD OF 'penstocklaw10.CountRefuses'. -/
def countRefusesUptoCard : Claim7 := { stood := { row := countRefusesUptoRow, standIns := [], harness := (true, "601cc326d5b0162bef2060fa8b5043b3f32b97642fe23adb64656a1e18da755c"), looks := false }, kinds := [], alts := [], laidByText := true, laidKinds := [.data], laidTests := true, laidLooks := .later }
def CountRefusesUptoCardSaid : Prop := Claim7.holds Tryd.pinned (.plain (OpenSpec.upto countRefusesSpec)) countRefusesUptoCard

/-- THE SECOND FORM's CARD OF 'penstocklaw10.CountChunks'. -/
def countChunksUptoCard : Claim7 := { stood := { row := countChunksUptoRow, standIns := [], harness := (true, "601cc326d5b0162bef2060fa8b5043b3f32b97642fe23adb64656a1e18da755c"), looks := false }, kinds := [], alts := [], laidByText := true, laidKinds := [.data], laidTests := true, laidLooks := .later }
def CountChunksUptoCardSaid : Prop := Claim7.holds Tryd.pinned (.plain (OpenSpec.upto countChunksSpec)) countChunksUptoCard

/-- THE SECOND FORM's CARD OF 'penstocklaw10.CountGrows'. -/
def countGrowsUptoCard : Claim7 := { stood := { row := countGrowsUptoRow, standIns := [], harness := (true, "601cc326d5b0162bef2060fa8b5043b3f32b97642fe23adb64656a1e18da755c"), looks := false }, kinds := [], alts := [], laidByText := true, laidKinds := [.data], laidTests := true, laidLooks := .later }
def CountGrowsUptoCardSaid : Prop := Claim7.holds Tryd.pinned (.plain (OpenSpec.upto countGrowsSpec)) countGrowsUptoCard

/-- THE SECOND FORM's CARD OF 'penstocklaw10.CountAdds'. -/
def countAddsUptoCard : Claim7 := { stood := { row := countAddsUptoRow, standIns := [], harness := (true, "601cc326d5b0162bef2060fa8b5043b3f32b97642fe23adb64656a1e18da755c"), looks := false }, kinds := [], alts := [], laidByText := true, laidKinds := [.data], laidTests := true, laidLooks := .later }
def CountAddsUptoCardSaid : Prop := Claim7.holds Tryd.pinned (.plain (OpenSpec.upto countAddsSpec)) countAddsUptoCard
end Rows
end Go.Proofs.YtlflhjgfegflfaaDoor
