/-
  DERIVED. GIVEN WITH THE SEED: THE CARDS: each row of YtmmhpjhmobhdiaaDoorRows.lean that lists a variable, with what it lists TIED to the program's text (the seventh form; the later family's looks); each row that meets fmt, with fmt's text TOLD by the authors' own Lean function (tested against real Go, not proved from fmt's source: count such statements apart). THE CARD IS WHAT COUNTS. Prove the row's statement (the work); the ties are given (YtmmhpjhmobhdiaaDoorTie.lean); close each card by the builder's one call (the guide's Derived/Test/ToyasCard.lean, 'card_holds'). Laid BY PROGRAM, IN A SANDBOX (cutbox-door.mjs). By AI agents, Wed Nov 11 2026. No macro, syntax, notation, axiom, sorry.
-/
import Derived.Test.YtmmhpjhmobhdiaaDoorRows
import GoSem.ClaimSeven
namespace Go.Proofs.YtmmhpjhmobhdiaaDoor
namespace Rows

/-- THE TIED CARD OF 'penstocklaw09.UniqMakes'. -/
def uniqMakesCard : Claim7 := { stood := { row := uniqMakesRow, standIns := [], harness := (true, "27558fdb80e59bf554cd132bb39b7dadfb5855baa3683c2e3a2863239af7c31e"), looks := false }, kinds := [], alts := [], laidByText := true, laidKinds := [.data, .data, .data, .data], laidTests := true, laidLooks := .later }
def UniqMakesCardSaid : Prop := Claim7.holds Tryd.pinned (.plain (OpenSpec.ofChange uniqMakesSpec)) uniqMakesCard

/-- THE TIED CARD OF 'penstocklaw09.UniqMeans'. -/
def uniqMeansCard : Claim7 := { stood := { row := uniqMeansRow, standIns := [], harness := (true, "27558fdb80e59bf554cd132bb39b7dadfb5855baa3683c2e3a2863239af7c31e"), looks := false }, kinds := [], alts := [], laidByText := true, laidKinds := [.data, .data, .data, .data], laidTests := true, laidLooks := .later }
def UniqMeansCardSaid : Prop := Claim7.holds Tryd.pinned (.plain (OpenSpec.ofChange uniqMeansSpec)) uniqMeansCard

/-- THE TIED CARD OF 'penstocklaw09.UniqHolds'. -/
def uniqHoldsCard : Claim7 := { stood := { row := uniqHoldsRow, standIns := [], harness := (true, "27558fdb80e59bf554cd132bb39b7dadfb5855baa3683c2e3a2863239af7c31e"), looks := false }, kinds := [], alts := [], laidByText := true, laidKinds := [.data, .data, .data, .data], laidTests := true, laidLooks := .later }
def UniqHoldsCardSaid : Prop := Claim7.holds Tryd.pinned (.plain (OpenSpec.ofChange uniqHoldsSpec)) uniqHoldsCard

/-- THE TIED CARD OF 'penstocklaw09.UniqRefuses'. -/
def uniqRefusesCard : Claim7 := { stood := { row := uniqRefusesRow, standIns := [], harness := (true, "27558fdb80e59bf554cd132bb39b7dadfb5855baa3683c2e3a2863239af7c31e"), looks := false }, kinds := [], alts := [], laidByText := true, laidKinds := [.data, .data, .data, .data], laidTests := true, laidLooks := .later }
def UniqRefusesCardSaid : Prop := Claim7.holds Tryd.pinned (.plain (OpenSpec.ofChange uniqRefusesSpec)) uniqRefusesCard

/-- THE TIED CARD OF 'penstocklaw09.UniqChunks'. -/
def uniqChunksCard : Claim7 := { stood := { row := uniqChunksRow, standIns := [], harness := (true, "27558fdb80e59bf554cd132bb39b7dadfb5855baa3683c2e3a2863239af7c31e"), looks := false }, kinds := [], alts := [], laidByText := true, laidKinds := [.data, .data, .data, .data], laidTests := true, laidLooks := .later }
def UniqChunksCardSaid : Prop := Claim7.holds Tryd.pinned (.plain (OpenSpec.ofChange uniqChunksSpec)) uniqChunksCard

/-- THE TIED CARD OF 'penstocklaw09.UniqGrows'. -/
def uniqGrowsCard : Claim7 := { stood := { row := uniqGrowsRow, standIns := [], harness := (true, "27558fdb80e59bf554cd132bb39b7dadfb5855baa3683c2e3a2863239af7c31e"), looks := false }, kinds := [], alts := [], laidByText := true, laidKinds := [.data, .data, .data, .data], laidTests := true, laidLooks := .later }
def UniqGrowsCardSaid : Prop := Claim7.holds Tryd.pinned (.plain (OpenSpec.ofChange uniqGrowsSpec)) uniqGrowsCard

/-- THE TIED CARD OF 'penstocklaw09.UniqAlike'. -/
def uniqAlikeCard : Claim7 := { stood := { row := uniqAlikeRow, standIns := [], harness := (true, "27558fdb80e59bf554cd132bb39b7dadfb5855baa3683c2e3a2863239af7c31e"), looks := false }, kinds := [], alts := [], laidByText := true, laidKinds := [.data, .data, .data, .data], laidTests := true, laidLooks := .later }
def UniqAlikeCardSaid : Prop := Claim7.holds Tryd.pinned (.plain (OpenSpec.ofChange uniqAlikeSpec)) uniqAlikeCard

/-- THE SECOND FORM's CARD OF 'penstocklaw09.UniqMakes'. -/
def uniqMakesUptoCard : Claim7 := { stood := { row := uniqMakesUptoRow, standIns := [], harness := (true, "27558fdb80e59bf554cd132bb39b7dadfb5855baa3683c2e3a2863239af7c31e"), looks := false }, kinds := [], alts := [], laidByText := true, laidKinds := [.data, .data, .data, .data], laidTests := true, laidLooks := .later }
def UniqMakesUptoCardSaid : Prop := Claim7.holds Tryd.pinned (.plain (OpenSpec.upto uniqMakesSpec)) uniqMakesUptoCard

/-- THE SECOND FORM's CARD OF 'penstocklaw09.UniqMeans'. -/
def uniqMeansUptoCard : Claim7 := { stood := { row := uniqMeansUptoRow, standIns := [], harness := (true, "27558fdb80e59bf554cd132bb39b7dadfb5855baa3683c2e3a2863239af7c31e"), looks := false }, kinds := [], alts := [], laidByText := true, laidKinds := [.data, .data, .data, .data], laidTests := true, laidLooks := .later }
def UniqMeansUptoCardSaid : Prop := Claim7.holds Tryd.pinned (.plain (OpenSpec.upto uniqMeansSpec)) uniqMeansUptoCard

/-- THE SECOND FORM's CARD OF 'penstocklaw09.UniqHolds'. -/
def uniqHoldsUptoCard : Claim7 := { stood := { row := uniqHoldsUptoRow, standIns := [], harness := (true, "27558fdb80e59bf554cd132bb39b7dadfb5855baa3683c2e3a2863239af7c31e"), looks := false }, kinds := [], alts := [], laidByText := true, laidKinds := [.data, .data, .data, .data], laidTests := true, laidLooks := .later }
def UniqHoldsUptoCardSaid : Prop := Claim7.holds Tryd.pinned (.plain (OpenSpec.upto uniqHoldsSpec)) uniqHoldsUptoCard

/-- THE SECOND FORM's CARD OF 'penstocklaw09.UniqRefuses'. -/
def uniqRefusesUptoCard : Claim7 := { stood := { row := uniqRefusesUptoRow, standIns := [], harness := (true, "27558fdb80e59bf554cd132bb39b7dadfb5855baa3683c2e3a2863239af7c31e"), looks := false }, kinds := [], alts := [], laidByText := true, laidKinds := [.data, .data, .data, .data], laidTests := true, laidLooks := .later }
def UniqRefusesUptoCardSaid : Prop := Claim7.holds Tryd.pinned (.plain (OpenSpec.upto uniqRefusesSpec)) uniqRefusesUptoCard

/-- THE SECOND FORM's CARD OF 'penstocklaw09.UniqChunks'. -/
def uniqChunksUptoCard : Claim7 := { stood := { row := uniqChunksUptoRow, standIns := [], harness := (true, "27558fdb80e59bf554cd132bb39b7dadfb5855baa3683c2e3a2863239af7c31e"), looks := false }, kinds := [], alts := [], laidByText := true, laidKinds := [.data, .data, .data, .data], laidTests := true, laidLooks := .later }
def UniqChunksUptoCardSaid : Prop := Claim7.holds Tryd.pinned (.plain (OpenSpec.upto uniqChunksSpec)) uniqChunksUptoCard

/-- THE SECOND FORM's CARD OF 'penstocklaw09.UniqGrows'. -/
def uniqGrowsUptoCard : Claim7 := { stood := { row := uniqGrowsUptoRow, standIns := [], harness := (true, "27558fdb80e59bf554cd132bb39b7dadfb5855baa3683c2e3a2863239af7c31e"), looks := false }, kinds := [], alts := [], laidByText := true, laidKinds := [.data, .data, .data, .data], laidTests := true, laidLooks := .later }
def UniqGrowsUptoCardSaid : Prop := Claim7.holds Tryd.pinned (.plain (OpenSpec.upto uniqGrowsSpec)) uniqGrowsUptoCard

/-- THE SECOND FORM's CARD OF 'penstocklaw09.UniqAlike'. -/
def uniqAlikeUptoCard : Claim7 := { stood := { row := uniqAlikeUptoRow, standIns := [], harness := (true, "27558fdb80e59bf554cd132bb39b7dadfb5855baa3683c2e3a2863239af7c31e"), looks := false }, kinds := [], alts := [], laidByText := true, laidKinds := [.data, .data, .data, .data], laidTests := true, laidLooks := .later }
def UniqAlikeUptoCardSaid : Prop := Claim7.holds Tryd.pinned (.plain (OpenSpec.upto uniqAlikeSpec)) uniqAlikeUptoCard
end Rows
end Go.Proofs.YtmmhpjhmobhdiaaDoor
