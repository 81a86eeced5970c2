/-
  DERIVED. GIVEN WITH THE SEED: THE CARDS: each row of YtgcnkagieedebaaDoorRows.lean that lists a variable, with what it lists TIED to the program's text (the seventh form; the later family's looks); each row that meets fmt, with fmt's text TOLD by the authors' own Lean function (tested against real Go, not proved from fmt's source: count such statements apart). THE CARD IS WHAT COUNTS. Prove the row's statement (the work); the ties are given (YtgcnkagieedebaaDoorTie.lean); close each card by the builder's one call (the guide's Derived/Test/ToyasCard.lean, 'card_holds'). Laid BY PROGRAM, IN A SANDBOX (cutbox-door.mjs). By AI agents, Wed Nov 11 2026. No macro, syntax, notation, axiom, sorry.
-/
import Derived.Test.YtgcnkagieedebaaDoorRows
import GoSem.ClaimSeven
namespace Go.Proofs.YtgcnkagieedebaaDoor
namespace Rows

/-- THE TIED CARD OF 'penstocklaw08.FieldsMakes'. -/
def fieldsMakesCard : Claim7 := { stood := { row := fieldsMakesRow, standIns := [], harness := (true, "c5769c625617333340681ff760f73e450d0d78a78daf80ac0988718837370166"), looks := false }, kinds := [], alts := [], laidByText := true, laidKinds := [.data, .data, .pinned], laidTests := true, laidLooks := .later }
def FieldsMakesCardSaid : Prop := Claim7.holds Tryd.pinned (.plain (OpenSpec.ofChange fieldsMakesSpec)) fieldsMakesCard

/-- THE TIED CARD OF 'penstocklaw08.FieldsMeans'. -/
def fieldsMeansCard : Claim7 := { stood := { row := fieldsMeansRow, standIns := [], harness := (true, "c5769c625617333340681ff760f73e450d0d78a78daf80ac0988718837370166"), looks := false }, kinds := [], alts := [], laidByText := true, laidKinds := [.data, .data, .pinned], laidTests := true, laidLooks := .later }
def FieldsMeansCardSaid : Prop := Claim7.holds Tryd.pinned (.plain (OpenSpec.ofChange fieldsMeansSpec)) fieldsMeansCard

/-- THE TIED CARD OF 'penstocklaw08.FieldsHolds'. -/
def fieldsHoldsCard : Claim7 := { stood := { row := fieldsHoldsRow, standIns := [], harness := (true, "c5769c625617333340681ff760f73e450d0d78a78daf80ac0988718837370166"), looks := false }, kinds := [], alts := [], laidByText := true, laidKinds := [.data, .data, .pinned], laidTests := true, laidLooks := .later }
def FieldsHoldsCardSaid : Prop := Claim7.holds Tryd.pinned (.plain (OpenSpec.ofChange fieldsHoldsSpec)) fieldsHoldsCard

/-- THE TIED CARD OF 'penstocklaw08.FieldsRefuses'. -/
def fieldsRefusesCard : Claim7 := { stood := { row := fieldsRefusesRow, standIns := [], harness := (true, "c5769c625617333340681ff760f73e450d0d78a78daf80ac0988718837370166"), looks := false }, kinds := [], alts := [], laidByText := true, laidKinds := [.data, .data, .pinned], laidTests := true, laidLooks := .later }
def FieldsRefusesCardSaid : Prop := Claim7.holds Tryd.pinned (.plain (OpenSpec.ofChange fieldsRefusesSpec)) fieldsRefusesCard

/-- THE TIED CARD OF 'penstocklaw08.FieldsChunks'. -/
def fieldsChunksCard : Claim7 := { stood := { row := fieldsChunksRow, standIns := [], harness := (true, "c5769c625617333340681ff760f73e450d0d78a78daf80ac0988718837370166"), looks := false }, kinds := [], alts := [], laidByText := true, laidKinds := [.data, .data, .pinned], laidTests := true, laidLooks := .later }
def FieldsChunksCardSaid : Prop := Claim7.holds Tryd.pinned (.plain (OpenSpec.ofChange fieldsChunksSpec)) fieldsChunksCard

/-- THE TIED CARD OF 'penstocklaw08.FieldsGrows'. -/
def fieldsGrowsCard : Claim7 := { stood := { row := fieldsGrowsRow, standIns := [], harness := (true, "c5769c625617333340681ff760f73e450d0d78a78daf80ac0988718837370166"), looks := false }, kinds := [], alts := [], laidByText := true, laidKinds := [.data, .data, .pinned], laidTests := true, laidLooks := .later }
def FieldsGrowsCardSaid : Prop := Claim7.holds Tryd.pinned (.plain (OpenSpec.ofChange fieldsGrowsSpec)) fieldsGrowsCard

/-- THE TIED CARD OF 'penstocklaw08.FieldsParts'. -/
def fieldsPartsCard : Claim7 := { stood := { row := fieldsPartsRow, standIns := [], harness := (true, "c5769c625617333340681ff760f73e450d0d78a78daf80ac0988718837370166"), looks := false }, kinds := [], alts := [], laidByText := true, laidKinds := [.data, .data, .pinned], laidTests := true, laidLooks := .later }
def FieldsPartsCardSaid : Prop := Claim7.holds Tryd.pinned (.plain (OpenSpec.ofChange fieldsPartsSpec)) fieldsPartsCard

/-- THE SECOND FORM's CARD OF 'penstocklaw08.FieldsMakes'. -/
def fieldsMakesUptoCard : Claim7 := { stood := { row := fieldsMakesUptoRow, standIns := [], harness := (true, "c5769c625617333340681ff760f73e450d0d78a78daf80ac0988718837370166"), looks := false }, kinds := [], alts := [], laidByText := true, laidKinds := [.data, .data, .pinned], laidTests := true, laidLooks := .later }
def FieldsMakesUptoCardSaid : Prop := Claim7.holds Tryd.pinned (.plain (OpenSpec.upto fieldsMakesSpec)) fieldsMakesUptoCard

/-- THE SECOND FORM's CARD OF 'penstocklaw08.FieldsMeans'. -/
def fieldsMeansUptoCard : Claim7 := { stood := { row := fieldsMeansUptoRow, standIns := [], harness := (true, "c5769c625617333340681ff760f73e450d0d78a78daf80ac0988718837370166"), looks := false }, kinds := [], alts := [], laidByText := true, laidKinds := [.data, .data, .pinned], laidTests := true, laidLooks := .later }
def FieldsMeansUptoCardSaid : Prop := Claim7.holds Tryd.pinned (.plain (OpenSpec.upto fieldsMeansSpec)) fieldsMeansUptoCard

/-- THE SECOND FORM's CARD OF 'penstocklaw08.FieldsHolds'. -/
def fieldsHoldsUptoCard : Claim7 := { stood := { row := fieldsHoldsUptoRow, standIns := [], harness := (true, "c5769c625617333340681ff760f73e450d0d78a78daf80ac0988718837370166"), looks := false }, kinds := [], alts := [], laidByText := true, laidKinds := [.data, .data, .pinned], laidTests := true, laidLooks := .later }
def FieldsHoldsUptoCardSaid : Prop := Claim7.holds Tryd.pinned (.plain (OpenSpec.upto fieldsHoldsSpec)) fieldsHoldsUptoCard

/-- THE SECOND FORM's CARD OF 'penstocklaw08.FieldsRefuses'. -/
def fieldsRefusesUptoCard : Claim7 := { stood := { row := fieldsRefusesUptoRow, standIns := [], harness := (true, "c5769c625617333340681ff760f73e450d0d78a78daf80ac0988718837370166"), looks := false }, kinds := [], alts := [], laidByText := true, laidKinds := [.data, .data, .pinned], laidTests := true, laidLooks := .later }
def FieldsRefusesUptoCardSaid : Prop := Claim7.holds Tryd.pinned (.plain (OpenSpec.upto fieldsRefusesSpec)) fieldsRefusesUptoCard

/-- THE SECOND FORM's CARD OF 'penstocklaw08.FieldsChunks'. -/
def fieldsChunksUptoCard : Claim7 := { stood := { row := fieldsChunksUptoRow, standIns := [], harness := (true, "c5769c625617333340681ff760f73e450d0d78a78daf80ac0988718837370166"), looks := false }, kinds := [], alts := [], laidByText := true, laidKinds := [.data, .data, .pinned], laidTests := true, laidLooks := .later }
def FieldsChunksUptoCardSaid : Prop := Claim7.holds Tryd.pinned (.plain (OpenSpec.upto fieldsChunksSpec)) fieldsChunksUptoCard

/-- THE SECOND FORM's CARD OF 'penstocklaw08.FieldsGrows'. -/
def fieldsGrowsUptoCard : Claim7 := { stood := { row := fieldsGrowsUptoRow, standIns := [], harness := (true, "c5769c625617333340681ff760f73e450d0d78a78daf80ac0988718837370166"), looks := false }, kinds := [], alts := [], laidByText := true, laidKinds := [.data, .data, .pinned], laidTests := true, laidLooks := .later }
def FieldsGrowsUptoCardSaid : Prop := Claim7.holds Tryd.pinned (.plain (OpenSpec.upto fieldsGrowsSpec)) fieldsGrowsUptoCard

/-- THE SECOND FORM's CARD OF 'penstocklaw08.FieldsParts'. -/
def fieldsPartsUptoCard : Claim7 := { stood := { row := fieldsPartsUptoRow, standIns := [], harness := (true, "c5769c625617333340681ff760f73e450d0d78a78daf80ac0988718837370166"), looks := false }, kinds := [], alts := [], laidByText := true, laidKinds := [.data, .data, .pinned], laidTests := true, laidLooks := .later }
def FieldsPartsUptoCardSaid : Prop := Claim7.holds Tryd.pinned (.plain (OpenSpec.upto fieldsPartsSpec)) fieldsPartsUptoCard
end Rows
end Go.Proofs.YtgcnkagieedebaaDoor
