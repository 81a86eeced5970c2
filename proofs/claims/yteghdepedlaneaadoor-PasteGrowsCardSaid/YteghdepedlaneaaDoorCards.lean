/-
  DERIVED. GIVEN WITH THE SEED: THE CARDS: each row of YteghdepedlaneaaDoorRows.lean that lists a variable, with what it lists TIED to the program's text (the seventh form; the later family's looks); each row that meets fmt, with fmt's text TOLD by the authors' own Lean function (tested against real Go, not proved from fmt's source: count such statements apart). THE CARD IS WHAT COUNTS. Prove the row's statement (the work); the ties are given (YteghdepedlaneaaDoorTie.lean); close each card by the builder's one call (the guide's Derived/Test/ToyasCard.lean, 'card_holds'). Laid BY PROGRAM, IN A SANDBOX (cutbox-door.mjs). By AI agents, Wed Nov 11 2026. No macro, syntax, notation, axiom, sorry.
-/
import Derived.Test.YteghdepedlaneaaDoorRows
import GoSem.ClaimSeven
namespace Go.Proofs.YteghdepedlaneaaDoor
namespace Rows

/-- THE TIED CARD OF 'penstocklaw13.PasteMakes'. -/
def pasteMakesCard : Claim7 := { stood := { row := pasteMakesRow, standIns := [], harness := (true, "44d3ba11a8660ac47e0a4b5538c8bea45c2256c51af7465d916c563309f0d02a"), looks := false }, kinds := [], alts := [], laidByText := true, laidKinds := [.data], laidTests := true, laidLooks := .later }
def PasteMakesCardSaid : Prop := Claim7.holds Tryd.pinned (.plain (OpenSpec.ofChange pasteMakesSpec)) pasteMakesCard

/-- THE TIED CARD OF 'penstocklaw13.PasteMeans'. -/
def pasteMeansCard : Claim7 := { stood := { row := pasteMeansRow, standIns := [], harness := (true, "44d3ba11a8660ac47e0a4b5538c8bea45c2256c51af7465d916c563309f0d02a"), looks := false }, kinds := [], alts := [], laidByText := true, laidKinds := [.data], laidTests := true, laidLooks := .later }
def PasteMeansCardSaid : Prop := Claim7.holds Tryd.pinned (.plain (OpenSpec.ofChange pasteMeansSpec)) pasteMeansCard

/-- THE TIED CARD OF 'penstocklaw13.PasteHolds'. -/
def pasteHoldsCard : Claim7 := { stood := { row := pasteHoldsRow, standIns := [], harness := (true, "44d3ba11a8660ac47e0a4b5538c8bea45c2256c51af7465d916c563309f0d02a"), looks := false }, kinds := [], alts := [], laidByText := true, laidKinds := [.data], laidTests := true, laidLooks := .later }
def PasteHoldsCardSaid : Prop := Claim7.holds Tryd.pinned (.plain (OpenSpec.ofChange pasteHoldsSpec)) pasteHoldsCard

/-- THE TIED CARD OF 'penstocklaw13.PasteRefuses'. -/
def pasteRefusesCard : Claim7 := { stood := { row := pasteRefusesRow, standIns := [], harness := (true, "44d3ba11a8660ac47e0a4b5538c8bea45c2256c51af7465d916c563309f0d02a"), looks := false }, kinds := [], alts := [], laidByText := true, laidKinds := [.data], laidTests := true, laidLooks := .later }
def PasteRefusesCardSaid : Prop := Claim7.holds Tryd.pinned (.plain (OpenSpec.ofChange pasteRefusesSpec)) pasteRefusesCard

/-- THE TIED CARD OF 'penstocklaw13.PasteChunks'. -/
def pasteChunksCard : Claim7 := { stood := { row := pasteChunksRow, standIns := [], harness := (true, "44d3ba11a8660ac47e0a4b5538c8bea45c2256c51af7465d916c563309f0d02a"), looks := false }, kinds := [], alts := [], laidByText := true, laidKinds := [.data], laidTests := true, laidLooks := .later }
def PasteChunksCardSaid : Prop := Claim7.holds Tryd.pinned (.plain (OpenSpec.ofChange pasteChunksSpec)) pasteChunksCard

/-- THE TIED CARD OF 'penstocklaw13.PasteGrows'. -/
def pasteGrowsCard : Claim7 := { stood := { row := pasteGrowsRow, standIns := [], harness := (true, "44d3ba11a8660ac47e0a4b5538c8bea45c2256c51af7465d916c563309f0d02a"), looks := false }, kinds := [], alts := [], laidByText := true, laidKinds := [.data], laidTests := true, laidLooks := .later }
def PasteGrowsCardSaid : Prop := Claim7.holds Tryd.pinned (.plain (OpenSpec.ofChange pasteGrowsSpec)) pasteGrowsCard

/-- THE TIED CARD OF 'penstocklaw13.PasteColumns'. -/
def pasteColumnsCard : Claim7 := { stood := { row := pasteColumnsRow, standIns := [], harness := (true, "44d3ba11a8660ac47e0a4b5538c8bea45c2256c51af7465d916c563309f0d02a"), looks := false }, kinds := [], alts := [], laidByText := true, laidKinds := [.data], laidTests := true, laidLooks := .later }
def PasteColumnsCardSaid : Prop := Claim7.holds Tryd.pinned (.plain (OpenSpec.ofChange pasteColumnsSpec)) pasteColumnsCard

/-- THE SECOND FORM's CARD OF 'penstocklaw13.PasteMakes'. -/
def pasteMakesUptoCard : Claim7 := { stood := { row := pasteMakesUptoRow, standIns := [], harness := (true, "44d3ba11a8660ac47e0a4b5538c8bea45c2256c51af7465d916c563309f0d02a"), looks := false }, kinds := [], alts := [], laidByText := true, laidKinds := [.data], laidTests := true, laidLooks := .later }
def PasteMakesUptoCardSaid : Prop := Claim7.holds Tryd.pinned (.plain (OpenSpec.upto pasteMakesSpec)) pasteMakesUptoCard

/-- THE SECOND FORM's CARD OF 'penstocklaw13.PasteMeans'. -/
def pasteMeansUptoCard : Claim7 := { stood := { row := pasteMeansUptoRow, standIns := [], harness := (true, "44d3ba11a8660ac47e0a4b5538c8bea45c2256c51af7465d916c563309f0d02a"), looks := false }, kinds := [], alts := [], laidByText := true, laidKinds := [.data], laidTests := true, laidLooks := .later }
def PasteMeansUptoCardSaid : Prop := Claim7.holds Tryd.pinned (.plain (OpenSpec.upto pasteMeansSpec)) pasteMeansUptoCard

/-- THE SECOND FORM's CARD OF 'penstocklaw13.PasteHolds'. -/
def pasteHoldsUptoCard : Claim7 := { stood := { row := pasteHoldsUptoRow, standIns := [], harness := (true, "44d3ba11a8660ac47e0a4b5538c8bea45c2256c51af7465d916c563309f0d02a"), looks := false }, kinds := [], alts := [], laidByText := true, laidKinds := [.data], laidTests := true, laidLooks := .later }
def PasteHoldsUptoCardSaid : Prop := Claim7.holds Tryd.pinned (.plain (OpenSpec.upto pasteHoldsSpec)) pasteHoldsUptoCard

/-- THE SECOND FORM's CARD OF 'penstocklaw13.PasteRefuses'. -/
def pasteRefusesUptoCard : Claim7 := { stood := { row := pasteRefusesUptoRow, standIns := [], harness := (true, "44d3ba11a8660ac47e0a4b5538c8bea45c2256c51af7465d916c563309f0d02a"), looks := false }, kinds := [], alts := [], laidByText := true, laidKinds := [.data], laidTests := true, laidLooks := .later }
def PasteRefusesUptoCardSaid : Prop := Claim7.holds Tryd.pinned (.plain (OpenSpec.upto pasteRefusesSpec)) pasteRefusesUptoCard

/-- THE SECOND FORM's CARD OF 'penstocklaw13.PasteChunks'. -/
def pasteChunksUptoCard : Claim7 := { stood := { row := pasteChunksUptoRow, standIns := [], harness := (true, "44d3ba11a8660ac47e0a4b5538c8bea45c2256c51af7465d916c563309f0d02a"), looks := false }, kinds := [], alts := [], laidByText := true, laidKinds := [.data], laidTests := true, laidLooks := .later }
def PasteChunksUptoCardSaid : Prop := Claim7.holds Tryd.pinned (.plain (OpenSpec.upto pasteChunksSpec)) pasteChunksUptoCard

/-- THE SECOND FORM's CARD OF 'penstocklaw13.PasteGrows'. -/
def pasteGrowsUptoCard : Claim7 := { stood := { row := pasteGrowsUptoRow, standIns := [], harness := (true, "44d3ba11a8660ac47e0a4b5538c8bea45c2256c51af7465d916c563309f0d02a"), looks := false }, kinds := [], alts := [], laidByText := true, laidKinds := [.data], laidTests := true, laidLooks := .later }
def PasteGrowsUptoCardSaid : Prop := Claim7.holds Tryd.pinned (.plain (OpenSpec.upto pasteGrowsSpec)) pasteGrowsUptoCard

/-- THE SECOND FORM's CARD OF 'penstocklaw13.PasteColumns'. -/
def pasteColumnsUptoCard : Claim7 := { stood := { row := pasteColumnsUptoRow, standIns := [], harness := (true, "44d3ba11a8660ac47e0a4b5538c8bea45c2256c51af7465d916c563309f0d02a"), looks := false }, kinds := [], alts := [], laidByText := true, laidKinds := [.data], laidTests := true, laidLooks := .later }
def PasteColumnsUptoCardSaid : Prop := Claim7.holds Tryd.pinned (.plain (OpenSpec.upto pasteColumnsSpec)) pasteColumnsUptoCard
end Rows
end Go.Proofs.YteghdepedlaneaaDoor
