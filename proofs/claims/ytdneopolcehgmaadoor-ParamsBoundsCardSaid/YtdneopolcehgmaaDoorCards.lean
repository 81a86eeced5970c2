/-
  DERIVED. GIVEN WITH THE SEED: THE CARDS: each row of YtdneopolcehgmaaDoorRows.lean that lists a variable, with what it lists TIED to the program's text (the seventh form; the later family's looks); each row that meets fmt, with fmt's text TOLD by the authors' own Lean function (tested against real Go, not proved from fmt's source: count such statements apart). THE CARD IS WHAT COUNTS. Prove the row's statement (the work); the ties are given (YtdneopolcehgmaaDoorTie.lean); close each card by the builder's one call (the guide's Derived/Test/ToyasCard.lean, 'card_holds'). Laid BY PROGRAM, IN A SANDBOX (cutbox-door.mjs). By AI agents, Wed Nov 11 2026. No macro, syntax, notation, axiom, sorry.
-/
import Derived.Test.YtdneopolcehgmaaDoorRows
import GoSem.ClaimSeven
namespace Go.Proofs.YtdneopolcehgmaaDoor
namespace Rows

/-- THE TIED CARD OF 'penstocklaw03.ParamsCheck'. -/
def paramsCheckCard : Claim7 := { stood := { row := paramsCheckRow, standIns := [], harness := (true, "10229e14fb094b38576a60ff0f999f32b1e16dcd62a6515b5c08afac3cb87502"), looks := false }, kinds := [], alts := [], laidByText := true, laidKinds := [.data], laidTests := true, laidLooks := .later }
def ParamsCheckCardSaid : Prop := Claim7.holds Tryd.pinned (.plain (OpenSpec.ofChange paramsCheckSpec)) paramsCheckCard

/-- THE TIED CARD OF 'penstocklaw03.ParamsTells'. -/
def paramsTellsCard : Claim7 := { stood := { row := paramsTellsRow, standIns := [], harness := (true, "10229e14fb094b38576a60ff0f999f32b1e16dcd62a6515b5c08afac3cb87502"), looks := false }, kinds := [], alts := [], laidByText := true, laidKinds := [.data], laidTests := true, laidLooks := .later }
def ParamsTellsCardSaid : Prop := Claim7.holds Tryd.pinned (.plain (OpenSpec.ofChange paramsTellsSpec)) paramsTellsCard

/-- THE TIED CARD OF 'penstocklaw03.ParamsSame'. -/
def paramsSameCard : Claim7 := { stood := { row := paramsSameRow, standIns := [], harness := (true, "10229e14fb094b38576a60ff0f999f32b1e16dcd62a6515b5c08afac3cb87502"), looks := false }, kinds := [], alts := [], laidByText := true, laidKinds := [.data], laidTests := true, laidLooks := .later }
def ParamsSameCardSaid : Prop := Claim7.holds Tryd.pinned (.plain (OpenSpec.ofChange paramsSameSpec)) paramsSameCard

/-- THE TIED CARD OF 'penstocklaw03.ParamsBounds'. -/
def paramsBoundsCard : Claim7 := { stood := { row := paramsBoundsRow, standIns := [], harness := (true, "10229e14fb094b38576a60ff0f999f32b1e16dcd62a6515b5c08afac3cb87502"), looks := false }, kinds := [], alts := [], laidByText := true, laidKinds := [.data], laidTests := true, laidLooks := .later }
def ParamsBoundsCardSaid : Prop := Claim7.holds Tryd.pinned (.plain (OpenSpec.ofChange paramsBoundsSpec)) paramsBoundsCard

/-- THE SECOND FORM's CARD OF 'penstocklaw03.ParamsCheck'. -/
def paramsCheckUptoCard : Claim7 := { stood := { row := paramsCheckUptoRow, standIns := [], harness := (true, "10229e14fb094b38576a60ff0f999f32b1e16dcd62a6515b5c08afac3cb87502"), looks := false }, kinds := [], alts := [], laidByText := true, laidKinds := [.data], laidTests := true, laidLooks := .later }
def ParamsCheckUptoCardSaid : Prop := Claim7.holds Tryd.pinned (.plain (OpenSpec.upto paramsCheckSpec)) paramsCheckUptoCard

/-- THE SECOND FORM's CARD OF 'penstocklaw03.ParamsTells'. -/
def paramsTellsUptoCard : Claim7 := { stood := { row := paramsTellsUptoRow, standIns := [], harness := (true, "10229e14fb094b38576a60ff0f999f32b1e16dcd62a6515b5c08afac3cb87502"), looks := false }, kinds := [], alts := [], laidByText := true, laidKinds := [.data], laidTests := true, laidLooks := .later }
def ParamsTellsUptoCardSaid : Prop := Claim7.holds Tryd.pinned (.plain (OpenSpec.upto paramsTellsSpec)) paramsTellsUptoCard

/-- THE SECOND FORM's CARD OF 'penstocklaw03.ParamsSame'. -/
def paramsSameUptoCard : Claim7 := { stood := { row := paramsSameUptoRow, standIns := [], harness := (true, "10229e14fb094b38576a60ff0f999f32b1e16dcd62a6515b5c08afac3cb87502"), looks := false }, kinds := [], alts := [], laidByText := true, laidKinds := [.data], laidTests := true, laidLooks := .later }
def ParamsSameUptoCardSaid : Prop := Claim7.holds Tryd.pinned (.plain (OpenSpec.upto paramsSameSpec)) paramsSameUptoCard

/-- THE SECOND FORM's CARD OF 'penstocklaw03.ParamsBounds'. -/
def paramsBoundsUptoCard : Claim7 := { stood := { row := paramsBoundsUptoRow, standIns := [], harness := (true, "10229e14fb094b38576a60ff0f999f32b1e16dcd62a6515b5c08afac3cb87502"), looks := false }, kinds := [], alts := [], laidByText := true, laidKinds := [.data], laidTests := true, laidLooks := .later }
def ParamsBoundsUptoCardSaid : Prop := Claim7.holds Tryd.pinned (.plain (OpenSpec.upto paramsBoundsSpec)) paramsBoundsUptoCard
end Rows
end Go.Proofs.YtdneopolcehgmaaDoor
