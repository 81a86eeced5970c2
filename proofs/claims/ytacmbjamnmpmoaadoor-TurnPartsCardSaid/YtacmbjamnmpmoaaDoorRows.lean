/-
  NARROWER THAN 'FOR EVERY INPUT', by the rows' own cells (each row's printed sentence says how): TurnMakes: laid · TurnMeans: laid · TurnHolds: laid · TurnRefuses: laid · TurnChunks: laid · TurnGrows: laid · TurnParts: laid.
  DERIVED. THE GIVEN ROWS OF THIS SEAT. 7 by the template 'for every input the law returns true; each argument reads behind the call as it read before'; 0 by the template 'total and deterministic' (their statements: YtacmbjamnmpmoaaDoorTotals.lean).
  GIVEN WITH THE SEED: the statements are not yours to turn. If you find one false, say at which input.
  Laid BY PROGRAM, IN A SANDBOX (cutbox-rows.mjs): the forced cells as the released guide's own fill.sh prints them over the translation 4a0e889508f4af5e… (all of the seat's roots in one cut). By AI agents, Wed Nov 11 2026. No macro, syntax, notation, axiom, sorry.
-/
import Derived.Test.YtacmbjamnmpmoaaDoorChecked
import GoSem.Claim
import GoSem.ClaimJoined
import GoSem.ClaimMapViews
import Derived.JoinedTies
import Derived.KernelRfl
namespace Go.Proofs.YtacmbjamnmpmoaaDoor
/- THE CELL 'sum', in the pinned program and in every row, IS THE sha256 OF THE DUMP (.gsa) THAT YtacmbjamnmpmoaaDoorProg.lean LOADS. Nothing in Lean hashes anything: it is a label: what it is worth is what the hold of that sum in a sandbox is worth. -/
noncomputable def Tryd.pinned : Pinned := { name := "ytacmbjamnmpmoaadoor", sum := "4a0e889508f4af5ef63c80dc65461dfbe9342689ea492a31d109a3ca472571fe", checked := Tryd.checked }
namespace Rows
def none {H : Type} : Left H := { results := [], args := [] }

/- WHAT THE LISTED PACKAGE-LEVEL VARIABLES READ AS WHEN THE CALL BEGINS. Each datum BY PROGRAM (the guide's laid-datum.mjs) off the statement by which the dump's own 'gosem.cut.vars' lays the variable. In a bare row this is a premise. The card (YtacmbjamnmpmoaaDoorCards.lean) ties it to the program's text. -/
def laid_penstock_params_rows {H : Type} : DataW H := .agg [.agg [.lit (.int .i64 0), .lit (.int .i64 0), .lit (.int .i64 0), .lit (.int .i64 0), .lit (.int .i64 0), .lit (.int .i64 0), .lit (.int .i64 0)], .agg [.lit (.int .i64 0), .lit (.int .i64 15), .lit (.int .i64 0), .lit (.int .i64 0), .lit (.int .i64 1), .lit (.int .i64 0), .lit (.int .i64 0)], .agg [.lit (.int .i64 0), .lit (.int .i64 15), .lit (.int .i64 0), .lit (.int .i64 1), .lit (.int .i64 0), .lit (.int .i64 0), .lit (.int .i64 0)], .agg [.lit (.int .i64 0), .lit (.int .i64 1000000000), .lit (.int .i64 0), .lit (.int .i64 1), .lit (.int .i64 1), .lit (.int .i64 64), .lit (.int .i64 0)], .agg [.lit (.int .i64 0), .lit (.int .i64 9223372036854775807), .lit (.int .i64 0), .lit (.int .i64 1), .lit (.int .i64 1), .lit (.int .i64 64), .lit (.int .i64 64)], .agg [.lit (.int .i64 0), .lit (.int .i64 1), .lit (.int .i64 2), .lit (.int .i64 1), .lit (.int .i64 1), .lit (.int .i64 64), .lit (.int .i64 0)], .agg [.lit (.int .i64 0), .lit (.int .i64 0), .lit (.int .i64 3), .lit (.int .i64 1), .lit (.int .i64 1), .lit (.int .i64 0), .lit (.int .i64 0)], .agg [.lit (.int .i64 1), .lit (.int .i64 65535), .lit (.int .i64 1), .lit (.int .i64 1), .lit (.int .i64 1), .lit (.int .i64 64), .lit (.int .i64 0)], .agg [.lit (.int .i64 0), .lit (.int .i64 1), .lit (.int .i64 0), .lit (.int .i64 1), .lit (.int .i64 1), .lit (.int .i64 128), .lit (.int .i64 0)], .agg [.lit (.int .i64 0), .lit (.int .i64 0), .lit (.int .i64 0), .lit (.int .i64 1), .lit (.int .i64 1), .lit (.int .i64 0), .lit (.int .i64 0)], .agg [.lit (.int .i64 0), .lit (.int .i64 1000000000), .lit (.int .i64 0), .lit (.int .i64 1), .lit (.int .i64 1), .lit (.int .i64 64), .lit (.int .i64 0)], .agg [.lit (.int .i64 0), .lit (.int .i64 1), .lit (.int .i64 0), .lit (.int .i64 1), .lit (.int .i64 1), .lit (.int .i64 320), .lit (.int .i64 0)], .agg [.lit (.int .i64 1), .lit (.int .i64 4), .lit (.int .i64 0), .lit (.int .i64 (-1)), .lit (.int .i64 1), .lit (.int .i64 0), .lit (.int .i64 0)], .agg [.lit (.int .i64 1), .lit (.int .i64 4), .lit (.int .i64 1), .lit (.int .i64 (-1)), .lit (.int .i64 1), .lit (.int .i64 0), .lit (.int .i64 96)], .agg [.lit (.int .i64 1), .lit (.int .i64 9223372036854775807), .lit (.int .i64 1), .lit (.int .i64 2), .lit (.int .i64 1), .lit (.int .i64 192), .lit (.int .i64 128)], .agg [.lit (.int .i64 1), .lit (.int .i64 4), .lit (.int .i64 0), .lit (.int .i64 1), .lit (.int .i64 (-1)), .lit (.int .i64 0), .lit (.int .i64 0)], .agg [.lit (.int .i64 1), .lit (.int .i64 4), .lit (.int .i64 0), .lit (.int .i64 1), .lit (.int .i64 (-1)), .lit (.int .i64 64), .lit (.int .i64 0)]]

/-- 'penstocklaw07.TurnMakes': WHATEVER THE INPUT: true; the input reads as it did. -/
def turnMakesSpec : ChangeSpec := { name := "turnMakes", fn := fun _ => fun
  | [d] => { results := [.lit (.bool true)], args := [d] }
  | _ => none }
def turnMakesRow : OpenClaim := { program := "ytacmbjamnmpmoaadoor", sum := "4a0e889508f4af5ef63c80dc65461dfbe9342689ea492a31d109a3ca472571fe", func := "penstock/penstocklaw07.TurnMakes", spec := "turnMakes", inPlace := ["internal/bytealg.IndexByteString"], unfollowed := true, recurses := true, named := ["penstock/params.rows"], apart := false, laid := [("penstock/params.rows", laid_penstock_params_rows)] }
def TurnMakesSaid : Prop := turnMakesRow.holds Tryd.pinned (OpenSpec.ofChange turnMakesSpec)

/-- ITS FALSE NEIGHBOUR: 'it returns false'. Refute it at one input. -/
def turnMakesWrong : ChangeSpec := { name := "turnMakes", fn := fun _ => fun
  | [d] => { results := [.lit (.bool false)], args := [d] }
  | _ => none }
def TurnMakesWrongFalsely : Prop := turnMakesRow.holds Tryd.pinned (OpenSpec.ofChange turnMakesWrong)

/-- 'penstocklaw07.TurnMeans': WHATEVER THE INPUT: true; the input reads as it did. -/
def turnMeansSpec : ChangeSpec := { name := "turnMeans", fn := fun _ => fun
  | [d1, d2, d3] => { results := [.lit (.bool true)], args := [d1, d2, d3] }
  | _ => none }
def turnMeansRow : OpenClaim := { program := "ytacmbjamnmpmoaadoor", sum := "4a0e889508f4af5ef63c80dc65461dfbe9342689ea492a31d109a3ca472571fe", func := "penstock/penstocklaw07.TurnMeans", spec := "turnMeans", inPlace := ["internal/bytealg.IndexByteString"], unfollowed := true, recurses := true, named := ["penstock/params.rows"], apart := false, laid := [("penstock/params.rows", laid_penstock_params_rows)] }
def TurnMeansSaid : Prop := turnMeansRow.holds Tryd.pinned (OpenSpec.ofChange turnMeansSpec)

/-- ITS FALSE NEIGHBOUR: 'it returns false'. Refute it at one input. -/
def turnMeansWrong : ChangeSpec := { name := "turnMeans", fn := fun _ => fun
  | [d1, d2, d3] => { results := [.lit (.bool false)], args := [d1, d2, d3] }
  | _ => none }
def TurnMeansWrongFalsely : Prop := turnMeansRow.holds Tryd.pinned (OpenSpec.ofChange turnMeansWrong)

/-- 'penstocklaw07.TurnHolds': WHATEVER THE INPUT: true; the input reads as it did. -/
def turnHoldsSpec : ChangeSpec := { name := "turnHolds", fn := fun _ => fun
  | [d1, d2, d3] => { results := [.lit (.bool true)], args := [d1, d2, d3] }
  | _ => none }
def turnHoldsRow : OpenClaim := { program := "ytacmbjamnmpmoaadoor", sum := "4a0e889508f4af5ef63c80dc65461dfbe9342689ea492a31d109a3ca472571fe", func := "penstock/penstocklaw07.TurnHolds", spec := "turnHolds", inPlace := ["internal/bytealg.IndexByteString"], unfollowed := true, recurses := true, named := ["penstock/params.rows"], apart := false, laid := [("penstock/params.rows", laid_penstock_params_rows)] }
def TurnHoldsSaid : Prop := turnHoldsRow.holds Tryd.pinned (OpenSpec.ofChange turnHoldsSpec)

/-- ITS FALSE NEIGHBOUR: 'it returns false'. Refute it at one input. -/
def turnHoldsWrong : ChangeSpec := { name := "turnHolds", fn := fun _ => fun
  | [d1, d2, d3] => { results := [.lit (.bool false)], args := [d1, d2, d3] }
  | _ => none }
def TurnHoldsWrongFalsely : Prop := turnHoldsRow.holds Tryd.pinned (OpenSpec.ofChange turnHoldsWrong)

/-- 'penstocklaw07.TurnRefuses': WHATEVER THE INPUT: true; the input reads as it did. -/
def turnRefusesSpec : ChangeSpec := { name := "turnRefuses", fn := fun _ => fun
  | [d1, d2, d3, d4, d5] => { results := [.lit (.bool true)], args := [d1, d2, d3, d4, d5] }
  | _ => none }
def turnRefusesRow : OpenClaim := { program := "ytacmbjamnmpmoaadoor", sum := "4a0e889508f4af5ef63c80dc65461dfbe9342689ea492a31d109a3ca472571fe", func := "penstock/penstocklaw07.TurnRefuses", spec := "turnRefuses", inPlace := ["internal/bytealg.IndexByteString"], unfollowed := true, recurses := true, named := ["penstock/params.rows"], apart := false, laid := [("penstock/params.rows", laid_penstock_params_rows)] }
def TurnRefusesSaid : Prop := turnRefusesRow.holds Tryd.pinned (OpenSpec.ofChange turnRefusesSpec)

/-- ITS FALSE NEIGHBOUR: 'it returns false'. Refute it at one input. -/
def turnRefusesWrong : ChangeSpec := { name := "turnRefuses", fn := fun _ => fun
  | [d1, d2, d3, d4, d5] => { results := [.lit (.bool false)], args := [d1, d2, d3, d4, d5] }
  | _ => none }
def TurnRefusesWrongFalsely : Prop := turnRefusesRow.holds Tryd.pinned (OpenSpec.ofChange turnRefusesWrong)

/-- 'penstocklaw07.TurnChunks': WHATEVER THE INPUT: true; the input reads as it did. -/
def turnChunksSpec : ChangeSpec := { name := "turnChunks", fn := fun _ => fun
  | [d1, d2, d3, d4] => { results := [.lit (.bool true)], args := [d1, d2, d3, d4] }
  | _ => none }
def turnChunksRow : OpenClaim := { program := "ytacmbjamnmpmoaadoor", sum := "4a0e889508f4af5ef63c80dc65461dfbe9342689ea492a31d109a3ca472571fe", func := "penstock/penstocklaw07.TurnChunks", spec := "turnChunks", inPlace := ["internal/bytealg.IndexByteString"], unfollowed := true, recurses := true, named := ["penstock/params.rows"], apart := false, laid := [("penstock/params.rows", laid_penstock_params_rows)] }
def TurnChunksSaid : Prop := turnChunksRow.holds Tryd.pinned (OpenSpec.ofChange turnChunksSpec)

/-- ITS FALSE NEIGHBOUR: 'it returns false'. Refute it at one input. -/
def turnChunksWrong : ChangeSpec := { name := "turnChunks", fn := fun _ => fun
  | [d1, d2, d3, d4] => { results := [.lit (.bool false)], args := [d1, d2, d3, d4] }
  | _ => none }
def TurnChunksWrongFalsely : Prop := turnChunksRow.holds Tryd.pinned (OpenSpec.ofChange turnChunksWrong)

/-- 'penstocklaw07.TurnGrows': WHATEVER THE INPUT: true; the input reads as it did. -/
def turnGrowsSpec : ChangeSpec := { name := "turnGrows", fn := fun _ => fun
  | [d1, d2, d3, d4, d5] => { results := [.lit (.bool true)], args := [d1, d2, d3, d4, d5] }
  | _ => none }
def turnGrowsRow : OpenClaim := { program := "ytacmbjamnmpmoaadoor", sum := "4a0e889508f4af5ef63c80dc65461dfbe9342689ea492a31d109a3ca472571fe", func := "penstock/penstocklaw07.TurnGrows", spec := "turnGrows", inPlace := ["internal/bytealg.IndexByteString"], unfollowed := true, recurses := true, named := ["penstock/params.rows"], apart := false, laid := [("penstock/params.rows", laid_penstock_params_rows)] }
def TurnGrowsSaid : Prop := turnGrowsRow.holds Tryd.pinned (OpenSpec.ofChange turnGrowsSpec)

/-- ITS FALSE NEIGHBOUR: 'it returns false'. Refute it at one input. -/
def turnGrowsWrong : ChangeSpec := { name := "turnGrows", fn := fun _ => fun
  | [d1, d2, d3, d4, d5] => { results := [.lit (.bool false)], args := [d1, d2, d3, d4, d5] }
  | _ => none }
def TurnGrowsWrongFalsely : Prop := turnGrowsRow.holds Tryd.pinned (OpenSpec.ofChange turnGrowsWrong)

/-- 'penstocklaw07.TurnParts': WHATEVER THE INPUT: true; the input reads as it did. -/
def turnPartsSpec : ChangeSpec := { name := "turnParts", fn := fun _ => fun
  | [d1, d2, d3, d4] => { results := [.lit (.bool true)], args := [d1, d2, d3, d4] }
  | _ => none }
def turnPartsRow : OpenClaim := { program := "ytacmbjamnmpmoaadoor", sum := "4a0e889508f4af5ef63c80dc65461dfbe9342689ea492a31d109a3ca472571fe", func := "penstock/penstocklaw07.TurnParts", spec := "turnParts", inPlace := ["internal/bytealg.IndexByteString"], unfollowed := true, recurses := true, named := ["penstock/params.rows"], apart := false, laid := [("penstock/params.rows", laid_penstock_params_rows)] }
def TurnPartsSaid : Prop := turnPartsRow.holds Tryd.pinned (OpenSpec.ofChange turnPartsSpec)

/-- ITS FALSE NEIGHBOUR: 'it returns false'. Refute it at one input. -/
def turnPartsWrong : ChangeSpec := { name := "turnParts", fn := fun _ => fun
  | [d1, d2, d3, d4] => { results := [.lit (.bool false)], args := [d1, d2, d3, d4] }
  | _ => none }
def TurnPartsWrongFalsely : Prop := turnPartsRow.holds Tryd.pinned (OpenSpec.ofChange turnPartsWrong)

/- THE SECOND FORM. 'bulk': how many values and letters a reading holds, each counted each time it is reached (what is shared counts as often as it is met; a slice's spare places count too). A statement '..UptoSaid' is the law's where the arguments, and the package variables that the reading takes, are together of bulk at most 1048576: NARROWER than '..Said'. Prove '..Said' where nothing that the law and all that it calls make is longer than what came in: it says more and counts as full. Else prove '..UptoSaid'. A law counts once. -/
mutual
def uptoBulk {H : Type} : DataW H → Nat
  | .lit (.string bytes) => bytes.length + 1
  | .lit _ => 1
  | .nil => 1
  | .ptr d => uptoBulk d + 1
  | .slice elems spare => uptoBulkAll elems + uptoBulkAll spare + 1
  | .agg parts => uptoBulkAll parts + 1
  | .iface _ d => uptoBulk d + 1
  | .map entries => uptoBulkEntries entries + 1
  | .held _ => 1
def uptoBulkAll {H : Type} : List (DataW H) → Nat
  | [] => 0
  | d :: r => uptoBulk d + uptoBulkAll r
def uptoBulkEntries {H : Type} : List (Lit × DataW H) → Nat
  | [] => 0
  | x :: r => uptoBulkEntry x + uptoBulkEntries r
def uptoBulkEntry {H : Type} : Lit × DataW H → Nat
  | (.string bytes, d) => bytes.length + uptoBulk d + 1
  | (_, d) => uptoBulk d + 1
 end
def uptoSmall : (H : Type) → List (DataW H) → Bool := fun _ ds => decide (uptoBulkAll ds ≤ 1048576)
def OpenSpec.upto (s : _root_.Go.ChangeSpec) : _root_.Go.OpenSpec := { _root_.Go.OpenSpec.ofChange s with cond := some uptoSmall }

/-- 'penstocklaw07.TurnMakes', WHERE WHAT IT READS IS OF BULK AT MOST 1048576: true; the input reads as it did. -/
def turnMakesUptoRow : OpenClaim := { program := "ytacmbjamnmpmoaadoor", sum := "4a0e889508f4af5ef63c80dc65461dfbe9342689ea492a31d109a3ca472571fe", func := "penstock/penstocklaw07.TurnMakes", spec := "turnMakes", inPlace := ["internal/bytealg.IndexByteString"], unfollowed := true, recurses := true, named := ["penstock/params.rows"], apart := false, laid := [("penstock/params.rows", laid_penstock_params_rows)], narrowed := true }
def TurnMakesUptoSaid : Prop := turnMakesUptoRow.holds Tryd.pinned (OpenSpec.upto turnMakesSpec)

/-- 'penstocklaw07.TurnMeans', WHERE WHAT IT READS IS OF BULK AT MOST 1048576: true; the input reads as it did. -/
def turnMeansUptoRow : OpenClaim := { program := "ytacmbjamnmpmoaadoor", sum := "4a0e889508f4af5ef63c80dc65461dfbe9342689ea492a31d109a3ca472571fe", func := "penstock/penstocklaw07.TurnMeans", spec := "turnMeans", inPlace := ["internal/bytealg.IndexByteString"], unfollowed := true, recurses := true, named := ["penstock/params.rows"], apart := false, laid := [("penstock/params.rows", laid_penstock_params_rows)], narrowed := true }
def TurnMeansUptoSaid : Prop := turnMeansUptoRow.holds Tryd.pinned (OpenSpec.upto turnMeansSpec)

/-- 'penstocklaw07.TurnHolds', WHERE WHAT IT READS IS OF BULK AT MOST 1048576: true; the input reads as it did. -/
def turnHoldsUptoRow : OpenClaim := { program := "ytacmbjamnmpmoaadoor", sum := "4a0e889508f4af5ef63c80dc65461dfbe9342689ea492a31d109a3ca472571fe", func := "penstock/penstocklaw07.TurnHolds", spec := "turnHolds", inPlace := ["internal/bytealg.IndexByteString"], unfollowed := true, recurses := true, named := ["penstock/params.rows"], apart := false, laid := [("penstock/params.rows", laid_penstock_params_rows)], narrowed := true }
def TurnHoldsUptoSaid : Prop := turnHoldsUptoRow.holds Tryd.pinned (OpenSpec.upto turnHoldsSpec)

/-- 'penstocklaw07.TurnRefuses', WHERE WHAT IT READS IS OF BULK AT MOST 1048576: true; the input reads as it did. -/
def turnRefusesUptoRow : OpenClaim := { program := "ytacmbjamnmpmoaadoor", sum := "4a0e889508f4af5ef63c80dc65461dfbe9342689ea492a31d109a3ca472571fe", func := "penstock/penstocklaw07.TurnRefuses", spec := "turnRefuses", inPlace := ["internal/bytealg.IndexByteString"], unfollowed := true, recurses := true, named := ["penstock/params.rows"], apart := false, laid := [("penstock/params.rows", laid_penstock_params_rows)], narrowed := true }
def TurnRefusesUptoSaid : Prop := turnRefusesUptoRow.holds Tryd.pinned (OpenSpec.upto turnRefusesSpec)

/-- 'penstocklaw07.TurnChunks', WHERE WHAT IT READS IS OF BULK AT MOST 1048576: true; the input reads as it did. -/
def turnChunksUptoRow : OpenClaim := { program := "ytacmbjamnmpmoaadoor", sum := "4a0e889508f4af5ef63c80dc65461dfbe9342689ea492a31d109a3ca472571fe", func := "penstock/penstocklaw07.TurnChunks", spec := "turnChunks", inPlace := ["internal/bytealg.IndexByteString"], unfollowed := true, recurses := true, named := ["penstock/params.rows"], apart := false, laid := [("penstock/params.rows", laid_penstock_params_rows)], narrowed := true }
def TurnChunksUptoSaid : Prop := turnChunksUptoRow.holds Tryd.pinned (OpenSpec.upto turnChunksSpec)

/-- 'penstocklaw07.TurnGrows', WHERE WHAT IT READS IS OF BULK AT MOST 1048576: true; the input reads as it did. -/
def turnGrowsUptoRow : OpenClaim := { program := "ytacmbjamnmpmoaadoor", sum := "4a0e889508f4af5ef63c80dc65461dfbe9342689ea492a31d109a3ca472571fe", func := "penstock/penstocklaw07.TurnGrows", spec := "turnGrows", inPlace := ["internal/bytealg.IndexByteString"], unfollowed := true, recurses := true, named := ["penstock/params.rows"], apart := false, laid := [("penstock/params.rows", laid_penstock_params_rows)], narrowed := true }
def TurnGrowsUptoSaid : Prop := turnGrowsUptoRow.holds Tryd.pinned (OpenSpec.upto turnGrowsSpec)

/-- 'penstocklaw07.TurnParts', WHERE WHAT IT READS IS OF BULK AT MOST 1048576: true; the input reads as it did. -/
def turnPartsUptoRow : OpenClaim := { program := "ytacmbjamnmpmoaadoor", sum := "4a0e889508f4af5ef63c80dc65461dfbe9342689ea492a31d109a3ca472571fe", func := "penstock/penstocklaw07.TurnParts", spec := "turnParts", inPlace := ["internal/bytealg.IndexByteString"], unfollowed := true, recurses := true, named := ["penstock/params.rows"], apart := false, laid := [("penstock/params.rows", laid_penstock_params_rows)], narrowed := true }
def TurnPartsUptoSaid : Prop := turnPartsUptoRow.holds Tryd.pinned (OpenSpec.upto turnPartsSpec)

end Rows
end Go.Proofs.YtacmbjamnmpmoaaDoor
