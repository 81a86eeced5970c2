/-
  NARROWER THAN 'FOR EVERY INPUT', by the rows' own cells (each row's printed sentence says how): HeadMakes: laid · HeadMeans: laid · HeadHolds: laid · HeadRefuses: laid · HeadChunks: laid · HeadGrows: laid · HeadTakes: laid.
  DERIVED. THE GIVEN ROWS OF THIS SEAT. 7 by the template 'for every input the law returns true; each argument reads behind the call as it read before'; 0 by the template 'total and deterministic' (their statements: YtbmollcbaipmiaaDoorTotals.lean).
  GIVEN WITH THE SEED: the statements are not yours to turn. If you find one false, say at which input.
  Laid BY PROGRAM, IN A SANDBOX (cutbox-rows.mjs): the forced cells as the released guide's own fill.sh prints them over the translation 3820a8c7ed548ad6… (all of the seat's roots in one cut). By AI agents, Wed Nov 11 2026. No macro, syntax, notation, axiom, sorry.
-/
import Derived.Test.YtbmollcbaipmiaaDoorChecked
import GoSem.Claim
import GoSem.ClaimJoined
import GoSem.ClaimMapViews
import Derived.JoinedTies
import Derived.KernelRfl
namespace Go.Proofs.YtbmollcbaipmiaaDoor
/- THE CELL 'sum', in the pinned program and in every row, IS THE sha256 OF THE DUMP (.gsa) THAT YtbmollcbaipmiaaDoorProg.lean LOADS. Nothing in Lean hashes anything: it is a label: what it is worth is what the hold of that sum in a sandbox is worth. -/
noncomputable def Tryd.pinned : Pinned := { name := "ytbmollcbaipmiaadoor", sum := "3820a8c7ed548ad616fd5793958f53264c93438a4719d7f670343a0e54d0bdb1", checked := Tryd.checked }
namespace Rows
def none {H : Type} : Left H := { results := [], args := [] }

/- WHAT THE LISTED PACKAGE-LEVEL VARIABLES READ AS WHEN THE CALL BEGINS. Each datum BY PROGRAM (the guide's laid-datum.mjs) off the statement by which the dump's own 'gosem.cut.vars' lays the variable. In a bare row this is a premise. The card (YtbmollcbaipmiaaDoorCards.lean) ties it to the program's text. -/
def laid_penstock_params_rows {H : Type} : DataW H := .agg [.agg [.lit (.int .i64 0), .lit (.int .i64 0), .lit (.int .i64 0), .lit (.int .i64 0), .lit (.int .i64 0), .lit (.int .i64 0), .lit (.int .i64 0)], .agg [.lit (.int .i64 0), .lit (.int .i64 15), .lit (.int .i64 0), .lit (.int .i64 0), .lit (.int .i64 1), .lit (.int .i64 0), .lit (.int .i64 0)], .agg [.lit (.int .i64 0), .lit (.int .i64 15), .lit (.int .i64 0), .lit (.int .i64 1), .lit (.int .i64 0), .lit (.int .i64 0), .lit (.int .i64 0)], .agg [.lit (.int .i64 0), .lit (.int .i64 1000000000), .lit (.int .i64 0), .lit (.int .i64 1), .lit (.int .i64 1), .lit (.int .i64 64), .lit (.int .i64 0)], .agg [.lit (.int .i64 0), .lit (.int .i64 9223372036854775807), .lit (.int .i64 0), .lit (.int .i64 1), .lit (.int .i64 1), .lit (.int .i64 64), .lit (.int .i64 64)], .agg [.lit (.int .i64 0), .lit (.int .i64 1), .lit (.int .i64 2), .lit (.int .i64 1), .lit (.int .i64 1), .lit (.int .i64 64), .lit (.int .i64 0)], .agg [.lit (.int .i64 0), .lit (.int .i64 0), .lit (.int .i64 3), .lit (.int .i64 1), .lit (.int .i64 1), .lit (.int .i64 0), .lit (.int .i64 0)], .agg [.lit (.int .i64 1), .lit (.int .i64 65535), .lit (.int .i64 1), .lit (.int .i64 1), .lit (.int .i64 1), .lit (.int .i64 64), .lit (.int .i64 0)], .agg [.lit (.int .i64 0), .lit (.int .i64 1), .lit (.int .i64 0), .lit (.int .i64 1), .lit (.int .i64 1), .lit (.int .i64 128), .lit (.int .i64 0)], .agg [.lit (.int .i64 0), .lit (.int .i64 0), .lit (.int .i64 0), .lit (.int .i64 1), .lit (.int .i64 1), .lit (.int .i64 0), .lit (.int .i64 0)], .agg [.lit (.int .i64 0), .lit (.int .i64 1000000000), .lit (.int .i64 0), .lit (.int .i64 1), .lit (.int .i64 1), .lit (.int .i64 64), .lit (.int .i64 0)], .agg [.lit (.int .i64 0), .lit (.int .i64 1), .lit (.int .i64 0), .lit (.int .i64 1), .lit (.int .i64 1), .lit (.int .i64 320), .lit (.int .i64 0)], .agg [.lit (.int .i64 1), .lit (.int .i64 4), .lit (.int .i64 0), .lit (.int .i64 (-1)), .lit (.int .i64 1), .lit (.int .i64 0), .lit (.int .i64 0)], .agg [.lit (.int .i64 1), .lit (.int .i64 4), .lit (.int .i64 1), .lit (.int .i64 (-1)), .lit (.int .i64 1), .lit (.int .i64 0), .lit (.int .i64 96)], .agg [.lit (.int .i64 1), .lit (.int .i64 9223372036854775807), .lit (.int .i64 1), .lit (.int .i64 2), .lit (.int .i64 1), .lit (.int .i64 192), .lit (.int .i64 128)], .agg [.lit (.int .i64 1), .lit (.int .i64 4), .lit (.int .i64 0), .lit (.int .i64 1), .lit (.int .i64 (-1)), .lit (.int .i64 0), .lit (.int .i64 0)], .agg [.lit (.int .i64 1), .lit (.int .i64 4), .lit (.int .i64 0), .lit (.int .i64 1), .lit (.int .i64 (-1)), .lit (.int .i64 64), .lit (.int .i64 0)]]

/-- 'penstocklaw04.HeadMakes': WHATEVER THE INPUT: true; the input reads as it did. -/
def headMakesSpec : ChangeSpec := { name := "headMakes", fn := fun _ => fun
  | [d] => { results := [.lit (.bool true)], args := [d] }
  | _ => none }
def headMakesRow : OpenClaim := { program := "ytbmollcbaipmiaadoor", sum := "3820a8c7ed548ad616fd5793958f53264c93438a4719d7f670343a0e54d0bdb1", func := "penstock/penstocklaw04.HeadMakes", spec := "headMakes", unfollowed := true, recurses := true, named := ["penstock/params.rows"], apart := false, laid := [("penstock/params.rows", laid_penstock_params_rows)] }
def HeadMakesSaid : Prop := headMakesRow.holds Tryd.pinned (OpenSpec.ofChange headMakesSpec)

/-- ITS FALSE NEIGHBOUR: 'it returns false'. Refute it at one input. -/
def headMakesWrong : ChangeSpec := { name := "headMakes", fn := fun _ => fun
  | [d] => { results := [.lit (.bool false)], args := [d] }
  | _ => none }
def HeadMakesWrongFalsely : Prop := headMakesRow.holds Tryd.pinned (OpenSpec.ofChange headMakesWrong)

/-- 'penstocklaw04.HeadMeans': WHATEVER THE INPUT: true; the input reads as it did. -/
def headMeansSpec : ChangeSpec := { name := "headMeans", fn := fun _ => fun
  | [d1, d2, d3] => { results := [.lit (.bool true)], args := [d1, d2, d3] }
  | _ => none }
def headMeansRow : OpenClaim := { program := "ytbmollcbaipmiaadoor", sum := "3820a8c7ed548ad616fd5793958f53264c93438a4719d7f670343a0e54d0bdb1", func := "penstock/penstocklaw04.HeadMeans", spec := "headMeans", unfollowed := true, recurses := true, named := ["penstock/params.rows"], apart := false, laid := [("penstock/params.rows", laid_penstock_params_rows)] }
def HeadMeansSaid : Prop := headMeansRow.holds Tryd.pinned (OpenSpec.ofChange headMeansSpec)

/-- ITS FALSE NEIGHBOUR: 'it returns false'. Refute it at one input. -/
def headMeansWrong : ChangeSpec := { name := "headMeans", fn := fun _ => fun
  | [d1, d2, d3] => { results := [.lit (.bool false)], args := [d1, d2, d3] }
  | _ => none }
def HeadMeansWrongFalsely : Prop := headMeansRow.holds Tryd.pinned (OpenSpec.ofChange headMeansWrong)

/-- 'penstocklaw04.HeadHolds': WHATEVER THE INPUT: true; the input reads as it did. -/
def headHoldsSpec : ChangeSpec := { name := "headHolds", fn := fun _ => fun
  | [d1, d2, d3] => { results := [.lit (.bool true)], args := [d1, d2, d3] }
  | _ => none }
def headHoldsRow : OpenClaim := { program := "ytbmollcbaipmiaadoor", sum := "3820a8c7ed548ad616fd5793958f53264c93438a4719d7f670343a0e54d0bdb1", func := "penstock/penstocklaw04.HeadHolds", spec := "headHolds", unfollowed := true, recurses := true, named := ["penstock/params.rows"], apart := false, laid := [("penstock/params.rows", laid_penstock_params_rows)] }
def HeadHoldsSaid : Prop := headHoldsRow.holds Tryd.pinned (OpenSpec.ofChange headHoldsSpec)

/-- ITS FALSE NEIGHBOUR: 'it returns false'. Refute it at one input. -/
def headHoldsWrong : ChangeSpec := { name := "headHolds", fn := fun _ => fun
  | [d1, d2, d3] => { results := [.lit (.bool false)], args := [d1, d2, d3] }
  | _ => none }
def HeadHoldsWrongFalsely : Prop := headHoldsRow.holds Tryd.pinned (OpenSpec.ofChange headHoldsWrong)

/-- 'penstocklaw04.HeadRefuses': WHATEVER THE INPUT: true; the input reads as it did. -/
def headRefusesSpec : ChangeSpec := { name := "headRefuses", fn := fun _ => fun
  | [d1, d2, d3, d4, d5] => { results := [.lit (.bool true)], args := [d1, d2, d3, d4, d5] }
  | _ => none }
def headRefusesRow : OpenClaim := { program := "ytbmollcbaipmiaadoor", sum := "3820a8c7ed548ad616fd5793958f53264c93438a4719d7f670343a0e54d0bdb1", func := "penstock/penstocklaw04.HeadRefuses", spec := "headRefuses", unfollowed := true, recurses := true, named := ["penstock/params.rows"], apart := false, laid := [("penstock/params.rows", laid_penstock_params_rows)] }
def HeadRefusesSaid : Prop := headRefusesRow.holds Tryd.pinned (OpenSpec.ofChange headRefusesSpec)

/-- ITS FALSE NEIGHBOUR: 'it returns false'. Refute it at one input. -/
def headRefusesWrong : ChangeSpec := { name := "headRefuses", fn := fun _ => fun
  | [d1, d2, d3, d4, d5] => { results := [.lit (.bool false)], args := [d1, d2, d3, d4, d5] }
  | _ => none }
def HeadRefusesWrongFalsely : Prop := headRefusesRow.holds Tryd.pinned (OpenSpec.ofChange headRefusesWrong)

/-- 'penstocklaw04.HeadChunks': WHATEVER THE INPUT: true; the input reads as it did. -/
def headChunksSpec : ChangeSpec := { name := "headChunks", fn := fun _ => fun
  | [d1, d2, d3, d4] => { results := [.lit (.bool true)], args := [d1, d2, d3, d4] }
  | _ => none }
def headChunksRow : OpenClaim := { program := "ytbmollcbaipmiaadoor", sum := "3820a8c7ed548ad616fd5793958f53264c93438a4719d7f670343a0e54d0bdb1", func := "penstock/penstocklaw04.HeadChunks", spec := "headChunks", unfollowed := true, recurses := true, named := ["penstock/params.rows"], apart := false, laid := [("penstock/params.rows", laid_penstock_params_rows)] }
def HeadChunksSaid : Prop := headChunksRow.holds Tryd.pinned (OpenSpec.ofChange headChunksSpec)

/-- ITS FALSE NEIGHBOUR: 'it returns false'. Refute it at one input. -/
def headChunksWrong : ChangeSpec := { name := "headChunks", fn := fun _ => fun
  | [d1, d2, d3, d4] => { results := [.lit (.bool false)], args := [d1, d2, d3, d4] }
  | _ => none }
def HeadChunksWrongFalsely : Prop := headChunksRow.holds Tryd.pinned (OpenSpec.ofChange headChunksWrong)

/-- 'penstocklaw04.HeadGrows': WHATEVER THE INPUT: true; the input reads as it did. -/
def headGrowsSpec : ChangeSpec := { name := "headGrows", fn := fun _ => fun
  | [d1, d2, d3, d4, d5] => { results := [.lit (.bool true)], args := [d1, d2, d3, d4, d5] }
  | _ => none }
def headGrowsRow : OpenClaim := { program := "ytbmollcbaipmiaadoor", sum := "3820a8c7ed548ad616fd5793958f53264c93438a4719d7f670343a0e54d0bdb1", func := "penstock/penstocklaw04.HeadGrows", spec := "headGrows", unfollowed := true, recurses := true, named := ["penstock/params.rows"], apart := false, laid := [("penstock/params.rows", laid_penstock_params_rows)] }
def HeadGrowsSaid : Prop := headGrowsRow.holds Tryd.pinned (OpenSpec.ofChange headGrowsSpec)

/-- ITS FALSE NEIGHBOUR: 'it returns false'. Refute it at one input. -/
def headGrowsWrong : ChangeSpec := { name := "headGrows", fn := fun _ => fun
  | [d1, d2, d3, d4, d5] => { results := [.lit (.bool false)], args := [d1, d2, d3, d4, d5] }
  | _ => none }
def HeadGrowsWrongFalsely : Prop := headGrowsRow.holds Tryd.pinned (OpenSpec.ofChange headGrowsWrong)

/-- 'penstocklaw04.HeadTakes': WHATEVER THE INPUT: true; the input reads as it did. -/
def headTakesSpec : ChangeSpec := { name := "headTakes", fn := fun _ => fun
  | [d1, d2, d3] => { results := [.lit (.bool true)], args := [d1, d2, d3] }
  | _ => none }
def headTakesRow : OpenClaim := { program := "ytbmollcbaipmiaadoor", sum := "3820a8c7ed548ad616fd5793958f53264c93438a4719d7f670343a0e54d0bdb1", func := "penstock/penstocklaw04.HeadTakes", spec := "headTakes", unfollowed := true, recurses := true, named := ["penstock/params.rows"], apart := false, laid := [("penstock/params.rows", laid_penstock_params_rows)] }
def HeadTakesSaid : Prop := headTakesRow.holds Tryd.pinned (OpenSpec.ofChange headTakesSpec)

/-- ITS FALSE NEIGHBOUR: 'it returns false'. Refute it at one input. -/
def headTakesWrong : ChangeSpec := { name := "headTakes", fn := fun _ => fun
  | [d1, d2, d3] => { results := [.lit (.bool false)], args := [d1, d2, d3] }
  | _ => none }
def HeadTakesWrongFalsely : Prop := headTakesRow.holds Tryd.pinned (OpenSpec.ofChange headTakesWrong)

/- THE SECOND FORM. 'bulk': how many values and letters a reading holds, each counted each time it is reached (what is shared counts as often as it is met; a slice's spare places count too). A statement '..UptoSaid' is the law's where the arguments, and the package variables that the reading takes, are together of bulk at most 1048576: NARROWER than '..Said'. Prove '..Said' where nothing that the law and all that it calls make is longer than what came in: it says more and counts as full. Else prove '..UptoSaid'. A law counts once. -/
mutual
def uptoBulk {H : Type} : DataW H → Nat
  | .lit (.string bytes) => bytes.length + 1
  | .lit _ => 1
  | .nil => 1
  | .ptr d => uptoBulk d + 1
  | .slice elems spare => uptoBulkAll elems + uptoBulkAll spare + 1
  | .agg parts => uptoBulkAll parts + 1
  | .iface _ d => uptoBulk d + 1
  | .map entries => uptoBulkEntries entries + 1
  | .held _ => 1
def uptoBulkAll {H : Type} : List (DataW H) → Nat
  | [] => 0
  | d :: r => uptoBulk d + uptoBulkAll r
def uptoBulkEntries {H : Type} : List (Lit × DataW H) → Nat
  | [] => 0
  | x :: r => uptoBulkEntry x + uptoBulkEntries r
def uptoBulkEntry {H : Type} : Lit × DataW H → Nat
  | (.string bytes, d) => bytes.length + uptoBulk d + 1
  | (_, d) => uptoBulk d + 1
 end
def uptoSmall : (H : Type) → List (DataW H) → Bool := fun _ ds => decide (uptoBulkAll ds ≤ 1048576)
def OpenSpec.upto (s : _root_.Go.ChangeSpec) : _root_.Go.OpenSpec := { _root_.Go.OpenSpec.ofChange s with cond := some uptoSmall }

/-- 'penstocklaw04.HeadMakes', WHERE WHAT IT READS IS OF BULK AT MOST 1048576: true; the input reads as it did. -/
def headMakesUptoRow : OpenClaim := { program := "ytbmollcbaipmiaadoor", sum := "3820a8c7ed548ad616fd5793958f53264c93438a4719d7f670343a0e54d0bdb1", func := "penstock/penstocklaw04.HeadMakes", spec := "headMakes", unfollowed := true, recurses := true, named := ["penstock/params.rows"], apart := false, laid := [("penstock/params.rows", laid_penstock_params_rows)], narrowed := true }
def HeadMakesUptoSaid : Prop := headMakesUptoRow.holds Tryd.pinned (OpenSpec.upto headMakesSpec)

/-- 'penstocklaw04.HeadMeans', WHERE WHAT IT READS IS OF BULK AT MOST 1048576: true; the input reads as it did. -/
def headMeansUptoRow : OpenClaim := { program := "ytbmollcbaipmiaadoor", sum := "3820a8c7ed548ad616fd5793958f53264c93438a4719d7f670343a0e54d0bdb1", func := "penstock/penstocklaw04.HeadMeans", spec := "headMeans", unfollowed := true, recurses := true, named := ["penstock/params.rows"], apart := false, laid := [("penstock/params.rows", laid_penstock_params_rows)], narrowed := true }
def HeadMeansUptoSaid : Prop := headMeansUptoRow.holds Tryd.pinned (OpenSpec.upto headMeansSpec)

/-- 'penstocklaw04.HeadHolds', WHERE WHAT IT READS IS OF BULK AT MOST 1048576: true; the input reads as it did. -/
def headHoldsUptoRow : OpenClaim := { program := "ytbmollcbaipmiaadoor", sum := "3820a8c7ed548ad616fd5793958f53264c93438a4719d7f670343a0e54d0bdb1", func := "penstock/penstocklaw04.HeadHolds", spec := "headHolds", unfollowed := true, recurses := true, named := ["penstock/params.rows"], apart := false, laid := [("penstock/params.rows", laid_penstock_params_rows)], narrowed := true }
def HeadHoldsUptoSaid : Prop := headHoldsUptoRow.holds Tryd.pinned (OpenSpec.upto headHoldsSpec)

/-- 'penstocklaw04.HeadRefuses', WHERE WHAT IT READS IS OF BULK AT MOST 1048576: true; the input reads as it did. -/
def headRefusesUptoRow : OpenClaim := { program := "ytbmollcbaipmiaadoor", sum := "3820a8c7ed548ad616fd5793958f53264c93438a4719d7f670343a0e54d0bdb1", func := "penstock/penstocklaw04.HeadRefuses", spec := "headRefuses", unfollowed := true, recurses := true, named := ["penstock/params.rows"], apart := false, laid := [("penstock/params.rows", laid_penstock_params_rows)], narrowed := true }
def HeadRefusesUptoSaid : Prop := headRefusesUptoRow.holds Tryd.pinned (OpenSpec.upto headRefusesSpec)

/-- 'penstocklaw04.HeadChunks', WHERE WHAT IT READS IS OF BULK AT MOST 1048576: true; the input reads as it did. -/
def headChunksUptoRow : OpenClaim := { program := "ytbmollcbaipmiaadoor", sum := "3820a8c7ed548ad616fd5793958f53264c93438a4719d7f670343a0e54d0bdb1", func := "penstock/penstocklaw04.HeadChunks", spec := "headChunks", unfollowed := true, recurses := true, named := ["penstock/params.rows"], apart := false, laid := [("penstock/params.rows", laid_penstock_params_rows)], narrowed := true }
def HeadChunksUptoSaid : Prop := headChunksUptoRow.holds Tryd.pinned (OpenSpec.upto headChunksSpec)

/-- 'penstocklaw04.HeadGrows', WHERE WHAT IT READS IS OF BULK AT MOST 1048576: true; the input reads as it did. -/
def headGrowsUptoRow : OpenClaim := { program := "ytbmollcbaipmiaadoor", sum := "3820a8c7ed548ad616fd5793958f53264c93438a4719d7f670343a0e54d0bdb1", func := "penstock/penstocklaw04.HeadGrows", spec := "headGrows", unfollowed := true, recurses := true, named := ["penstock/params.rows"], apart := false, laid := [("penstock/params.rows", laid_penstock_params_rows)], narrowed := true }
def HeadGrowsUptoSaid : Prop := headGrowsUptoRow.holds Tryd.pinned (OpenSpec.upto headGrowsSpec)

/-- 'penstocklaw04.HeadTakes', WHERE WHAT IT READS IS OF BULK AT MOST 1048576: true; the input reads as it did. -/
def headTakesUptoRow : OpenClaim := { program := "ytbmollcbaipmiaadoor", sum := "3820a8c7ed548ad616fd5793958f53264c93438a4719d7f670343a0e54d0bdb1", func := "penstock/penstocklaw04.HeadTakes", spec := "headTakes", unfollowed := true, recurses := true, named := ["penstock/params.rows"], apart := false, laid := [("penstock/params.rows", laid_penstock_params_rows)], narrowed := true }
def HeadTakesUptoSaid : Prop := headTakesUptoRow.holds Tryd.pinned (OpenSpec.upto headTakesSpec)

end Rows
end Go.Proofs.YtbmollcbaipmiaaDoor
