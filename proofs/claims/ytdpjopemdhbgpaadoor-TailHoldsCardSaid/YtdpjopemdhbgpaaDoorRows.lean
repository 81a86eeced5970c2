/-
  NARROWER THAN 'FOR EVERY INPUT', by the rows' own cells (each row's printed sentence says how): TailMakes: laid · TailMeans: laid · TailHolds: laid · TailRefuses: laid · TailChunks: laid · TailGrows: laid · TailTakes: laid.
  DERIVED. THE GIVEN ROWS OF THIS SEAT. 7 by the template 'for every input the law returns true; each argument reads behind the call as it read before'; 0 by the template 'total and deterministic' (their statements: YtdpjopemdhbgpaaDoorTotals.lean).
  GIVEN WITH THE SEED: the statements are not yours to turn. If you find one false, say at which input.
  Laid BY PROGRAM, IN A SANDBOX (cutbox-rows.mjs): the forced cells as the released guide's own fill.sh prints them over the translation 01b14b1b2af45f4d… (all of the seat's roots in one cut). By AI agents, Wed Nov 11 2026. No macro, syntax, notation, axiom, sorry.
-/
import Derived.Test.YtdpjopemdhbgpaaDoorChecked
import GoSem.Claim
import GoSem.ClaimJoined
import GoSem.ClaimMapViews
import Derived.JoinedTies
import Derived.KernelRfl
namespace Go.Proofs.YtdpjopemdhbgpaaDoor
/- THE CELL 'sum', in the pinned program and in every row, IS THE sha256 OF THE DUMP (.gsa) THAT YtdpjopemdhbgpaaDoorProg.lean LOADS. Nothing in Lean hashes anything: it is a label: what it is worth is what the hold of that sum in a sandbox is worth. -/
noncomputable def Tryd.pinned : Pinned := { name := "ytdpjopemdhbgpaadoor", sum := "01b14b1b2af45f4db2fb4070c1d1ca2a6e397e58c6a6ed6b9708b21f76033722", checked := Tryd.checked }
namespace Rows
def none {H : Type} : Left H := { results := [], args := [] }

/- WHAT THE LISTED PACKAGE-LEVEL VARIABLES READ AS WHEN THE CALL BEGINS. Each datum BY PROGRAM (the guide's laid-datum.mjs) off the statement by which the dump's own 'gosem.cut.vars' lays the variable. In a bare row this is a premise. The card (YtdpjopemdhbgpaaDoorCards.lean) ties it to the program's text. -/
def laid_penstock_params_rows {H : Type} : DataW H := .agg [.agg [.lit (.int .i64 0), .lit (.int .i64 0), .lit (.int .i64 0), .lit (.int .i64 0), .lit (.int .i64 0), .lit (.int .i64 0), .lit (.int .i64 0)], .agg [.lit (.int .i64 0), .lit (.int .i64 15), .lit (.int .i64 0), .lit (.int .i64 0), .lit (.int .i64 1), .lit (.int .i64 0), .lit (.int .i64 0)], .agg [.lit (.int .i64 0), .lit (.int .i64 15), .lit (.int .i64 0), .lit (.int .i64 1), .lit (.int .i64 0), .lit (.int .i64 0), .lit (.int .i64 0)], .agg [.lit (.int .i64 0), .lit (.int .i64 1000000000), .lit (.int .i64 0), .lit (.int .i64 1), .lit (.int .i64 1), .lit (.int .i64 64), .lit (.int .i64 0)], .agg [.lit (.int .i64 0), .lit (.int .i64 9223372036854775807), .lit (.int .i64 0), .lit (.int .i64 1), .lit (.int .i64 1), .lit (.int .i64 64), .lit (.int .i64 64)], .agg [.lit (.int .i64 0), .lit (.int .i64 1), .lit (.int .i64 2), .lit (.int .i64 1), .lit (.int .i64 1), .lit (.int .i64 64), .lit (.int .i64 0)], .agg [.lit (.int .i64 0), .lit (.int .i64 0), .lit (.int .i64 3), .lit (.int .i64 1), .lit (.int .i64 1), .lit (.int .i64 0), .lit (.int .i64 0)], .agg [.lit (.int .i64 1), .lit (.int .i64 65535), .lit (.int .i64 1), .lit (.int .i64 1), .lit (.int .i64 1), .lit (.int .i64 64), .lit (.int .i64 0)], .agg [.lit (.int .i64 0), .lit (.int .i64 1), .lit (.int .i64 0), .lit (.int .i64 1), .lit (.int .i64 1), .lit (.int .i64 128), .lit (.int .i64 0)], .agg [.lit (.int .i64 0), .lit (.int .i64 0), .lit (.int .i64 0), .lit (.int .i64 1), .lit (.int .i64 1), .lit (.int .i64 0), .lit (.int .i64 0)], .agg [.lit (.int .i64 0), .lit (.int .i64 1000000000), .lit (.int .i64 0), .lit (.int .i64 1), .lit (.int .i64 1), .lit (.int .i64 64), .lit (.int .i64 0)], .agg [.lit (.int .i64 0), .lit (.int .i64 1), .lit (.int .i64 0), .lit (.int .i64 1), .lit (.int .i64 1), .lit (.int .i64 320), .lit (.int .i64 0)], .agg [.lit (.int .i64 1), .lit (.int .i64 4), .lit (.int .i64 0), .lit (.int .i64 (-1)), .lit (.int .i64 1), .lit (.int .i64 0), .lit (.int .i64 0)], .agg [.lit (.int .i64 1), .lit (.int .i64 4), .lit (.int .i64 1), .lit (.int .i64 (-1)), .lit (.int .i64 1), .lit (.int .i64 0), .lit (.int .i64 96)], .agg [.lit (.int .i64 1), .lit (.int .i64 9223372036854775807), .lit (.int .i64 1), .lit (.int .i64 2), .lit (.int .i64 1), .lit (.int .i64 192), .lit (.int .i64 128)], .agg [.lit (.int .i64 1), .lit (.int .i64 4), .lit (.int .i64 0), .lit (.int .i64 1), .lit (.int .i64 (-1)), .lit (.int .i64 0), .lit (.int .i64 0)], .agg [.lit (.int .i64 1), .lit (.int .i64 4), .lit (.int .i64 0), .lit (.int .i64 1), .lit (.int .i64 (-1)), .lit (.int .i64 64), .lit (.int .i64 0)]]

/-- 'penstocklaw05.TailMakes': WHATEVER THE INPUT: true; the input reads as it did. -/
def tailMakesSpec : ChangeSpec := { name := "tailMakes", fn := fun _ => fun
  | [d] => { results := [.lit (.bool true)], args := [d] }
  | _ => none }
def tailMakesRow : OpenClaim := { program := "ytdpjopemdhbgpaadoor", sum := "01b14b1b2af45f4db2fb4070c1d1ca2a6e397e58c6a6ed6b9708b21f76033722", func := "penstock/penstocklaw05.TailMakes", spec := "tailMakes", unfollowed := true, recurses := true, named := ["penstock/params.rows"], apart := false, laid := [("penstock/params.rows", laid_penstock_params_rows)] }
def TailMakesSaid : Prop := tailMakesRow.holds Tryd.pinned (OpenSpec.ofChange tailMakesSpec)

/-- ITS FALSE NEIGHBOUR: 'it returns false'. Refute it at one input. -/
def tailMakesWrong : ChangeSpec := { name := "tailMakes", fn := fun _ => fun
  | [d] => { results := [.lit (.bool false)], args := [d] }
  | _ => none }
def TailMakesWrongFalsely : Prop := tailMakesRow.holds Tryd.pinned (OpenSpec.ofChange tailMakesWrong)

/-- 'penstocklaw05.TailMeans': WHATEVER THE INPUT: true; the input reads as it did. -/
def tailMeansSpec : ChangeSpec := { name := "tailMeans", fn := fun _ => fun
  | [d1, d2, d3] => { results := [.lit (.bool true)], args := [d1, d2, d3] }
  | _ => none }
def tailMeansRow : OpenClaim := { program := "ytdpjopemdhbgpaadoor", sum := "01b14b1b2af45f4db2fb4070c1d1ca2a6e397e58c6a6ed6b9708b21f76033722", func := "penstock/penstocklaw05.TailMeans", spec := "tailMeans", unfollowed := true, recurses := true, named := ["penstock/params.rows"], apart := false, laid := [("penstock/params.rows", laid_penstock_params_rows)] }
def TailMeansSaid : Prop := tailMeansRow.holds Tryd.pinned (OpenSpec.ofChange tailMeansSpec)

/-- ITS FALSE NEIGHBOUR: 'it returns false'. Refute it at one input. -/
def tailMeansWrong : ChangeSpec := { name := "tailMeans", fn := fun _ => fun
  | [d1, d2, d3] => { results := [.lit (.bool false)], args := [d1, d2, d3] }
  | _ => none }
def TailMeansWrongFalsely : Prop := tailMeansRow.holds Tryd.pinned (OpenSpec.ofChange tailMeansWrong)

/-- 'penstocklaw05.TailHolds': WHATEVER THE INPUT: true; the input reads as it did. -/
def tailHoldsSpec : ChangeSpec := { name := "tailHolds", fn := fun _ => fun
  | [d1, d2, d3] => { results := [.lit (.bool true)], args := [d1, d2, d3] }
  | _ => none }
def tailHoldsRow : OpenClaim := { program := "ytdpjopemdhbgpaadoor", sum := "01b14b1b2af45f4db2fb4070c1d1ca2a6e397e58c6a6ed6b9708b21f76033722", func := "penstock/penstocklaw05.TailHolds", spec := "tailHolds", unfollowed := true, recurses := true, named := ["penstock/params.rows"], apart := false, laid := [("penstock/params.rows", laid_penstock_params_rows)] }
def TailHoldsSaid : Prop := tailHoldsRow.holds Tryd.pinned (OpenSpec.ofChange tailHoldsSpec)

/-- ITS FALSE NEIGHBOUR: 'it returns false'. Refute it at one input. -/
def tailHoldsWrong : ChangeSpec := { name := "tailHolds", fn := fun _ => fun
  | [d1, d2, d3] => { results := [.lit (.bool false)], args := [d1, d2, d3] }
  | _ => none }
def TailHoldsWrongFalsely : Prop := tailHoldsRow.holds Tryd.pinned (OpenSpec.ofChange tailHoldsWrong)

/-- 'penstocklaw05.TailRefuses': WHATEVER THE INPUT: true; the input reads as it did. -/
def tailRefusesSpec : ChangeSpec := { name := "tailRefuses", fn := fun _ => fun
  | [d1, d2, d3, d4, d5] => { results := [.lit (.bool true)], args := [d1, d2, d3, d4, d5] }
  | _ => none }
def tailRefusesRow : OpenClaim := { program := "ytdpjopemdhbgpaadoor", sum := "01b14b1b2af45f4db2fb4070c1d1ca2a6e397e58c6a6ed6b9708b21f76033722", func := "penstock/penstocklaw05.TailRefuses", spec := "tailRefuses", unfollowed := true, recurses := true, named := ["penstock/params.rows"], apart := false, laid := [("penstock/params.rows", laid_penstock_params_rows)] }
def TailRefusesSaid : Prop := tailRefusesRow.holds Tryd.pinned (OpenSpec.ofChange tailRefusesSpec)

/-- ITS FALSE NEIGHBOUR: 'it returns false'. Refute it at one input. -/
def tailRefusesWrong : ChangeSpec := { name := "tailRefuses", fn := fun _ => fun
  | [d1, d2, d3, d4, d5] => { results := [.lit (.bool false)], args := [d1, d2, d3, d4, d5] }
  | _ => none }
def TailRefusesWrongFalsely : Prop := tailRefusesRow.holds Tryd.pinned (OpenSpec.ofChange tailRefusesWrong)

/-- 'penstocklaw05.TailChunks': WHATEVER THE INPUT: true; the input reads as it did. -/
def tailChunksSpec : ChangeSpec := { name := "tailChunks", fn := fun _ => fun
  | [d1, d2, d3, d4] => { results := [.lit (.bool true)], args := [d1, d2, d3, d4] }
  | _ => none }
def tailChunksRow : OpenClaim := { program := "ytdpjopemdhbgpaadoor", sum := "01b14b1b2af45f4db2fb4070c1d1ca2a6e397e58c6a6ed6b9708b21f76033722", func := "penstock/penstocklaw05.TailChunks", spec := "tailChunks", unfollowed := true, recurses := true, named := ["penstock/params.rows"], apart := false, laid := [("penstock/params.rows", laid_penstock_params_rows)] }
def TailChunksSaid : Prop := tailChunksRow.holds Tryd.pinned (OpenSpec.ofChange tailChunksSpec)

/-- ITS FALSE NEIGHBOUR: 'it returns false'. Refute it at one input. -/
def tailChunksWrong : ChangeSpec := { name := "tailChunks", fn := fun _ => fun
  | [d1, d2, d3, d4] => { results := [.lit (.bool false)], args := [d1, d2, d3, d4] }
  | _ => none }
def TailChunksWrongFalsely : Prop := tailChunksRow.holds Tryd.pinned (OpenSpec.ofChange tailChunksWrong)

/-- 'penstocklaw05.TailGrows': WHATEVER THE INPUT: true; the input reads as it did. -/
def tailGrowsSpec : ChangeSpec := { name := "tailGrows", fn := fun _ => fun
  | [d1, d2, d3, d4, d5] => { results := [.lit (.bool true)], args := [d1, d2, d3, d4, d5] }
  | _ => none }
def tailGrowsRow : OpenClaim := { program := "ytdpjopemdhbgpaadoor", sum := "01b14b1b2af45f4db2fb4070c1d1ca2a6e397e58c6a6ed6b9708b21f76033722", func := "penstock/penstocklaw05.TailGrows", spec := "tailGrows", unfollowed := true, recurses := true, named := ["penstock/params.rows"], apart := false, laid := [("penstock/params.rows", laid_penstock_params_rows)] }
def TailGrowsSaid : Prop := tailGrowsRow.holds Tryd.pinned (OpenSpec.ofChange tailGrowsSpec)

/-- ITS FALSE NEIGHBOUR: 'it returns false'. Refute it at one input. -/
def tailGrowsWrong : ChangeSpec := { name := "tailGrows", fn := fun _ => fun
  | [d1, d2, d3, d4, d5] => { results := [.lit (.bool false)], args := [d1, d2, d3, d4, d5] }
  | _ => none }
def TailGrowsWrongFalsely : Prop := tailGrowsRow.holds Tryd.pinned (OpenSpec.ofChange tailGrowsWrong)

/-- 'penstocklaw05.TailTakes': WHATEVER THE INPUT: true; the input reads as it did. -/
def tailTakesSpec : ChangeSpec := { name := "tailTakes", fn := fun _ => fun
  | [d1, d2, d3] => { results := [.lit (.bool true)], args := [d1, d2, d3] }
  | _ => none }
def tailTakesRow : OpenClaim := { program := "ytdpjopemdhbgpaadoor", sum := "01b14b1b2af45f4db2fb4070c1d1ca2a6e397e58c6a6ed6b9708b21f76033722", func := "penstock/penstocklaw05.TailTakes", spec := "tailTakes", unfollowed := true, recurses := true, named := ["penstock/params.rows"], apart := false, laid := [("penstock/params.rows", laid_penstock_params_rows)] }
def TailTakesSaid : Prop := tailTakesRow.holds Tryd.pinned (OpenSpec.ofChange tailTakesSpec)

/-- ITS FALSE NEIGHBOUR: 'it returns false'. Refute it at one input. -/
def tailTakesWrong : ChangeSpec := { name := "tailTakes", fn := fun _ => fun
  | [d1, d2, d3] => { results := [.lit (.bool false)], args := [d1, d2, d3] }
  | _ => none }
def TailTakesWrongFalsely : Prop := tailTakesRow.holds Tryd.pinned (OpenSpec.ofChange tailTakesWrong)

/- THE SECOND FORM. 'bulk': how many values and letters a reading holds, each counted each time it is reached (what is shared counts as often as it is met; a slice's spare places count too). A statement '..UptoSaid' is the law's where the arguments, and the package variables that the reading takes, are together of bulk at most 1048576: NARROWER than '..Said'. Prove '..Said' where nothing that the law and all that it calls make is longer than what came in: it says more and counts as full. Else prove '..UptoSaid'. A law counts once. -/
mutual
def uptoBulk {H : Type} : DataW H → Nat
  | .lit (.string bytes) => bytes.length + 1
  | .lit _ => 1
  | .nil => 1
  | .ptr d => uptoBulk d + 1
  | .slice elems spare => uptoBulkAll elems + uptoBulkAll spare + 1
  | .agg parts => uptoBulkAll parts + 1
  | .iface _ d => uptoBulk d + 1
  | .map entries => uptoBulkEntries entries + 1
  | .held _ => 1
def uptoBulkAll {H : Type} : List (DataW H) → Nat
  | [] => 0
  | d :: r => uptoBulk d + uptoBulkAll r
def uptoBulkEntries {H : Type} : List (Lit × DataW H) → Nat
  | [] => 0
  | x :: r => uptoBulkEntry x + uptoBulkEntries r
def uptoBulkEntry {H : Type} : Lit × DataW H → Nat
  | (.string bytes, d) => bytes.length + uptoBulk d + 1
  | (_, d) => uptoBulk d + 1
 end
def uptoSmall : (H : Type) → List (DataW H) → Bool := fun _ ds => decide (uptoBulkAll ds ≤ 1048576)
def OpenSpec.upto (s : _root_.Go.ChangeSpec) : _root_.Go.OpenSpec := { _root_.Go.OpenSpec.ofChange s with cond := some uptoSmall }

/-- 'penstocklaw05.TailMakes', WHERE WHAT IT READS IS OF BULK AT MOST 1048576: true; the input reads as it did. -/
def tailMakesUptoRow : OpenClaim := { program := "ytdpjopemdhbgpaadoor", sum := "01b14b1b2af45f4db2fb4070c1d1ca2a6e397e58c6a6ed6b9708b21f76033722", func := "penstock/penstocklaw05.TailMakes", spec := "tailMakes", unfollowed := true, recurses := true, named := ["penstock/params.rows"], apart := false, laid := [("penstock/params.rows", laid_penstock_params_rows)], narrowed := true }
def TailMakesUptoSaid : Prop := tailMakesUptoRow.holds Tryd.pinned (OpenSpec.upto tailMakesSpec)

/-- 'penstocklaw05.TailMeans', WHERE WHAT IT READS IS OF BULK AT MOST 1048576: true; the input reads as it did. -/
def tailMeansUptoRow : OpenClaim := { program := "ytdpjopemdhbgpaadoor", sum := "01b14b1b2af45f4db2fb4070c1d1ca2a6e397e58c6a6ed6b9708b21f76033722", func := "penstock/penstocklaw05.TailMeans", spec := "tailMeans", unfollowed := true, recurses := true, named := ["penstock/params.rows"], apart := false, laid := [("penstock/params.rows", laid_penstock_params_rows)], narrowed := true }
def TailMeansUptoSaid : Prop := tailMeansUptoRow.holds Tryd.pinned (OpenSpec.upto tailMeansSpec)

/-- 'penstocklaw05.TailHolds', WHERE WHAT IT READS IS OF BULK AT MOST 1048576: true; the input reads as it did. -/
def tailHoldsUptoRow : OpenClaim := { program := "ytdpjopemdhbgpaadoor", sum := "01b14b1b2af45f4db2fb4070c1d1ca2a6e397e58c6a6ed6b9708b21f76033722", func := "penstock/penstocklaw05.TailHolds", spec := "tailHolds", unfollowed := true, recurses := true, named := ["penstock/params.rows"], apart := false, laid := [("penstock/params.rows", laid_penstock_params_rows)], narrowed := true }
def TailHoldsUptoSaid : Prop := tailHoldsUptoRow.holds Tryd.pinned (OpenSpec.upto tailHoldsSpec)

/-- 'penstocklaw05.TailRefuses', WHERE WHAT IT READS IS OF BULK AT MOST 1048576: true; the input reads as it did. -/
def tailRefusesUptoRow : OpenClaim := { program := "ytdpjopemdhbgpaadoor", sum := "01b14b1b2af45f4db2fb4070c1d1ca2a6e397e58c6a6ed6b9708b21f76033722", func := "penstock/penstocklaw05.TailRefuses", spec := "tailRefuses", unfollowed := true, recurses := true, named := ["penstock/params.rows"], apart := false, laid := [("penstock/params.rows", laid_penstock_params_rows)], narrowed := true }
def TailRefusesUptoSaid : Prop := tailRefusesUptoRow.holds Tryd.pinned (OpenSpec.upto tailRefusesSpec)

/-- 'penstocklaw05.TailChunks', WHERE WHAT IT READS IS OF BULK AT MOST 1048576: true; the input reads as it did. -/
def tailChunksUptoRow : OpenClaim := { program := "ytdpjopemdhbgpaadoor", sum := "01b14b1b2af45f4db2fb4070c1d1ca2a6e397e58c6a6ed6b9708b21f76033722", func := "penstock/penstocklaw05.TailChunks", spec := "tailChunks", unfollowed := true, recurses := true, named := ["penstock/params.rows"], apart := false, laid := [("penstock/params.rows", laid_penstock_params_rows)], narrowed := true }
def TailChunksUptoSaid : Prop := tailChunksUptoRow.holds Tryd.pinned (OpenSpec.upto tailChunksSpec)

/-- 'penstocklaw05.TailGrows', WHERE WHAT IT READS IS OF BULK AT MOST 1048576: true; the input reads as it did. -/
def tailGrowsUptoRow : OpenClaim := { program := "ytdpjopemdhbgpaadoor", sum := "01b14b1b2af45f4db2fb4070c1d1ca2a6e397e58c6a6ed6b9708b21f76033722", func := "penstock/penstocklaw05.TailGrows", spec := "tailGrows", unfollowed := true, recurses := true, named := ["penstock/params.rows"], apart := false, laid := [("penstock/params.rows", laid_penstock_params_rows)], narrowed := true }
def TailGrowsUptoSaid : Prop := tailGrowsUptoRow.holds Tryd.pinned (OpenSpec.upto tailGrowsSpec)

/-- 'penstocklaw05.TailTakes', WHERE WHAT IT READS IS OF BULK AT MOST 1048576: true; the input reads as it did. -/
def tailTakesUptoRow : OpenClaim := { program := "ytdpjopemdhbgpaadoor", sum := "01b14b1b2af45f4db2fb4070c1d1ca2a6e397e58c6a6ed6b9708b21f76033722", func := "penstock/penstocklaw05.TailTakes", spec := "tailTakes", unfollowed := true, recurses := true, named := ["penstock/params.rows"], apart := false, laid := [("penstock/params.rows", laid_penstock_params_rows)], narrowed := true }
def TailTakesUptoSaid : Prop := tailTakesUptoRow.holds Tryd.pinned (OpenSpec.upto tailTakesSpec)

end Rows
end Go.Proofs.YtdpjopemdhbgpaaDoor
