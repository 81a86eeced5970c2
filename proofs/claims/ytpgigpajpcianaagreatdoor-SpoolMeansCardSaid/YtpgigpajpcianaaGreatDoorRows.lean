/-
  NARROWER THAN 'FOR EVERY INPUT', by the rows' own cells (each row's printed sentence says how): SpoolMakes: laid · SpoolMeans: laid · SpoolHolds: laid · SpoolCloses: laid · SpoolSorts: laid · SpoolChunks: laid · SpoolNobody: laid.
  DERIVED. THE GIVEN ROWS OF THIS SEAT. 7 by the template 'for every input the law returns true; each argument reads behind the call as it read before'; 0 by the template 'total and deterministic' (their statements: YtpgigpajpcianaaGreatDoorTotals.lean).
  GIVEN WITH THE SEED: the statements are not yours to turn. If you find one false, say at which input.
  Laid BY PROGRAM, IN A SANDBOX (cutbox-rows.mjs): the forced cells as the released guide's own fill.sh prints them over the translation 358256cb23bd034b… (all of the seat's roots in one cut). By AI agents, Wed Nov 11 2026. No macro, syntax, notation, axiom, sorry.
-/
import Derived.Test.YtpgigpajpcianaaGreatDoorChecked
import GoSem.Claim
import GoSem.ClaimJoined
import GoSem.ClaimMapViews
import Derived.JoinedTies
import Derived.KernelRfl
namespace Go.Proofs.YtpgigpajpcianaaGreatDoor
/- THE CELL 'sum', in the pinned program and in every row, IS THE sha256 OF THE DUMP (.gsa) THAT YtpgigpajpcianaaGreatDoorProg.lean LOADS. Nothing in Lean hashes anything: it is a label: what it is worth is what the hold of that sum in a sandbox is worth. -/
noncomputable def Tryz.pinned : Pinned := { name := "ytpgigpajpcianaagreatdoor", sum := "358256cb23bd034b7814cb06988b3429f62041f2b16daa164f58e5b4818227d0", checked := Tryz.checked }
namespace Rows
def none {H : Type} : Left H := { results := [], args := [] }

/- WHAT THE LISTED PACKAGE-LEVEL VARIABLES READ AS WHEN THE CALL BEGINS. Each datum BY PROGRAM (the guide's laid-datum.mjs) off the statement by which the dump's own 'gosem.cut.vars' lays the variable. In a bare row this is a premise. The card (YtpgigpajpcianaaGreatDoorCards.lean) ties it to the program's text. -/
def laid_penstock_params_rows {H : Type} : DataW H := .agg [.agg [.lit (.int .i64 0), .lit (.int .i64 0), .lit (.int .i64 0), .lit (.int .i64 0), .lit (.int .i64 0), .lit (.int .i64 0), .lit (.int .i64 0)], .agg [.lit (.int .i64 0), .lit (.int .i64 15), .lit (.int .i64 0), .lit (.int .i64 0), .lit (.int .i64 1), .lit (.int .i64 0), .lit (.int .i64 0)], .agg [.lit (.int .i64 0), .lit (.int .i64 15), .lit (.int .i64 0), .lit (.int .i64 1), .lit (.int .i64 0), .lit (.int .i64 0), .lit (.int .i64 0)], .agg [.lit (.int .i64 0), .lit (.int .i64 1000000000), .lit (.int .i64 0), .lit (.int .i64 1), .lit (.int .i64 1), .lit (.int .i64 64), .lit (.int .i64 0)], .agg [.lit (.int .i64 0), .lit (.int .i64 9223372036854775807), .lit (.int .i64 0), .lit (.int .i64 1), .lit (.int .i64 1), .lit (.int .i64 64), .lit (.int .i64 64)], .agg [.lit (.int .i64 0), .lit (.int .i64 1), .lit (.int .i64 2), .lit (.int .i64 1), .lit (.int .i64 1), .lit (.int .i64 64), .lit (.int .i64 0)], .agg [.lit (.int .i64 0), .lit (.int .i64 0), .lit (.int .i64 3), .lit (.int .i64 1), .lit (.int .i64 1), .lit (.int .i64 0), .lit (.int .i64 0)], .agg [.lit (.int .i64 1), .lit (.int .i64 65535), .lit (.int .i64 1), .lit (.int .i64 1), .lit (.int .i64 1), .lit (.int .i64 64), .lit (.int .i64 0)], .agg [.lit (.int .i64 0), .lit (.int .i64 1), .lit (.int .i64 0), .lit (.int .i64 1), .lit (.int .i64 1), .lit (.int .i64 128), .lit (.int .i64 0)], .agg [.lit (.int .i64 0), .lit (.int .i64 0), .lit (.int .i64 0), .lit (.int .i64 1), .lit (.int .i64 1), .lit (.int .i64 0), .lit (.int .i64 0)], .agg [.lit (.int .i64 0), .lit (.int .i64 1000000000), .lit (.int .i64 0), .lit (.int .i64 1), .lit (.int .i64 1), .lit (.int .i64 64), .lit (.int .i64 0)], .agg [.lit (.int .i64 0), .lit (.int .i64 1), .lit (.int .i64 0), .lit (.int .i64 1), .lit (.int .i64 1), .lit (.int .i64 320), .lit (.int .i64 0)], .agg [.lit (.int .i64 1), .lit (.int .i64 4), .lit (.int .i64 0), .lit (.int .i64 (-1)), .lit (.int .i64 1), .lit (.int .i64 0), .lit (.int .i64 0)], .agg [.lit (.int .i64 1), .lit (.int .i64 4), .lit (.int .i64 1), .lit (.int .i64 (-1)), .lit (.int .i64 1), .lit (.int .i64 0), .lit (.int .i64 96)], .agg [.lit (.int .i64 1), .lit (.int .i64 9223372036854775807), .lit (.int .i64 1), .lit (.int .i64 2), .lit (.int .i64 1), .lit (.int .i64 192), .lit (.int .i64 128)], .agg [.lit (.int .i64 1), .lit (.int .i64 4), .lit (.int .i64 0), .lit (.int .i64 1), .lit (.int .i64 (-1)), .lit (.int .i64 0), .lit (.int .i64 0)], .agg [.lit (.int .i64 1), .lit (.int .i64 4), .lit (.int .i64 0), .lit (.int .i64 1), .lit (.int .i64 (-1)), .lit (.int .i64 64), .lit (.int .i64 0)]]

/-- 'penstocklaw18.SpoolMakes': WHATEVER THE INPUT: true; the input reads as it did. -/
def spoolMakesSpec : ChangeSpec := { name := "spoolMakes", fn := fun _ => fun
  | [d] => { results := [.lit (.bool true)], args := [d] }
  | _ => none }
def spoolMakesRow : OpenClaim := { program := "ytpgigpajpcianaagreatdoor", sum := "358256cb23bd034b7814cb06988b3429f62041f2b16daa164f58e5b4818227d0", func := "penstock/penstocklaw18.SpoolMakes", spec := "spoolMakes", inPlace := ["internal/bytealg.abigen_runtime_cmpstring", "internal/bytealg.IndexByteString", "internal/bytealg.IndexString"], unfollowed := true, recurses := true, named := ["penstock/params.rows", "internal/bytealg.MaxLen"], apart := false, laid := [("penstock/params.rows", laid_penstock_params_rows)] }
def SpoolMakesSaid : Prop := spoolMakesRow.holds Tryz.pinned (OpenSpec.ofChange spoolMakesSpec)

/-- ITS FALSE NEIGHBOUR: 'it returns false'. Refute it at one input. -/
def spoolMakesWrong : ChangeSpec := { name := "spoolMakes", fn := fun _ => fun
  | [d] => { results := [.lit (.bool false)], args := [d] }
  | _ => none }
def SpoolMakesWrongFalsely : Prop := spoolMakesRow.holds Tryz.pinned (OpenSpec.ofChange spoolMakesWrong)

/-- 'penstocklaw18.SpoolMeans': WHATEVER THE INPUT: true; the input reads as it did. -/
def spoolMeansSpec : ChangeSpec := { name := "spoolMeans", fn := fun _ => fun
  | [d1, d2, d3, d4] => { results := [.lit (.bool true)], args := [d1, d2, d3, d4] }
  | _ => none }
def spoolMeansRow : OpenClaim := { program := "ytpgigpajpcianaagreatdoor", sum := "358256cb23bd034b7814cb06988b3429f62041f2b16daa164f58e5b4818227d0", func := "penstock/penstocklaw18.SpoolMeans", spec := "spoolMeans", inPlace := ["internal/bytealg.abigen_runtime_cmpstring", "internal/bytealg.IndexByteString", "internal/bytealg.IndexString"], unfollowed := true, recurses := true, named := ["penstock/params.rows", "internal/bytealg.MaxLen"], apart := false, laid := [("penstock/params.rows", laid_penstock_params_rows)] }
def SpoolMeansSaid : Prop := spoolMeansRow.holds Tryz.pinned (OpenSpec.ofChange spoolMeansSpec)

/-- ITS FALSE NEIGHBOUR: 'it returns false'. Refute it at one input. -/
def spoolMeansWrong : ChangeSpec := { name := "spoolMeans", fn := fun _ => fun
  | [d1, d2, d3, d4] => { results := [.lit (.bool false)], args := [d1, d2, d3, d4] }
  | _ => none }
def SpoolMeansWrongFalsely : Prop := spoolMeansRow.holds Tryz.pinned (OpenSpec.ofChange spoolMeansWrong)

/-- 'penstocklaw18.SpoolHolds': WHATEVER THE INPUT: true; the input reads as it did. -/
def spoolHoldsSpec : ChangeSpec := { name := "spoolHolds", fn := fun _ => fun
  | [d1, d2, d3, d4] => { results := [.lit (.bool true)], args := [d1, d2, d3, d4] }
  | _ => none }
def spoolHoldsRow : OpenClaim := { program := "ytpgigpajpcianaagreatdoor", sum := "358256cb23bd034b7814cb06988b3429f62041f2b16daa164f58e5b4818227d0", func := "penstock/penstocklaw18.SpoolHolds", spec := "spoolHolds", inPlace := ["internal/bytealg.abigen_runtime_cmpstring", "internal/bytealg.IndexByteString", "internal/bytealg.IndexString"], unfollowed := true, recurses := true, named := ["penstock/params.rows", "internal/bytealg.MaxLen"], apart := false, laid := [("penstock/params.rows", laid_penstock_params_rows)] }
def SpoolHoldsSaid : Prop := spoolHoldsRow.holds Tryz.pinned (OpenSpec.ofChange spoolHoldsSpec)

/-- ITS FALSE NEIGHBOUR: 'it returns false'. Refute it at one input. -/
def spoolHoldsWrong : ChangeSpec := { name := "spoolHolds", fn := fun _ => fun
  | [d1, d2, d3, d4] => { results := [.lit (.bool false)], args := [d1, d2, d3, d4] }
  | _ => none }
def SpoolHoldsWrongFalsely : Prop := spoolHoldsRow.holds Tryz.pinned (OpenSpec.ofChange spoolHoldsWrong)

/-- 'penstocklaw18.SpoolCloses': WHATEVER THE INPUT: true; the input reads as it did. -/
def spoolClosesSpec : ChangeSpec := { name := "spoolCloses", fn := fun _ => fun
  | [d1, d2, d3, d4, d5] => { results := [.lit (.bool true)], args := [d1, d2, d3, d4, d5] }
  | _ => none }
def spoolClosesRow : OpenClaim := { program := "ytpgigpajpcianaagreatdoor", sum := "358256cb23bd034b7814cb06988b3429f62041f2b16daa164f58e5b4818227d0", func := "penstock/penstocklaw18.SpoolCloses", spec := "spoolCloses", inPlace := ["internal/bytealg.abigen_runtime_cmpstring", "internal/bytealg.IndexByteString", "internal/bytealg.IndexString"], unfollowed := true, recurses := true, named := ["penstock/params.rows", "internal/bytealg.MaxLen"], apart := false, laid := [("penstock/params.rows", laid_penstock_params_rows)] }
def SpoolClosesSaid : Prop := spoolClosesRow.holds Tryz.pinned (OpenSpec.ofChange spoolClosesSpec)

/-- ITS FALSE NEIGHBOUR: 'it returns false'. Refute it at one input. -/
def spoolClosesWrong : ChangeSpec := { name := "spoolCloses", fn := fun _ => fun
  | [d1, d2, d3, d4, d5] => { results := [.lit (.bool false)], args := [d1, d2, d3, d4, d5] }
  | _ => none }
def SpoolClosesWrongFalsely : Prop := spoolClosesRow.holds Tryz.pinned (OpenSpec.ofChange spoolClosesWrong)

/-- 'penstocklaw18.SpoolSorts': WHATEVER THE INPUT: true; the input reads as it did. -/
def spoolSortsSpec : ChangeSpec := { name := "spoolSorts", fn := fun _ => fun
  | [d1, d2, d3] => { results := [.lit (.bool true)], args := [d1, d2, d3] }
  | _ => none }
def spoolSortsRow : OpenClaim := { program := "ytpgigpajpcianaagreatdoor", sum := "358256cb23bd034b7814cb06988b3429f62041f2b16daa164f58e5b4818227d0", func := "penstock/penstocklaw18.SpoolSorts", spec := "spoolSorts", inPlace := ["internal/bytealg.abigen_runtime_cmpstring", "internal/bytealg.IndexByteString", "internal/bytealg.IndexString"], unfollowed := true, recurses := true, named := ["penstock/params.rows", "internal/bytealg.MaxLen"], apart := false, laid := [("penstock/params.rows", laid_penstock_params_rows)] }
def SpoolSortsSaid : Prop := spoolSortsRow.holds Tryz.pinned (OpenSpec.ofChange spoolSortsSpec)

/-- ITS FALSE NEIGHBOUR: 'it returns false'. Refute it at one input. -/
def spoolSortsWrong : ChangeSpec := { name := "spoolSorts", fn := fun _ => fun
  | [d1, d2, d3] => { results := [.lit (.bool false)], args := [d1, d2, d3] }
  | _ => none }
def SpoolSortsWrongFalsely : Prop := spoolSortsRow.holds Tryz.pinned (OpenSpec.ofChange spoolSortsWrong)

/-- 'penstocklaw18.SpoolChunks': WHATEVER THE INPUT: true; the input reads as it did. -/
def spoolChunksSpec : ChangeSpec := { name := "spoolChunks", fn := fun _ => fun
  | [d1, d2, d3, d4, d5] => { results := [.lit (.bool true)], args := [d1, d2, d3, d4, d5] }
  | _ => none }
def spoolChunksRow : OpenClaim := { program := "ytpgigpajpcianaagreatdoor", sum := "358256cb23bd034b7814cb06988b3429f62041f2b16daa164f58e5b4818227d0", func := "penstock/penstocklaw18.SpoolChunks", spec := "spoolChunks", inPlace := ["internal/bytealg.abigen_runtime_cmpstring", "internal/bytealg.IndexByteString", "internal/bytealg.IndexString"], unfollowed := true, recurses := true, named := ["penstock/params.rows", "internal/bytealg.MaxLen"], apart := false, laid := [("penstock/params.rows", laid_penstock_params_rows)] }
def SpoolChunksSaid : Prop := spoolChunksRow.holds Tryz.pinned (OpenSpec.ofChange spoolChunksSpec)

/-- ITS FALSE NEIGHBOUR: 'it returns false'. Refute it at one input. -/
def spoolChunksWrong : ChangeSpec := { name := "spoolChunks", fn := fun _ => fun
  | [d1, d2, d3, d4, d5] => { results := [.lit (.bool false)], args := [d1, d2, d3, d4, d5] }
  | _ => none }
def SpoolChunksWrongFalsely : Prop := spoolChunksRow.holds Tryz.pinned (OpenSpec.ofChange spoolChunksWrong)

/-- 'penstocklaw18.SpoolNobody': WHATEVER THE INPUT: true; the input reads as it did. -/
def spoolNobodySpec : ChangeSpec := { name := "spoolNobody", fn := fun _ => fun
  | [] => { results := [.lit (.bool true)], args := [] }
  | _ => none }
def spoolNobodyRow : OpenClaim := { program := "ytpgigpajpcianaagreatdoor", sum := "358256cb23bd034b7814cb06988b3429f62041f2b16daa164f58e5b4818227d0", func := "penstock/penstocklaw18.SpoolNobody", spec := "spoolNobody", inPlace := ["internal/bytealg.abigen_runtime_cmpstring", "internal/bytealg.IndexByteString", "internal/bytealg.IndexString"], unfollowed := true, recurses := true, named := ["internal/bytealg.MaxLen", "penstock/params.rows"], apart := false, laid := [("penstock/params.rows", laid_penstock_params_rows)] }
def SpoolNobodySaid : Prop := spoolNobodyRow.holds Tryz.pinned (OpenSpec.ofChange spoolNobodySpec)

/-- ITS FALSE NEIGHBOUR: 'it returns false'. Refute it at one input. -/
def spoolNobodyWrong : ChangeSpec := { name := "spoolNobody", fn := fun _ => fun
  | [] => { results := [.lit (.bool false)], args := [] }
  | _ => none }
def SpoolNobodyWrongFalsely : Prop := spoolNobodyRow.holds Tryz.pinned (OpenSpec.ofChange spoolNobodyWrong)

/- THE SECOND FORM. 'bulk': how many values and letters a reading holds, each counted each time it is reached (what is shared counts as often as it is met; a slice's spare places count too). A statement '..UptoSaid' is the law's where the arguments, and the package variables that the reading takes, are together of bulk at most 1048576: NARROWER than '..Said'. Prove '..Said' where nothing that the law and all that it calls make is longer than what came in: it says more and counts as full. Else prove '..UptoSaid'. A law counts once. -/
mutual
def uptoBulk {H : Type} : DataW H → Nat
  | .lit (.string bytes) => bytes.length + 1
  | .lit _ => 1
  | .nil => 1
  | .ptr d => uptoBulk d + 1
  | .slice elems spare => uptoBulkAll elems + uptoBulkAll spare + 1
  | .agg parts => uptoBulkAll parts + 1
  | .iface _ d => uptoBulk d + 1
  | .map entries => uptoBulkEntries entries + 1
  | .held _ => 1
def uptoBulkAll {H : Type} : List (DataW H) → Nat
  | [] => 0
  | d :: r => uptoBulk d + uptoBulkAll r
def uptoBulkEntries {H : Type} : List (Lit × DataW H) → Nat
  | [] => 0
  | x :: r => uptoBulkEntry x + uptoBulkEntries r
def uptoBulkEntry {H : Type} : Lit × DataW H → Nat
  | (.string bytes, d) => bytes.length + uptoBulk d + 1
  | (_, d) => uptoBulk d + 1
 end
def uptoSmall : (H : Type) → List (DataW H) → Bool := fun _ ds => decide (uptoBulkAll ds ≤ 1048576)
def OpenSpec.upto (s : _root_.Go.ChangeSpec) : _root_.Go.OpenSpec := { _root_.Go.OpenSpec.ofChange s with cond := some uptoSmall }

/-- 'penstocklaw18.SpoolMakes', WHERE WHAT IT READS IS OF BULK AT MOST 1048576: true; the input reads as it did. -/
def spoolMakesUptoRow : OpenClaim := { program := "ytpgigpajpcianaagreatdoor", sum := "358256cb23bd034b7814cb06988b3429f62041f2b16daa164f58e5b4818227d0", func := "penstock/penstocklaw18.SpoolMakes", spec := "spoolMakes", inPlace := ["internal/bytealg.abigen_runtime_cmpstring", "internal/bytealg.IndexByteString", "internal/bytealg.IndexString"], unfollowed := true, recurses := true, named := ["penstock/params.rows", "internal/bytealg.MaxLen"], apart := false, laid := [("penstock/params.rows", laid_penstock_params_rows)], narrowed := true }
def SpoolMakesUptoSaid : Prop := spoolMakesUptoRow.holds Tryz.pinned (OpenSpec.upto spoolMakesSpec)

/-- 'penstocklaw18.SpoolMeans', WHERE WHAT IT READS IS OF BULK AT MOST 1048576: true; the input reads as it did. -/
def spoolMeansUptoRow : OpenClaim := { program := "ytpgigpajpcianaagreatdoor", sum := "358256cb23bd034b7814cb06988b3429f62041f2b16daa164f58e5b4818227d0", func := "penstock/penstocklaw18.SpoolMeans", spec := "spoolMeans", inPlace := ["internal/bytealg.abigen_runtime_cmpstring", "internal/bytealg.IndexByteString", "internal/bytealg.IndexString"], unfollowed := true, recurses := true, named := ["penstock/params.rows", "internal/bytealg.MaxLen"], apart := false, laid := [("penstock/params.rows", laid_penstock_params_rows)], narrowed := true }
def SpoolMeansUptoSaid : Prop := spoolMeansUptoRow.holds Tryz.pinned (OpenSpec.upto spoolMeansSpec)

/-- 'penstocklaw18.SpoolHolds', WHERE WHAT IT READS IS OF BULK AT MOST 1048576: true; the input reads as it did. -/
def spoolHoldsUptoRow : OpenClaim := { program := "ytpgigpajpcianaagreatdoor", sum := "358256cb23bd034b7814cb06988b3429f62041f2b16daa164f58e5b4818227d0", func := "penstock/penstocklaw18.SpoolHolds", spec := "spoolHolds", inPlace := ["internal/bytealg.abigen_runtime_cmpstring", "internal/bytealg.IndexByteString", "internal/bytealg.IndexString"], unfollowed := true, recurses := true, named := ["penstock/params.rows", "internal/bytealg.MaxLen"], apart := false, laid := [("penstock/params.rows", laid_penstock_params_rows)], narrowed := true }
def SpoolHoldsUptoSaid : Prop := spoolHoldsUptoRow.holds Tryz.pinned (OpenSpec.upto spoolHoldsSpec)

/-- 'penstocklaw18.SpoolCloses', WHERE WHAT IT READS IS OF BULK AT MOST 1048576: true; the input reads as it did. -/
def spoolClosesUptoRow : OpenClaim := { program := "ytpgigpajpcianaagreatdoor", sum := "358256cb23bd034b7814cb06988b3429f62041f2b16daa164f58e5b4818227d0", func := "penstock/penstocklaw18.SpoolCloses", spec := "spoolCloses", inPlace := ["internal/bytealg.abigen_runtime_cmpstring", "internal/bytealg.IndexByteString", "internal/bytealg.IndexString"], unfollowed := true, recurses := true, named := ["penstock/params.rows", "internal/bytealg.MaxLen"], apart := false, laid := [("penstock/params.rows", laid_penstock_params_rows)], narrowed := true }
def SpoolClosesUptoSaid : Prop := spoolClosesUptoRow.holds Tryz.pinned (OpenSpec.upto spoolClosesSpec)

/-- 'penstocklaw18.SpoolSorts', WHERE WHAT IT READS IS OF BULK AT MOST 1048576: true; the input reads as it did. -/
def spoolSortsUptoRow : OpenClaim := { program := "ytpgigpajpcianaagreatdoor", sum := "358256cb23bd034b7814cb06988b3429f62041f2b16daa164f58e5b4818227d0", func := "penstock/penstocklaw18.SpoolSorts", spec := "spoolSorts", inPlace := ["internal/bytealg.abigen_runtime_cmpstring", "internal/bytealg.IndexByteString", "internal/bytealg.IndexString"], unfollowed := true, recurses := true, named := ["penstock/params.rows", "internal/bytealg.MaxLen"], apart := false, laid := [("penstock/params.rows", laid_penstock_params_rows)], narrowed := true }
def SpoolSortsUptoSaid : Prop := spoolSortsUptoRow.holds Tryz.pinned (OpenSpec.upto spoolSortsSpec)

/-- 'penstocklaw18.SpoolChunks', WHERE WHAT IT READS IS OF BULK AT MOST 1048576: true; the input reads as it did. -/
def spoolChunksUptoRow : OpenClaim := { program := "ytpgigpajpcianaagreatdoor", sum := "358256cb23bd034b7814cb06988b3429f62041f2b16daa164f58e5b4818227d0", func := "penstock/penstocklaw18.SpoolChunks", spec := "spoolChunks", inPlace := ["internal/bytealg.abigen_runtime_cmpstring", "internal/bytealg.IndexByteString", "internal/bytealg.IndexString"], unfollowed := true, recurses := true, named := ["penstock/params.rows", "internal/bytealg.MaxLen"], apart := false, laid := [("penstock/params.rows", laid_penstock_params_rows)], narrowed := true }
def SpoolChunksUptoSaid : Prop := spoolChunksUptoRow.holds Tryz.pinned (OpenSpec.upto spoolChunksSpec)

/-- 'penstocklaw18.SpoolNobody', WHERE WHAT IT READS IS OF BULK AT MOST 1048576: true; the input reads as it did. -/
def spoolNobodyUptoRow : OpenClaim := { program := "ytpgigpajpcianaagreatdoor", sum := "358256cb23bd034b7814cb06988b3429f62041f2b16daa164f58e5b4818227d0", func := "penstock/penstocklaw18.SpoolNobody", spec := "spoolNobody", inPlace := ["internal/bytealg.abigen_runtime_cmpstring", "internal/bytealg.IndexByteString", "internal/bytealg.IndexString"], unfollowed := true, recurses := true, named := ["internal/bytealg.MaxLen", "penstock/params.rows"], apart := false, laid := [("penstock/params.rows", laid_penstock_params_rows)], narrowed := true }
def SpoolNobodyUptoSaid : Prop := spoolNobodyUptoRow.holds Tryz.pinned (OpenSpec.upto spoolNobodySpec)

end Rows
end Go.Proofs.YtpgigpajpcianaaGreatDoor
