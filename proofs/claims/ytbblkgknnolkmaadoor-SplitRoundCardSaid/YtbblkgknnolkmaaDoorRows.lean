/-
  NARROWER THAN 'FOR EVERY INPUT', by the rows' own cells (each row's printed sentence says how): SplitMakes: laid · SplitMeans: laid · SplitHolds: laid · SplitRefuses: laid · SplitChunks: laid · SplitGrows: laid · SplitRound: laid.
  DERIVED. THE GIVEN ROWS OF THIS SEAT. 7 by the template 'for every input the law returns true; each argument reads behind the call as it read before'; 0 by the template 'total and deterministic' (their statements: YtbblkgknnolkmaaDoorTotals.lean).
  GIVEN WITH THE SEED: the statements are not yours to turn. If you find one false, say at which input.
  Laid BY PROGRAM, IN A SANDBOX (cutbox-rows.mjs): the forced cells as the released guide's own fill.sh prints them over the translation 9af873ec55f7f36d… (all of the seat's roots in one cut). By AI agents, Wed Nov 11 2026. No macro, syntax, notation, axiom, sorry.
-/
import Derived.Test.YtbblkgknnolkmaaDoorChecked
import GoSem.Claim
import GoSem.ClaimJoined
import GoSem.ClaimMapViews
import Derived.JoinedTies
import Derived.KernelRfl
namespace Go.Proofs.YtbblkgknnolkmaaDoor
/- THE CELL 'sum', in the pinned program and in every row, IS THE sha256 OF THE DUMP (.gsa) THAT YtbblkgknnolkmaaDoorProg.lean LOADS. Nothing in Lean hashes anything: it is a label: what it is worth is what the hold of that sum in a sandbox is worth. -/
noncomputable def Tryd.pinned : Pinned := { name := "ytbblkgknnolkmaadoor", sum := "9af873ec55f7f36dea356e539a99b6c613641d19e95452f6573930bae0f02cbc", checked := Tryd.checked }
namespace Rows
def none {H : Type} : Left H := { results := [], args := [] }

/- WHAT THE LISTED PACKAGE-LEVEL VARIABLES READ AS WHEN THE CALL BEGINS. Each datum BY PROGRAM (the guide's laid-datum.mjs) off the statement by which the dump's own 'gosem.cut.vars' lays the variable. In a bare row this is a premise. The card (YtbblkgknnolkmaaDoorCards.lean) ties it to the program's text. -/
def laid_penstock_params_rows {H : Type} : DataW H := .agg [.agg [.lit (.int .i64 0), .lit (.int .i64 0), .lit (.int .i64 0), .lit (.int .i64 0), .lit (.int .i64 0), .lit (.int .i64 0), .lit (.int .i64 0)], .agg [.lit (.int .i64 0), .lit (.int .i64 15), .lit (.int .i64 0), .lit (.int .i64 0), .lit (.int .i64 1), .lit (.int .i64 0), .lit (.int .i64 0)], .agg [.lit (.int .i64 0), .lit (.int .i64 15), .lit (.int .i64 0), .lit (.int .i64 1), .lit (.int .i64 0), .lit (.int .i64 0), .lit (.int .i64 0)], .agg [.lit (.int .i64 0), .lit (.int .i64 1000000000), .lit (.int .i64 0), .lit (.int .i64 1), .lit (.int .i64 1), .lit (.int .i64 64), .lit (.int .i64 0)], .agg [.lit (.int .i64 0), .lit (.int .i64 9223372036854775807), .lit (.int .i64 0), .lit (.int .i64 1), .lit (.int .i64 1), .lit (.int .i64 64), .lit (.int .i64 64)], .agg [.lit (.int .i64 0), .lit (.int .i64 1), .lit (.int .i64 2), .lit (.int .i64 1), .lit (.int .i64 1), .lit (.int .i64 64), .lit (.int .i64 0)], .agg [.lit (.int .i64 0), .lit (.int .i64 0), .lit (.int .i64 3), .lit (.int .i64 1), .lit (.int .i64 1), .lit (.int .i64 0), .lit (.int .i64 0)], .agg [.lit (.int .i64 1), .lit (.int .i64 65535), .lit (.int .i64 1), .lit (.int .i64 1), .lit (.int .i64 1), .lit (.int .i64 64), .lit (.int .i64 0)], .agg [.lit (.int .i64 0), .lit (.int .i64 1), .lit (.int .i64 0), .lit (.int .i64 1), .lit (.int .i64 1), .lit (.int .i64 128), .lit (.int .i64 0)], .agg [.lit (.int .i64 0), .lit (.int .i64 0), .lit (.int .i64 0), .lit (.int .i64 1), .lit (.int .i64 1), .lit (.int .i64 0), .lit (.int .i64 0)], .agg [.lit (.int .i64 0), .lit (.int .i64 1000000000), .lit (.int .i64 0), .lit (.int .i64 1), .lit (.int .i64 1), .lit (.int .i64 64), .lit (.int .i64 0)], .agg [.lit (.int .i64 0), .lit (.int .i64 1), .lit (.int .i64 0), .lit (.int .i64 1), .lit (.int .i64 1), .lit (.int .i64 320), .lit (.int .i64 0)], .agg [.lit (.int .i64 1), .lit (.int .i64 4), .lit (.int .i64 0), .lit (.int .i64 (-1)), .lit (.int .i64 1), .lit (.int .i64 0), .lit (.int .i64 0)], .agg [.lit (.int .i64 1), .lit (.int .i64 4), .lit (.int .i64 1), .lit (.int .i64 (-1)), .lit (.int .i64 1), .lit (.int .i64 0), .lit (.int .i64 96)], .agg [.lit (.int .i64 1), .lit (.int .i64 9223372036854775807), .lit (.int .i64 1), .lit (.int .i64 2), .lit (.int .i64 1), .lit (.int .i64 192), .lit (.int .i64 128)], .agg [.lit (.int .i64 1), .lit (.int .i64 4), .lit (.int .i64 0), .lit (.int .i64 1), .lit (.int .i64 (-1)), .lit (.int .i64 0), .lit (.int .i64 0)], .agg [.lit (.int .i64 1), .lit (.int .i64 4), .lit (.int .i64 0), .lit (.int .i64 1), .lit (.int .i64 (-1)), .lit (.int .i64 64), .lit (.int .i64 0)]]

/-- 'penstocklaw16.SplitMakes': WHATEVER THE INPUT: true; the input reads as it did. -/
def splitMakesSpec : ChangeSpec := { name := "splitMakes", fn := fun _ => fun
  | [d] => { results := [.lit (.bool true)], args := [d] }
  | _ => none }
def splitMakesRow : OpenClaim := { program := "ytbblkgknnolkmaadoor", sum := "9af873ec55f7f36dea356e539a99b6c613641d19e95452f6573930bae0f02cbc", func := "penstock/penstocklaw16.SplitMakes", spec := "splitMakes", unfollowed := true, recurses := true, named := ["penstock/params.rows"], apart := false, laid := [("penstock/params.rows", laid_penstock_params_rows)] }
def SplitMakesSaid : Prop := splitMakesRow.holds Tryd.pinned (OpenSpec.ofChange splitMakesSpec)

/-- ITS FALSE NEIGHBOUR: 'it returns false'. Refute it at one input. -/
def splitMakesWrong : ChangeSpec := { name := "splitMakes", fn := fun _ => fun
  | [d] => { results := [.lit (.bool false)], args := [d] }
  | _ => none }
def SplitMakesWrongFalsely : Prop := splitMakesRow.holds Tryd.pinned (OpenSpec.ofChange splitMakesWrong)

/-- 'penstocklaw16.SplitMeans': WHATEVER THE INPUT: true; the input reads as it did. -/
def splitMeansSpec : ChangeSpec := { name := "splitMeans", fn := fun _ => fun
  | [d1, d2, d3] => { results := [.lit (.bool true)], args := [d1, d2, d3] }
  | _ => none }
def splitMeansRow : OpenClaim := { program := "ytbblkgknnolkmaadoor", sum := "9af873ec55f7f36dea356e539a99b6c613641d19e95452f6573930bae0f02cbc", func := "penstock/penstocklaw16.SplitMeans", spec := "splitMeans", unfollowed := true, recurses := true, named := ["penstock/params.rows"], apart := false, laid := [("penstock/params.rows", laid_penstock_params_rows)] }
def SplitMeansSaid : Prop := splitMeansRow.holds Tryd.pinned (OpenSpec.ofChange splitMeansSpec)

/-- ITS FALSE NEIGHBOUR: 'it returns false'. Refute it at one input. -/
def splitMeansWrong : ChangeSpec := { name := "splitMeans", fn := fun _ => fun
  | [d1, d2, d3] => { results := [.lit (.bool false)], args := [d1, d2, d3] }
  | _ => none }
def SplitMeansWrongFalsely : Prop := splitMeansRow.holds Tryd.pinned (OpenSpec.ofChange splitMeansWrong)

/-- 'penstocklaw16.SplitHolds': WHATEVER THE INPUT: true; the input reads as it did. -/
def splitHoldsSpec : ChangeSpec := { name := "splitHolds", fn := fun _ => fun
  | [d1, d2, d3] => { results := [.lit (.bool true)], args := [d1, d2, d3] }
  | _ => none }
def splitHoldsRow : OpenClaim := { program := "ytbblkgknnolkmaadoor", sum := "9af873ec55f7f36dea356e539a99b6c613641d19e95452f6573930bae0f02cbc", func := "penstock/penstocklaw16.SplitHolds", spec := "splitHolds", unfollowed := true, recurses := true, named := ["penstock/params.rows"], apart := false, laid := [("penstock/params.rows", laid_penstock_params_rows)] }
def SplitHoldsSaid : Prop := splitHoldsRow.holds Tryd.pinned (OpenSpec.ofChange splitHoldsSpec)

/-- ITS FALSE NEIGHBOUR: 'it returns false'. Refute it at one input. -/
def splitHoldsWrong : ChangeSpec := { name := "splitHolds", fn := fun _ => fun
  | [d1, d2, d3] => { results := [.lit (.bool false)], args := [d1, d2, d3] }
  | _ => none }
def SplitHoldsWrongFalsely : Prop := splitHoldsRow.holds Tryd.pinned (OpenSpec.ofChange splitHoldsWrong)

/-- 'penstocklaw16.SplitRefuses': WHATEVER THE INPUT: true; the input reads as it did. -/
def splitRefusesSpec : ChangeSpec := { name := "splitRefuses", fn := fun _ => fun
  | [d1, d2, d3, d4, d5] => { results := [.lit (.bool true)], args := [d1, d2, d3, d4, d5] }
  | _ => none }
def splitRefusesRow : OpenClaim := { program := "ytbblkgknnolkmaadoor", sum := "9af873ec55f7f36dea356e539a99b6c613641d19e95452f6573930bae0f02cbc", func := "penstock/penstocklaw16.SplitRefuses", spec := "splitRefuses", unfollowed := true, recurses := true, named := ["penstock/params.rows"], apart := false, laid := [("penstock/params.rows", laid_penstock_params_rows)] }
def SplitRefusesSaid : Prop := splitRefusesRow.holds Tryd.pinned (OpenSpec.ofChange splitRefusesSpec)

/-- ITS FALSE NEIGHBOUR: 'it returns false'. Refute it at one input. -/
def splitRefusesWrong : ChangeSpec := { name := "splitRefuses", fn := fun _ => fun
  | [d1, d2, d3, d4, d5] => { results := [.lit (.bool false)], args := [d1, d2, d3, d4, d5] }
  | _ => none }
def SplitRefusesWrongFalsely : Prop := splitRefusesRow.holds Tryd.pinned (OpenSpec.ofChange splitRefusesWrong)

/-- 'penstocklaw16.SplitChunks': WHATEVER THE INPUT: true; the input reads as it did. -/
def splitChunksSpec : ChangeSpec := { name := "splitChunks", fn := fun _ => fun
  | [d1, d2, d3, d4] => { results := [.lit (.bool true)], args := [d1, d2, d3, d4] }
  | _ => none }
def splitChunksRow : OpenClaim := { program := "ytbblkgknnolkmaadoor", sum := "9af873ec55f7f36dea356e539a99b6c613641d19e95452f6573930bae0f02cbc", func := "penstock/penstocklaw16.SplitChunks", spec := "splitChunks", unfollowed := true, recurses := true, named := ["penstock/params.rows"], apart := false, laid := [("penstock/params.rows", laid_penstock_params_rows)] }
def SplitChunksSaid : Prop := splitChunksRow.holds Tryd.pinned (OpenSpec.ofChange splitChunksSpec)

/-- ITS FALSE NEIGHBOUR: 'it returns false'. Refute it at one input. -/
def splitChunksWrong : ChangeSpec := { name := "splitChunks", fn := fun _ => fun
  | [d1, d2, d3, d4] => { results := [.lit (.bool false)], args := [d1, d2, d3, d4] }
  | _ => none }
def SplitChunksWrongFalsely : Prop := splitChunksRow.holds Tryd.pinned (OpenSpec.ofChange splitChunksWrong)

/-- 'penstocklaw16.SplitGrows': WHATEVER THE INPUT: true; the input reads as it did. -/
def splitGrowsSpec : ChangeSpec := { name := "splitGrows", fn := fun _ => fun
  | [d1, d2, d3, d4, d5] => { results := [.lit (.bool true)], args := [d1, d2, d3, d4, d5] }
  | _ => none }
def splitGrowsRow : OpenClaim := { program := "ytbblkgknnolkmaadoor", sum := "9af873ec55f7f36dea356e539a99b6c613641d19e95452f6573930bae0f02cbc", func := "penstock/penstocklaw16.SplitGrows", spec := "splitGrows", unfollowed := true, recurses := true, named := ["penstock/params.rows"], apart := false, laid := [("penstock/params.rows", laid_penstock_params_rows)] }
def SplitGrowsSaid : Prop := splitGrowsRow.holds Tryd.pinned (OpenSpec.ofChange splitGrowsSpec)

/-- ITS FALSE NEIGHBOUR: 'it returns false'. Refute it at one input. -/
def splitGrowsWrong : ChangeSpec := { name := "splitGrows", fn := fun _ => fun
  | [d1, d2, d3, d4, d5] => { results := [.lit (.bool false)], args := [d1, d2, d3, d4, d5] }
  | _ => none }
def SplitGrowsWrongFalsely : Prop := splitGrowsRow.holds Tryd.pinned (OpenSpec.ofChange splitGrowsWrong)

/-- 'penstocklaw16.SplitRound': WHATEVER THE INPUT: true; the input reads as it did. -/
def splitRoundSpec : ChangeSpec := { name := "splitRound", fn := fun _ => fun
  | [d1, d2, d3] => { results := [.lit (.bool true)], args := [d1, d2, d3] }
  | _ => none }
def splitRoundRow : OpenClaim := { program := "ytbblkgknnolkmaadoor", sum := "9af873ec55f7f36dea356e539a99b6c613641d19e95452f6573930bae0f02cbc", func := "penstock/penstocklaw16.SplitRound", spec := "splitRound", unfollowed := true, recurses := true, named := ["penstock/params.rows"], apart := false, laid := [("penstock/params.rows", laid_penstock_params_rows)] }
def SplitRoundSaid : Prop := splitRoundRow.holds Tryd.pinned (OpenSpec.ofChange splitRoundSpec)

/-- ITS FALSE NEIGHBOUR: 'it returns false'. Refute it at one input. -/
def splitRoundWrong : ChangeSpec := { name := "splitRound", fn := fun _ => fun
  | [d1, d2, d3] => { results := [.lit (.bool false)], args := [d1, d2, d3] }
  | _ => none }
def SplitRoundWrongFalsely : Prop := splitRoundRow.holds Tryd.pinned (OpenSpec.ofChange splitRoundWrong)

/- THE SECOND FORM. 'bulk': how many values and letters a reading holds, each counted each time it is reached (what is shared counts as often as it is met; a slice's spare places count too). A statement '..UptoSaid' is the law's where the arguments, and the package variables that the reading takes, are together of bulk at most 1048576: NARROWER than '..Said'. Prove '..Said' where nothing that the law and all that it calls make is longer than what came in: it says more and counts as full. Else prove '..UptoSaid'. A law counts once. -/
mutual
def uptoBulk {H : Type} : DataW H → Nat
  | .lit (.string bytes) => bytes.length + 1
  | .lit _ => 1
  | .nil => 1
  | .ptr d => uptoBulk d + 1
  | .slice elems spare => uptoBulkAll elems + uptoBulkAll spare + 1
  | .agg parts => uptoBulkAll parts + 1
  | .iface _ d => uptoBulk d + 1
  | .map entries => uptoBulkEntries entries + 1
  | .held _ => 1
def uptoBulkAll {H : Type} : List (DataW H) → Nat
  | [] => 0
  | d :: r => uptoBulk d + uptoBulkAll r
def uptoBulkEntries {H : Type} : List (Lit × DataW H) → Nat
  | [] => 0
  | x :: r => uptoBulkEntry x + uptoBulkEntries r
def uptoBulkEntry {H : Type} : Lit × DataW H → Nat
  | (.string bytes, d) => bytes.length + uptoBulk d + 1
  | (_, d) => uptoBulk d + 1
 end
def uptoSmall : (H : Type) → List (DataW H) → Bool := fun _ ds => decide (uptoBulkAll ds ≤ 1048576)
def OpenSpec.upto (s : _root_.Go.ChangeSpec) : _root_.Go.OpenSpec := { _root_.Go.OpenSpec.ofChange s with cond := some uptoSmall }

/-- 'penstocklaw16.SplitMakes', WHERE WHAT IT READS IS OF BULK AT MOST 1048576: true; the input reads as it did. -/
def splitMakesUptoRow : OpenClaim := { program := "ytbblkgknnolkmaadoor", sum := "9af873ec55f7f36dea356e539a99b6c613641d19e95452f6573930bae0f02cbc", func := "penstock/penstocklaw16.SplitMakes", spec := "splitMakes", unfollowed := true, recurses := true, named := ["penstock/params.rows"], apart := false, laid := [("penstock/params.rows", laid_penstock_params_rows)], narrowed := true }
def SplitMakesUptoSaid : Prop := splitMakesUptoRow.holds Tryd.pinned (OpenSpec.upto splitMakesSpec)

/-- 'penstocklaw16.SplitMeans', WHERE WHAT IT READS IS OF BULK AT MOST 1048576: true; the input reads as it did. -/
def splitMeansUptoRow : OpenClaim := { program := "ytbblkgknnolkmaadoor", sum := "9af873ec55f7f36dea356e539a99b6c613641d19e95452f6573930bae0f02cbc", func := "penstock/penstocklaw16.SplitMeans", spec := "splitMeans", unfollowed := true, recurses := true, named := ["penstock/params.rows"], apart := false, laid := [("penstock/params.rows", laid_penstock_params_rows)], narrowed := true }
def SplitMeansUptoSaid : Prop := splitMeansUptoRow.holds Tryd.pinned (OpenSpec.upto splitMeansSpec)

/-- 'penstocklaw16.SplitHolds', WHERE WHAT IT READS IS OF BULK AT MOST 1048576: true; the input reads as it did. -/
def splitHoldsUptoRow : OpenClaim := { program := "ytbblkgknnolkmaadoor", sum := "9af873ec55f7f36dea356e539a99b6c613641d19e95452f6573930bae0f02cbc", func := "penstock/penstocklaw16.SplitHolds", spec := "splitHolds", unfollowed := true, recurses := true, named := ["penstock/params.rows"], apart := false, laid := [("penstock/params.rows", laid_penstock_params_rows)], narrowed := true }
def SplitHoldsUptoSaid : Prop := splitHoldsUptoRow.holds Tryd.pinned (OpenSpec.upto splitHoldsSpec)

/-- 'penstocklaw16.SplitRefuses', WHERE WHAT IT READS IS OF BULK AT MOST 1048576: true; the input reads as it did. -/
def splitRefusesUptoRow : OpenClaim := { program := "ytbblkgknnolkmaadoor", sum := "9af873ec55f7f36dea356e539a99b6c613641d19e95452f6573930bae0f02cbc", func := "penstock/penstocklaw16.SplitRefuses", spec := "splitRefuses", unfollowed := true, recurses := true, named := ["penstock/params.rows"], apart := false, laid := [("penstock/params.rows", laid_penstock_params_rows)], narrowed := true }
def SplitRefusesUptoSaid : Prop := splitRefusesUptoRow.holds Tryd.pinned (OpenSpec.upto splitRefusesSpec)

/-- 'penstocklaw16.SplitChunks', WHERE WHAT IT READS IS OF BULK AT MOST 1048576: true; the input reads as it did. -/
def splitChunksUptoRow : OpenClaim := { program := "ytbblkgknnolkmaadoor", sum := "9af873ec55f7f36dea356e539a99b6c613641d19e95452f6573930bae0f02cbc", func := "penstock/penstocklaw16.SplitChunks", spec := "splitChunks", unfollowed := true, recurses := true, named := ["penstock/params.rows"], apart := false, laid := [("penstock/params.rows", laid_penstock_params_rows)], narrowed := true }
def SplitChunksUptoSaid : Prop := splitChunksUptoRow.holds Tryd.pinned (OpenSpec.upto splitChunksSpec)

/-- 'penstocklaw16.SplitGrows', WHERE WHAT IT READS IS OF BULK AT MOST 1048576: true; the input reads as it did. -/
def splitGrowsUptoRow : OpenClaim := { program := "ytbblkgknnolkmaadoor", sum := "9af873ec55f7f36dea356e539a99b6c613641d19e95452f6573930bae0f02cbc", func := "penstock/penstocklaw16.SplitGrows", spec := "splitGrows", unfollowed := true, recurses := true, named := ["penstock/params.rows"], apart := false, laid := [("penstock/params.rows", laid_penstock_params_rows)], narrowed := true }
def SplitGrowsUptoSaid : Prop := splitGrowsUptoRow.holds Tryd.pinned (OpenSpec.upto splitGrowsSpec)

/-- 'penstocklaw16.SplitRound', WHERE WHAT IT READS IS OF BULK AT MOST 1048576: true; the input reads as it did. -/
def splitRoundUptoRow : OpenClaim := { program := "ytbblkgknnolkmaadoor", sum := "9af873ec55f7f36dea356e539a99b6c613641d19e95452f6573930bae0f02cbc", func := "penstock/penstocklaw16.SplitRound", spec := "splitRound", unfollowed := true, recurses := true, named := ["penstock/params.rows"], apart := false, laid := [("penstock/params.rows", laid_penstock_params_rows)], narrowed := true }
def SplitRoundUptoSaid : Prop := splitRoundUptoRow.holds Tryd.pinned (OpenSpec.upto splitRoundSpec)

end Rows
end Go.Proofs.YtbblkgknnolkmaaDoor
