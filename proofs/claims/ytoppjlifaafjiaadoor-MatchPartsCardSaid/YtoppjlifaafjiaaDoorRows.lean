/-
  NARROWER THAN 'FOR EVERY INPUT', by the rows' own cells (each row's printed sentence says how): MatchMakes: laid · MatchMeans: laid · MatchHolds: laid · MatchRefuses: laid · MatchChunks: laid · MatchGrows: laid · MatchParts: laid.
  DERIVED. THE GIVEN ROWS OF THIS SEAT. 7 by the template 'for every input the law returns true; each argument reads behind the call as it read before'; 0 by the template 'total and deterministic' (their statements: YtoppjlifaafjiaaDoorTotals.lean).
  GIVEN WITH THE SEED: the statements are not yours to turn. If you find one false, say at which input.
  Laid BY PROGRAM, IN A SANDBOX (cutbox-rows.mjs): the forced cells as the released guide's own fill.sh prints them over the translation 6cf5c5e28da3100a… (all of the seat's roots in one cut). By AI agents, Wed Nov 11 2026. No macro, syntax, notation, axiom, sorry.
-/
import Derived.Test.YtoppjlifaafjiaaDoorChecked
import GoSem.Claim
import GoSem.ClaimJoined
import GoSem.ClaimMapViews
import Derived.JoinedTies
import Derived.KernelRfl
namespace Go.Proofs.YtoppjlifaafjiaaDoor
/- THE CELL 'sum', in the pinned program and in every row, IS THE sha256 OF THE DUMP (.gsa) THAT YtoppjlifaafjiaaDoorProg.lean LOADS. Nothing in Lean hashes anything: it is a label: what it is worth is what the hold of that sum in a sandbox is worth. -/
noncomputable def Tryd.pinned : Pinned := { name := "ytoppjlifaafjiaadoor", sum := "6cf5c5e28da3100a4902a12c6d7133412ec50d0b42e38406bdeaa6cef3dd48f7", checked := Tryd.checked }
namespace Rows
def none {H : Type} : Left H := { results := [], args := [] }

/- WHAT THE LISTED PACKAGE-LEVEL VARIABLES READ AS WHEN THE CALL BEGINS. Each datum BY PROGRAM (the guide's laid-datum.mjs) off the statement by which the dump's own 'gosem.cut.vars' lays the variable. In a bare row this is a premise. The card (YtoppjlifaafjiaaDoorCards.lean) ties it to the program's text. -/
def laid_penstock_params_rows {H : Type} : DataW H := .agg [.agg [.lit (.int .i64 0), .lit (.int .i64 0), .lit (.int .i64 0), .lit (.int .i64 0), .lit (.int .i64 0), .lit (.int .i64 0), .lit (.int .i64 0)], .agg [.lit (.int .i64 0), .lit (.int .i64 15), .lit (.int .i64 0), .lit (.int .i64 0), .lit (.int .i64 1), .lit (.int .i64 0), .lit (.int .i64 0)], .agg [.lit (.int .i64 0), .lit (.int .i64 15), .lit (.int .i64 0), .lit (.int .i64 1), .lit (.int .i64 0), .lit (.int .i64 0), .lit (.int .i64 0)], .agg [.lit (.int .i64 0), .lit (.int .i64 1000000000), .lit (.int .i64 0), .lit (.int .i64 1), .lit (.int .i64 1), .lit (.int .i64 64), .lit (.int .i64 0)], .agg [.lit (.int .i64 0), .lit (.int .i64 9223372036854775807), .lit (.int .i64 0), .lit (.int .i64 1), .lit (.int .i64 1), .lit (.int .i64 64), .lit (.int .i64 64)], .agg [.lit (.int .i64 0), .lit (.int .i64 1), .lit (.int .i64 2), .lit (.int .i64 1), .lit (.int .i64 1), .lit (.int .i64 64), .lit (.int .i64 0)], .agg [.lit (.int .i64 0), .lit (.int .i64 0), .lit (.int .i64 3), .lit (.int .i64 1), .lit (.int .i64 1), .lit (.int .i64 0), .lit (.int .i64 0)], .agg [.lit (.int .i64 1), .lit (.int .i64 65535), .lit (.int .i64 1), .lit (.int .i64 1), .lit (.int .i64 1), .lit (.int .i64 64), .lit (.int .i64 0)], .agg [.lit (.int .i64 0), .lit (.int .i64 1), .lit (.int .i64 0), .lit (.int .i64 1), .lit (.int .i64 1), .lit (.int .i64 128), .lit (.int .i64 0)], .agg [.lit (.int .i64 0), .lit (.int .i64 0), .lit (.int .i64 0), .lit (.int .i64 1), .lit (.int .i64 1), .lit (.int .i64 0), .lit (.int .i64 0)], .agg [.lit (.int .i64 0), .lit (.int .i64 1000000000), .lit (.int .i64 0), .lit (.int .i64 1), .lit (.int .i64 1), .lit (.int .i64 64), .lit (.int .i64 0)], .agg [.lit (.int .i64 0), .lit (.int .i64 1), .lit (.int .i64 0), .lit (.int .i64 1), .lit (.int .i64 1), .lit (.int .i64 320), .lit (.int .i64 0)], .agg [.lit (.int .i64 1), .lit (.int .i64 4), .lit (.int .i64 0), .lit (.int .i64 (-1)), .lit (.int .i64 1), .lit (.int .i64 0), .lit (.int .i64 0)], .agg [.lit (.int .i64 1), .lit (.int .i64 4), .lit (.int .i64 1), .lit (.int .i64 (-1)), .lit (.int .i64 1), .lit (.int .i64 0), .lit (.int .i64 96)], .agg [.lit (.int .i64 1), .lit (.int .i64 9223372036854775807), .lit (.int .i64 1), .lit (.int .i64 2), .lit (.int .i64 1), .lit (.int .i64 192), .lit (.int .i64 128)], .agg [.lit (.int .i64 1), .lit (.int .i64 4), .lit (.int .i64 0), .lit (.int .i64 1), .lit (.int .i64 (-1)), .lit (.int .i64 0), .lit (.int .i64 0)], .agg [.lit (.int .i64 1), .lit (.int .i64 4), .lit (.int .i64 0), .lit (.int .i64 1), .lit (.int .i64 (-1)), .lit (.int .i64 64), .lit (.int .i64 0)]]

/-- 'penstocklaw06.MatchMakes': WHATEVER THE INPUT: true; the input reads as it did. -/
def matchMakesSpec : ChangeSpec := { name := "matchMakes", fn := fun _ => fun
  | [d] => { results := [.lit (.bool true)], args := [d] }
  | _ => none }
def matchMakesRow : OpenClaim := { program := "ytoppjlifaafjiaadoor", sum := "6cf5c5e28da3100a4902a12c6d7133412ec50d0b42e38406bdeaa6cef3dd48f7", func := "penstock/penstocklaw06.MatchMakes", spec := "matchMakes", inPlace := ["internal/bytealg.IndexByteString", "internal/bytealg.IndexString"], unfollowed := true, recurses := true, named := ["penstock/params.rows", "internal/bytealg.MaxLen"], apart := false, laid := [("penstock/params.rows", laid_penstock_params_rows)] }
def MatchMakesSaid : Prop := matchMakesRow.holds Tryd.pinned (OpenSpec.ofChange matchMakesSpec)

/-- ITS FALSE NEIGHBOUR: 'it returns false'. Refute it at one input. -/
def matchMakesWrong : ChangeSpec := { name := "matchMakes", fn := fun _ => fun
  | [d] => { results := [.lit (.bool false)], args := [d] }
  | _ => none }
def MatchMakesWrongFalsely : Prop := matchMakesRow.holds Tryd.pinned (OpenSpec.ofChange matchMakesWrong)

/-- 'penstocklaw06.MatchMeans': WHATEVER THE INPUT: true; the input reads as it did. -/
def matchMeansSpec : ChangeSpec := { name := "matchMeans", fn := fun _ => fun
  | [d1, d2, d3] => { results := [.lit (.bool true)], args := [d1, d2, d3] }
  | _ => none }
def matchMeansRow : OpenClaim := { program := "ytoppjlifaafjiaadoor", sum := "6cf5c5e28da3100a4902a12c6d7133412ec50d0b42e38406bdeaa6cef3dd48f7", func := "penstock/penstocklaw06.MatchMeans", spec := "matchMeans", inPlace := ["internal/bytealg.IndexByteString", "internal/bytealg.IndexString"], unfollowed := true, recurses := true, named := ["penstock/params.rows", "internal/bytealg.MaxLen"], apart := false, laid := [("penstock/params.rows", laid_penstock_params_rows)] }
def MatchMeansSaid : Prop := matchMeansRow.holds Tryd.pinned (OpenSpec.ofChange matchMeansSpec)

/-- ITS FALSE NEIGHBOUR: 'it returns false'. Refute it at one input. -/
def matchMeansWrong : ChangeSpec := { name := "matchMeans", fn := fun _ => fun
  | [d1, d2, d3] => { results := [.lit (.bool false)], args := [d1, d2, d3] }
  | _ => none }
def MatchMeansWrongFalsely : Prop := matchMeansRow.holds Tryd.pinned (OpenSpec.ofChange matchMeansWrong)

/-- 'penstocklaw06.MatchHolds': WHATEVER THE INPUT: true; the input reads as it did. -/
def matchHoldsSpec : ChangeSpec := { name := "matchHolds", fn := fun _ => fun
  | [d1, d2, d3] => { results := [.lit (.bool true)], args := [d1, d2, d3] }
  | _ => none }
def matchHoldsRow : OpenClaim := { program := "ytoppjlifaafjiaadoor", sum := "6cf5c5e28da3100a4902a12c6d7133412ec50d0b42e38406bdeaa6cef3dd48f7", func := "penstock/penstocklaw06.MatchHolds", spec := "matchHolds", inPlace := ["internal/bytealg.IndexByteString", "internal/bytealg.IndexString"], unfollowed := true, recurses := true, named := ["penstock/params.rows", "internal/bytealg.MaxLen"], apart := false, laid := [("penstock/params.rows", laid_penstock_params_rows)] }
def MatchHoldsSaid : Prop := matchHoldsRow.holds Tryd.pinned (OpenSpec.ofChange matchHoldsSpec)

/-- ITS FALSE NEIGHBOUR: 'it returns false'. Refute it at one input. -/
def matchHoldsWrong : ChangeSpec := { name := "matchHolds", fn := fun _ => fun
  | [d1, d2, d3] => { results := [.lit (.bool false)], args := [d1, d2, d3] }
  | _ => none }
def MatchHoldsWrongFalsely : Prop := matchHoldsRow.holds Tryd.pinned (OpenSpec.ofChange matchHoldsWrong)

/-- 'penstocklaw06.MatchRefuses': WHATEVER THE INPUT: true; the input reads as it did. -/
def matchRefusesSpec : ChangeSpec := { name := "matchRefuses", fn := fun _ => fun
  | [d1, d2, d3, d4, d5] => { results := [.lit (.bool true)], args := [d1, d2, d3, d4, d5] }
  | _ => none }
def matchRefusesRow : OpenClaim := { program := "ytoppjlifaafjiaadoor", sum := "6cf5c5e28da3100a4902a12c6d7133412ec50d0b42e38406bdeaa6cef3dd48f7", func := "penstock/penstocklaw06.MatchRefuses", spec := "matchRefuses", inPlace := ["internal/bytealg.IndexByteString", "internal/bytealg.IndexString"], unfollowed := true, recurses := true, named := ["penstock/params.rows", "internal/bytealg.MaxLen"], apart := false, laid := [("penstock/params.rows", laid_penstock_params_rows)] }
def MatchRefusesSaid : Prop := matchRefusesRow.holds Tryd.pinned (OpenSpec.ofChange matchRefusesSpec)

/-- ITS FALSE NEIGHBOUR: 'it returns false'. Refute it at one input. -/
def matchRefusesWrong : ChangeSpec := { name := "matchRefuses", fn := fun _ => fun
  | [d1, d2, d3, d4, d5] => { results := [.lit (.bool false)], args := [d1, d2, d3, d4, d5] }
  | _ => none }
def MatchRefusesWrongFalsely : Prop := matchRefusesRow.holds Tryd.pinned (OpenSpec.ofChange matchRefusesWrong)

/-- 'penstocklaw06.MatchChunks': WHATEVER THE INPUT: true; the input reads as it did. -/
def matchChunksSpec : ChangeSpec := { name := "matchChunks", fn := fun _ => fun
  | [d1, d2, d3, d4] => { results := [.lit (.bool true)], args := [d1, d2, d3, d4] }
  | _ => none }
def matchChunksRow : OpenClaim := { program := "ytoppjlifaafjiaadoor", sum := "6cf5c5e28da3100a4902a12c6d7133412ec50d0b42e38406bdeaa6cef3dd48f7", func := "penstock/penstocklaw06.MatchChunks", spec := "matchChunks", inPlace := ["internal/bytealg.IndexByteString", "internal/bytealg.IndexString"], unfollowed := true, recurses := true, named := ["penstock/params.rows", "internal/bytealg.MaxLen"], apart := false, laid := [("penstock/params.rows", laid_penstock_params_rows)] }
def MatchChunksSaid : Prop := matchChunksRow.holds Tryd.pinned (OpenSpec.ofChange matchChunksSpec)

/-- ITS FALSE NEIGHBOUR: 'it returns false'. Refute it at one input. -/
def matchChunksWrong : ChangeSpec := { name := "matchChunks", fn := fun _ => fun
  | [d1, d2, d3, d4] => { results := [.lit (.bool false)], args := [d1, d2, d3, d4] }
  | _ => none }
def MatchChunksWrongFalsely : Prop := matchChunksRow.holds Tryd.pinned (OpenSpec.ofChange matchChunksWrong)

/-- 'penstocklaw06.MatchGrows': WHATEVER THE INPUT: true; the input reads as it did. -/
def matchGrowsSpec : ChangeSpec := { name := "matchGrows", fn := fun _ => fun
  | [d1, d2, d3, d4, d5] => { results := [.lit (.bool true)], args := [d1, d2, d3, d4, d5] }
  | _ => none }
def matchGrowsRow : OpenClaim := { program := "ytoppjlifaafjiaadoor", sum := "6cf5c5e28da3100a4902a12c6d7133412ec50d0b42e38406bdeaa6cef3dd48f7", func := "penstock/penstocklaw06.MatchGrows", spec := "matchGrows", inPlace := ["internal/bytealg.IndexByteString", "internal/bytealg.IndexString"], unfollowed := true, recurses := true, named := ["penstock/params.rows", "internal/bytealg.MaxLen"], apart := false, laid := [("penstock/params.rows", laid_penstock_params_rows)] }
def MatchGrowsSaid : Prop := matchGrowsRow.holds Tryd.pinned (OpenSpec.ofChange matchGrowsSpec)

/-- ITS FALSE NEIGHBOUR: 'it returns false'. Refute it at one input. -/
def matchGrowsWrong : ChangeSpec := { name := "matchGrows", fn := fun _ => fun
  | [d1, d2, d3, d4, d5] => { results := [.lit (.bool false)], args := [d1, d2, d3, d4, d5] }
  | _ => none }
def MatchGrowsWrongFalsely : Prop := matchGrowsRow.holds Tryd.pinned (OpenSpec.ofChange matchGrowsWrong)

/-- 'penstocklaw06.MatchParts': WHATEVER THE INPUT: true; the input reads as it did. -/
def matchPartsSpec : ChangeSpec := { name := "matchParts", fn := fun _ => fun
  | [d1, d2, d3] => { results := [.lit (.bool true)], args := [d1, d2, d3] }
  | _ => none }
def matchPartsRow : OpenClaim := { program := "ytoppjlifaafjiaadoor", sum := "6cf5c5e28da3100a4902a12c6d7133412ec50d0b42e38406bdeaa6cef3dd48f7", func := "penstock/penstocklaw06.MatchParts", spec := "matchParts", inPlace := ["internal/bytealg.IndexByteString", "internal/bytealg.IndexString"], unfollowed := true, recurses := true, named := ["penstock/params.rows", "internal/bytealg.MaxLen"], apart := false, laid := [("penstock/params.rows", laid_penstock_params_rows)] }
def MatchPartsSaid : Prop := matchPartsRow.holds Tryd.pinned (OpenSpec.ofChange matchPartsSpec)

/-- ITS FALSE NEIGHBOUR: 'it returns false'. Refute it at one input. -/
def matchPartsWrong : ChangeSpec := { name := "matchParts", fn := fun _ => fun
  | [d1, d2, d3] => { results := [.lit (.bool false)], args := [d1, d2, d3] }
  | _ => none }
def MatchPartsWrongFalsely : Prop := matchPartsRow.holds Tryd.pinned (OpenSpec.ofChange matchPartsWrong)

/- THE SECOND FORM. 'bulk': how many values and letters a reading holds, each counted each time it is reached (what is shared counts as often as it is met; a slice's spare places count too). A statement '..UptoSaid' is the law's where the arguments, and the package variables that the reading takes, are together of bulk at most 1048576: NARROWER than '..Said'. Prove '..Said' where nothing that the law and all that it calls make is longer than what came in: it says more and counts as full. Else prove '..UptoSaid'. A law counts once. -/
mutual
def uptoBulk {H : Type} : DataW H → Nat
  | .lit (.string bytes) => bytes.length + 1
  | .lit _ => 1
  | .nil => 1
  | .ptr d => uptoBulk d + 1
  | .slice elems spare => uptoBulkAll elems + uptoBulkAll spare + 1
  | .agg parts => uptoBulkAll parts + 1
  | .iface _ d => uptoBulk d + 1
  | .map entries => uptoBulkEntries entries + 1
  | .held _ => 1
def uptoBulkAll {H : Type} : List (DataW H) → Nat
  | [] => 0
  | d :: r => uptoBulk d + uptoBulkAll r
def uptoBulkEntries {H : Type} : List (Lit × DataW H) → Nat
  | [] => 0
  | x :: r => uptoBulkEntry x + uptoBulkEntries r
def uptoBulkEntry {H : Type} : Lit × DataW H → Nat
  | (.string bytes, d) => bytes.length + uptoBulk d + 1
  | (_, d) => uptoBulk d + 1
 end
def uptoSmall : (H : Type) → List (DataW H) → Bool := fun _ ds => decide (uptoBulkAll ds ≤ 1048576)
def OpenSpec.upto (s : _root_.Go.ChangeSpec) : _root_.Go.OpenSpec := { _root_.Go.OpenSpec.ofChange s with cond := some uptoSmall }

/-- 'penstocklaw06.MatchMakes', WHERE WHAT IT READS IS OF BULK AT MOST 1048576: true; the input reads as it did. -/
def matchMakesUptoRow : OpenClaim := { program := "ytoppjlifaafjiaadoor", sum := "6cf5c5e28da3100a4902a12c6d7133412ec50d0b42e38406bdeaa6cef3dd48f7", func := "penstock/penstocklaw06.MatchMakes", spec := "matchMakes", inPlace := ["internal/bytealg.IndexByteString", "internal/bytealg.IndexString"], unfollowed := true, recurses := true, named := ["penstock/params.rows", "internal/bytealg.MaxLen"], apart := false, laid := [("penstock/params.rows", laid_penstock_params_rows)], narrowed := true }
def MatchMakesUptoSaid : Prop := matchMakesUptoRow.holds Tryd.pinned (OpenSpec.upto matchMakesSpec)

/-- 'penstocklaw06.MatchMeans', WHERE WHAT IT READS IS OF BULK AT MOST 1048576: true; the input reads as it did. -/
def matchMeansUptoRow : OpenClaim := { program := "ytoppjlifaafjiaadoor", sum := "6cf5c5e28da3100a4902a12c6d7133412ec50d0b42e38406bdeaa6cef3dd48f7", func := "penstock/penstocklaw06.MatchMeans", spec := "matchMeans", inPlace := ["internal/bytealg.IndexByteString", "internal/bytealg.IndexString"], unfollowed := true, recurses := true, named := ["penstock/params.rows", "internal/bytealg.MaxLen"], apart := false, laid := [("penstock/params.rows", laid_penstock_params_rows)], narrowed := true }
def MatchMeansUptoSaid : Prop := matchMeansUptoRow.holds Tryd.pinned (OpenSpec.upto matchMeansSpec)

/-- 'penstocklaw06.MatchHolds', WHERE WHAT IT READS IS OF BULK AT MOST 1048576: true; the input reads as it did. -/
def matchHoldsUptoRow : OpenClaim := { program := "ytoppjlifaafjiaadoor", sum := "6cf5c5e28da3100a4902a12c6d7133412ec50d0b42e38406bdeaa6cef3dd48f7", func := "penstock/penstocklaw06.MatchHolds", spec := "matchHolds", inPlace := ["internal/bytealg.IndexByteString", "internal/bytealg.IndexString"], unfollowed := true, recurses := true, named := ["penstock/params.rows", "internal/bytealg.MaxLen"], apart := false, laid := [("penstock/params.rows", laid_penstock_params_rows)], narrowed := true }
def MatchHoldsUptoSaid : Prop := matchHoldsUptoRow.holds Tryd.pinned (OpenSpec.upto matchHoldsSpec)

/-- 'penstocklaw06.MatchRefuses', WHERE WHAT IT READS IS OF BULK AT MOST 1048576: true; the input reads as it did. -/
def matchRefusesUptoRow : OpenClaim := { program := "ytoppjlifaafjiaadoor", sum := "6cf5c5e28da3100a4902a12c6d7133412ec50d0b42e38406bdeaa6cef3dd48f7", func := "penstock/penstocklaw06.MatchRefuses", spec := "matchRefuses", inPlace := ["internal/bytealg.IndexByteString", "internal/bytealg.IndexString"], unfollowed := true, recurses := true, named := ["penstock/params.rows", "internal/bytealg.MaxLen"], apart := false, laid := [("penstock/params.rows", laid_penstock_params_rows)], narrowed := true }
def MatchRefusesUptoSaid : Prop := matchRefusesUptoRow.holds Tryd.pinned (OpenSpec.upto matchRefusesSpec)

/-- 'penstocklaw06.MatchChunks', WHERE WHAT IT READS IS OF BULK AT MOST 1048576: true; the input reads as it did. -/
def matchChunksUptoRow : OpenClaim := { program := "ytoppjlifaafjiaadoor", sum := "6cf5c5e28da3100a4902a12c6d7133412ec50d0b42e38406bdeaa6cef3dd48f7", func := "penstock/penstocklaw06.MatchChunks", spec := "matchChunks", inPlace := ["internal/bytealg.IndexByteString", "internal/bytealg.IndexString"], unfollowed := true, recurses := true, named := ["penstock/params.rows", "internal/bytealg.MaxLen"], apart := false, laid := [("penstock/params.rows", laid_penstock_params_rows)], narrowed := true }
def MatchChunksUptoSaid : Prop := matchChunksUptoRow.holds Tryd.pinned (OpenSpec.upto matchChunksSpec)

/-- 'penstocklaw06.MatchGrows', WHERE WHAT IT READS IS OF BULK AT MOST 1048576: true; the input reads as it did. -/
def matchGrowsUptoRow : OpenClaim := { program := "ytoppjlifaafjiaadoor", sum := "6cf5c5e28da3100a4902a12c6d7133412ec50d0b42e38406bdeaa6cef3dd48f7", func := "penstock/penstocklaw06.MatchGrows", spec := "matchGrows", inPlace := ["internal/bytealg.IndexByteString", "internal/bytealg.IndexString"], unfollowed := true, recurses := true, named := ["penstock/params.rows", "internal/bytealg.MaxLen"], apart := false, laid := [("penstock/params.rows", laid_penstock_params_rows)], narrowed := true }
def MatchGrowsUptoSaid : Prop := matchGrowsUptoRow.holds Tryd.pinned (OpenSpec.upto matchGrowsSpec)

/-- 'penstocklaw06.MatchParts', WHERE WHAT IT READS IS OF BULK AT MOST 1048576: true; the input reads as it did. -/
def matchPartsUptoRow : OpenClaim := { program := "ytoppjlifaafjiaadoor", sum := "6cf5c5e28da3100a4902a12c6d7133412ec50d0b42e38406bdeaa6cef3dd48f7", func := "penstock/penstocklaw06.MatchParts", spec := "matchParts", inPlace := ["internal/bytealg.IndexByteString", "internal/bytealg.IndexString"], unfollowed := true, recurses := true, named := ["penstock/params.rows", "internal/bytealg.MaxLen"], apart := false, laid := [("penstock/params.rows", laid_penstock_params_rows)], narrowed := true }
def MatchPartsUptoSaid : Prop := matchPartsUptoRow.holds Tryd.pinned (OpenSpec.upto matchPartsSpec)

end Rows
end Go.Proofs.YtoppjlifaafjiaaDoor
