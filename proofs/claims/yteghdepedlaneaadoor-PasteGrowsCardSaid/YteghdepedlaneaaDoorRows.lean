/-
  NARROWER THAN 'FOR EVERY INPUT', by the rows' own cells (each row's printed sentence says how): PasteMakes: laid · PasteMeans: laid · PasteHolds: laid · PasteRefuses: laid · PasteChunks: laid · PasteGrows: laid · PasteColumns: laid.
  DERIVED. THE GIVEN ROWS OF THIS SEAT. 7 by the template 'for every input the law returns true; each argument reads behind the call as it read before'; 0 by the template 'total and deterministic' (their statements: YteghdepedlaneaaDoorTotals.lean).
  GIVEN WITH THE SEED: the statements are not yours to turn. If you find one false, say at which input.
  Laid BY PROGRAM, IN A SANDBOX (cutbox-rows.mjs): the forced cells as the released guide's own fill.sh prints them over the translation 014e0d4c92954611… (all of the seat's roots in one cut). By AI agents, Wed Nov 11 2026. No macro, syntax, notation, axiom, sorry.
-/
import Derived.Test.YteghdepedlaneaaDoorChecked
import GoSem.Claim
import GoSem.ClaimJoined
import GoSem.ClaimMapViews
import Derived.JoinedTies
import Derived.KernelRfl
namespace Go.Proofs.YteghdepedlaneaaDoor
/- THE CELL 'sum', in the pinned program and in every row, IS THE sha256 OF THE DUMP (.gsa) THAT YteghdepedlaneaaDoorProg.lean LOADS. Nothing in Lean hashes anything: it is a label: what it is worth is what the hold of that sum in a sandbox is worth. -/
noncomputable def Tryd.pinned : Pinned := { name := "yteghdepedlaneaadoor", sum := "014e0d4c92954611763edaef357fea3a46fa709d82f0a258c884768824767565", checked := Tryd.checked }
namespace Rows
def none {H : Type} : Left H := { results := [], args := [] }

/- WHAT THE LISTED PACKAGE-LEVEL VARIABLES READ AS WHEN THE CALL BEGINS. Each datum BY PROGRAM (the guide's laid-datum.mjs) off the statement by which the dump's own 'gosem.cut.vars' lays the variable. In a bare row this is a premise. The card (YteghdepedlaneaaDoorCards.lean) ties it to the program's text. -/
def laid_penstock_params_rows {H : Type} : DataW H := .agg [.agg [.lit (.int .i64 0), .lit (.int .i64 0), .lit (.int .i64 0), .lit (.int .i64 0), .lit (.int .i64 0), .lit (.int .i64 0), .lit (.int .i64 0)], .agg [.lit (.int .i64 0), .lit (.int .i64 15), .lit (.int .i64 0), .lit (.int .i64 0), .lit (.int .i64 1), .lit (.int .i64 0), .lit (.int .i64 0)], .agg [.lit (.int .i64 0), .lit (.int .i64 15), .lit (.int .i64 0), .lit (.int .i64 1), .lit (.int .i64 0), .lit (.int .i64 0), .lit (.int .i64 0)], .agg [.lit (.int .i64 0), .lit (.int .i64 1000000000), .lit (.int .i64 0), .lit (.int .i64 1), .lit (.int .i64 1), .lit (.int .i64 64), .lit (.int .i64 0)], .agg [.lit (.int .i64 0), .lit (.int .i64 9223372036854775807), .lit (.int .i64 0), .lit (.int .i64 1), .lit (.int .i64 1), .lit (.int .i64 64), .lit (.int .i64 64)], .agg [.lit (.int .i64 0), .lit (.int .i64 1), .lit (.int .i64 2), .lit (.int .i64 1), .lit (.int .i64 1), .lit (.int .i64 64), .lit (.int .i64 0)], .agg [.lit (.int .i64 0), .lit (.int .i64 0), .lit (.int .i64 3), .lit (.int .i64 1), .lit (.int .i64 1), .lit (.int .i64 0), .lit (.int .i64 0)], .agg [.lit (.int .i64 1), .lit (.int .i64 65535), .lit (.int .i64 1), .lit (.int .i64 1), .lit (.int .i64 1), .lit (.int .i64 64), .lit (.int .i64 0)], .agg [.lit (.int .i64 0), .lit (.int .i64 1), .lit (.int .i64 0), .lit (.int .i64 1), .lit (.int .i64 1), .lit (.int .i64 128), .lit (.int .i64 0)], .agg [.lit (.int .i64 0), .lit (.int .i64 0), .lit (.int .i64 0), .lit (.int .i64 1), .lit (.int .i64 1), .lit (.int .i64 0), .lit (.int .i64 0)], .agg [.lit (.int .i64 0), .lit (.int .i64 1000000000), .lit (.int .i64 0), .lit (.int .i64 1), .lit (.int .i64 1), .lit (.int .i64 64), .lit (.int .i64 0)], .agg [.lit (.int .i64 0), .lit (.int .i64 1), .lit (.int .i64 0), .lit (.int .i64 1), .lit (.int .i64 1), .lit (.int .i64 320), .lit (.int .i64 0)], .agg [.lit (.int .i64 1), .lit (.int .i64 4), .lit (.int .i64 0), .lit (.int .i64 (-1)), .lit (.int .i64 1), .lit (.int .i64 0), .lit (.int .i64 0)], .agg [.lit (.int .i64 1), .lit (.int .i64 4), .lit (.int .i64 1), .lit (.int .i64 (-1)), .lit (.int .i64 1), .lit (.int .i64 0), .lit (.int .i64 96)], .agg [.lit (.int .i64 1), .lit (.int .i64 9223372036854775807), .lit (.int .i64 1), .lit (.int .i64 2), .lit (.int .i64 1), .lit (.int .i64 192), .lit (.int .i64 128)], .agg [.lit (.int .i64 1), .lit (.int .i64 4), .lit (.int .i64 0), .lit (.int .i64 1), .lit (.int .i64 (-1)), .lit (.int .i64 0), .lit (.int .i64 0)], .agg [.lit (.int .i64 1), .lit (.int .i64 4), .lit (.int .i64 0), .lit (.int .i64 1), .lit (.int .i64 (-1)), .lit (.int .i64 64), .lit (.int .i64 0)]]

/-- 'penstocklaw13.PasteMakes': WHATEVER THE INPUT: true; the input reads as it did. -/
def pasteMakesSpec : ChangeSpec := { name := "pasteMakes", fn := fun _ => fun
  | [d] => { results := [.lit (.bool true)], args := [d] }
  | _ => none }
def pasteMakesRow : OpenClaim := { program := "yteghdepedlaneaadoor", sum := "014e0d4c92954611763edaef357fea3a46fa709d82f0a258c884768824767565", func := "penstock/penstocklaw13.PasteMakes", spec := "pasteMakes", inPlace := ["internal/abi.NoEscape", "internal/bytealg.MakeNoZero"], unfollowed := true, recurses := true, named := ["penstock/params.rows"], apart := false, laid := [("penstock/params.rows", laid_penstock_params_rows)] }
def PasteMakesSaid : Prop := pasteMakesRow.holds Tryd.pinned (OpenSpec.ofChange pasteMakesSpec)

/-- ITS FALSE NEIGHBOUR: 'it returns false'. Refute it at one input. -/
def pasteMakesWrong : ChangeSpec := { name := "pasteMakes", fn := fun _ => fun
  | [d] => { results := [.lit (.bool false)], args := [d] }
  | _ => none }
def PasteMakesWrongFalsely : Prop := pasteMakesRow.holds Tryd.pinned (OpenSpec.ofChange pasteMakesWrong)

/-- 'penstocklaw13.PasteMeans': WHATEVER THE INPUT: true; the input reads as it did. -/
def pasteMeansSpec : ChangeSpec := { name := "pasteMeans", fn := fun _ => fun
  | [d1, d2, d3] => { results := [.lit (.bool true)], args := [d1, d2, d3] }
  | _ => none }
def pasteMeansRow : OpenClaim := { program := "yteghdepedlaneaadoor", sum := "014e0d4c92954611763edaef357fea3a46fa709d82f0a258c884768824767565", func := "penstock/penstocklaw13.PasteMeans", spec := "pasteMeans", inPlace := ["internal/abi.NoEscape", "internal/bytealg.MakeNoZero"], unfollowed := true, recurses := true, named := ["penstock/params.rows"], apart := false, laid := [("penstock/params.rows", laid_penstock_params_rows)] }
def PasteMeansSaid : Prop := pasteMeansRow.holds Tryd.pinned (OpenSpec.ofChange pasteMeansSpec)

/-- ITS FALSE NEIGHBOUR: 'it returns false'. Refute it at one input. -/
def pasteMeansWrong : ChangeSpec := { name := "pasteMeans", fn := fun _ => fun
  | [d1, d2, d3] => { results := [.lit (.bool false)], args := [d1, d2, d3] }
  | _ => none }
def PasteMeansWrongFalsely : Prop := pasteMeansRow.holds Tryd.pinned (OpenSpec.ofChange pasteMeansWrong)

/-- 'penstocklaw13.PasteHolds': WHATEVER THE INPUT: true; the input reads as it did. -/
def pasteHoldsSpec : ChangeSpec := { name := "pasteHolds", fn := fun _ => fun
  | [d1, d2, d3] => { results := [.lit (.bool true)], args := [d1, d2, d3] }
  | _ => none }
def pasteHoldsRow : OpenClaim := { program := "yteghdepedlaneaadoor", sum := "014e0d4c92954611763edaef357fea3a46fa709d82f0a258c884768824767565", func := "penstock/penstocklaw13.PasteHolds", spec := "pasteHolds", inPlace := ["internal/abi.NoEscape", "internal/bytealg.MakeNoZero"], unfollowed := true, recurses := true, named := ["penstock/params.rows"], apart := false, laid := [("penstock/params.rows", laid_penstock_params_rows)] }
def PasteHoldsSaid : Prop := pasteHoldsRow.holds Tryd.pinned (OpenSpec.ofChange pasteHoldsSpec)

/-- ITS FALSE NEIGHBOUR: 'it returns false'. Refute it at one input. -/
def pasteHoldsWrong : ChangeSpec := { name := "pasteHolds", fn := fun _ => fun
  | [d1, d2, d3] => { results := [.lit (.bool false)], args := [d1, d2, d3] }
  | _ => none }
def PasteHoldsWrongFalsely : Prop := pasteHoldsRow.holds Tryd.pinned (OpenSpec.ofChange pasteHoldsWrong)

/-- 'penstocklaw13.PasteRefuses': WHATEVER THE INPUT: true; the input reads as it did. -/
def pasteRefusesSpec : ChangeSpec := { name := "pasteRefuses", fn := fun _ => fun
  | [d1, d2, d3, d4, d5] => { results := [.lit (.bool true)], args := [d1, d2, d3, d4, d5] }
  | _ => none }
def pasteRefusesRow : OpenClaim := { program := "yteghdepedlaneaadoor", sum := "014e0d4c92954611763edaef357fea3a46fa709d82f0a258c884768824767565", func := "penstock/penstocklaw13.PasteRefuses", spec := "pasteRefuses", inPlace := ["internal/abi.NoEscape", "internal/bytealg.MakeNoZero"], unfollowed := true, recurses := true, named := ["penstock/params.rows"], apart := false, laid := [("penstock/params.rows", laid_penstock_params_rows)] }
def PasteRefusesSaid : Prop := pasteRefusesRow.holds Tryd.pinned (OpenSpec.ofChange pasteRefusesSpec)

/-- ITS FALSE NEIGHBOUR: 'it returns false'. Refute it at one input. -/
def pasteRefusesWrong : ChangeSpec := { name := "pasteRefuses", fn := fun _ => fun
  | [d1, d2, d3, d4, d5] => { results := [.lit (.bool false)], args := [d1, d2, d3, d4, d5] }
  | _ => none }
def PasteRefusesWrongFalsely : Prop := pasteRefusesRow.holds Tryd.pinned (OpenSpec.ofChange pasteRefusesWrong)

/-- 'penstocklaw13.PasteChunks': WHATEVER THE INPUT: true; the input reads as it did. -/
def pasteChunksSpec : ChangeSpec := { name := "pasteChunks", fn := fun _ => fun
  | [d1, d2, d3, d4] => { results := [.lit (.bool true)], args := [d1, d2, d3, d4] }
  | _ => none }
def pasteChunksRow : OpenClaim := { program := "yteghdepedlaneaadoor", sum := "014e0d4c92954611763edaef357fea3a46fa709d82f0a258c884768824767565", func := "penstock/penstocklaw13.PasteChunks", spec := "pasteChunks", inPlace := ["internal/abi.NoEscape", "internal/bytealg.MakeNoZero"], unfollowed := true, recurses := true, named := ["penstock/params.rows"], apart := false, laid := [("penstock/params.rows", laid_penstock_params_rows)] }
def PasteChunksSaid : Prop := pasteChunksRow.holds Tryd.pinned (OpenSpec.ofChange pasteChunksSpec)

/-- ITS FALSE NEIGHBOUR: 'it returns false'. Refute it at one input. -/
def pasteChunksWrong : ChangeSpec := { name := "pasteChunks", fn := fun _ => fun
  | [d1, d2, d3, d4] => { results := [.lit (.bool false)], args := [d1, d2, d3, d4] }
  | _ => none }
def PasteChunksWrongFalsely : Prop := pasteChunksRow.holds Tryd.pinned (OpenSpec.ofChange pasteChunksWrong)

/-- 'penstocklaw13.PasteGrows': WHATEVER THE INPUT: true; the input reads as it did. -/
def pasteGrowsSpec : ChangeSpec := { name := "pasteGrows", fn := fun _ => fun
  | [d1, d2, d3, d4, d5] => { results := [.lit (.bool true)], args := [d1, d2, d3, d4, d5] }
  | _ => none }
def pasteGrowsRow : OpenClaim := { program := "yteghdepedlaneaadoor", sum := "014e0d4c92954611763edaef357fea3a46fa709d82f0a258c884768824767565", func := "penstock/penstocklaw13.PasteGrows", spec := "pasteGrows", inPlace := ["internal/abi.NoEscape", "internal/bytealg.MakeNoZero"], unfollowed := true, recurses := true, named := ["penstock/params.rows"], apart := false, laid := [("penstock/params.rows", laid_penstock_params_rows)] }
def PasteGrowsSaid : Prop := pasteGrowsRow.holds Tryd.pinned (OpenSpec.ofChange pasteGrowsSpec)

/-- ITS FALSE NEIGHBOUR: 'it returns false'. Refute it at one input. -/
def pasteGrowsWrong : ChangeSpec := { name := "pasteGrows", fn := fun _ => fun
  | [d1, d2, d3, d4, d5] => { results := [.lit (.bool false)], args := [d1, d2, d3, d4, d5] }
  | _ => none }
def PasteGrowsWrongFalsely : Prop := pasteGrowsRow.holds Tryd.pinned (OpenSpec.ofChange pasteGrowsWrong)

/-- 'penstocklaw13.PasteColumns': WHATEVER THE INPUT: true; the input reads as it did. -/
def pasteColumnsSpec : ChangeSpec := { name := "pasteColumns", fn := fun _ => fun
  | [d1, d2, d3] => { results := [.lit (.bool true)], args := [d1, d2, d3] }
  | _ => none }
def pasteColumnsRow : OpenClaim := { program := "yteghdepedlaneaadoor", sum := "014e0d4c92954611763edaef357fea3a46fa709d82f0a258c884768824767565", func := "penstock/penstocklaw13.PasteColumns", spec := "pasteColumns", inPlace := ["internal/abi.NoEscape", "internal/bytealg.MakeNoZero"], unfollowed := true, recurses := true, named := ["penstock/params.rows"], apart := false, laid := [("penstock/params.rows", laid_penstock_params_rows)] }
def PasteColumnsSaid : Prop := pasteColumnsRow.holds Tryd.pinned (OpenSpec.ofChange pasteColumnsSpec)

/-- ITS FALSE NEIGHBOUR: 'it returns false'. Refute it at one input. -/
def pasteColumnsWrong : ChangeSpec := { name := "pasteColumns", fn := fun _ => fun
  | [d1, d2, d3] => { results := [.lit (.bool false)], args := [d1, d2, d3] }
  | _ => none }
def PasteColumnsWrongFalsely : Prop := pasteColumnsRow.holds Tryd.pinned (OpenSpec.ofChange pasteColumnsWrong)

/- THE SECOND FORM. 'bulk': how many values and letters a reading holds, each counted each time it is reached (what is shared counts as often as it is met; a slice's spare places count too). A statement '..UptoSaid' is the law's where the arguments, and the package variables that the reading takes, are together of bulk at most 1048576: NARROWER than '..Said'. Prove '..Said' where nothing that the law and all that it calls make is longer than what came in: it says more and counts as full. Else prove '..UptoSaid'. A law counts once. -/
mutual
def uptoBulk {H : Type} : DataW H → Nat
  | .lit (.string bytes) => bytes.length + 1
  | .lit _ => 1
  | .nil => 1
  | .ptr d => uptoBulk d + 1
  | .slice elems spare => uptoBulkAll elems + uptoBulkAll spare + 1
  | .agg parts => uptoBulkAll parts + 1
  | .iface _ d => uptoBulk d + 1
  | .map entries => uptoBulkEntries entries + 1
  | .held _ => 1
def uptoBulkAll {H : Type} : List (DataW H) → Nat
  | [] => 0
  | d :: r => uptoBulk d + uptoBulkAll r
def uptoBulkEntries {H : Type} : List (Lit × DataW H) → Nat
  | [] => 0
  | x :: r => uptoBulkEntry x + uptoBulkEntries r
def uptoBulkEntry {H : Type} : Lit × DataW H → Nat
  | (.string bytes, d) => bytes.length + uptoBulk d + 1
  | (_, d) => uptoBulk d + 1
 end
def uptoSmall : (H : Type) → List (DataW H) → Bool := fun _ ds => decide (uptoBulkAll ds ≤ 1048576)
def OpenSpec.upto (s : _root_.Go.ChangeSpec) : _root_.Go.OpenSpec := { _root_.Go.OpenSpec.ofChange s with cond := some uptoSmall }

/-- 'penstocklaw13.PasteMakes', WHERE WHAT IT READS IS OF BULK AT MOST 1048576: true; the input reads as it did. -/
def pasteMakesUptoRow : OpenClaim := { program := "yteghdepedlaneaadoor", sum := "014e0d4c92954611763edaef357fea3a46fa709d82f0a258c884768824767565", func := "penstock/penstocklaw13.PasteMakes", spec := "pasteMakes", inPlace := ["internal/abi.NoEscape", "internal/bytealg.MakeNoZero"], unfollowed := true, recurses := true, named := ["penstock/params.rows"], apart := false, laid := [("penstock/params.rows", laid_penstock_params_rows)], narrowed := true }
def PasteMakesUptoSaid : Prop := pasteMakesUptoRow.holds Tryd.pinned (OpenSpec.upto pasteMakesSpec)

/-- 'penstocklaw13.PasteMeans', WHERE WHAT IT READS IS OF BULK AT MOST 1048576: true; the input reads as it did. -/
def pasteMeansUptoRow : OpenClaim := { program := "yteghdepedlaneaadoor", sum := "014e0d4c92954611763edaef357fea3a46fa709d82f0a258c884768824767565", func := "penstock/penstocklaw13.PasteMeans", spec := "pasteMeans", inPlace := ["internal/abi.NoEscape", "internal/bytealg.MakeNoZero"], unfollowed := true, recurses := true, named := ["penstock/params.rows"], apart := false, laid := [("penstock/params.rows", laid_penstock_params_rows)], narrowed := true }
def PasteMeansUptoSaid : Prop := pasteMeansUptoRow.holds Tryd.pinned (OpenSpec.upto pasteMeansSpec)

/-- 'penstocklaw13.PasteHolds', WHERE WHAT IT READS IS OF BULK AT MOST 1048576: true; the input reads as it did. -/
def pasteHoldsUptoRow : OpenClaim := { program := "yteghdepedlaneaadoor", sum := "014e0d4c92954611763edaef357fea3a46fa709d82f0a258c884768824767565", func := "penstock/penstocklaw13.PasteHolds", spec := "pasteHolds", inPlace := ["internal/abi.NoEscape", "internal/bytealg.MakeNoZero"], unfollowed := true, recurses := true, named := ["penstock/params.rows"], apart := false, laid := [("penstock/params.rows", laid_penstock_params_rows)], narrowed := true }
def PasteHoldsUptoSaid : Prop := pasteHoldsUptoRow.holds Tryd.pinned (OpenSpec.upto pasteHoldsSpec)

/-- 'penstocklaw13.PasteRefuses', WHERE WHAT IT READS IS OF BULK AT MOST 1048576: true; the input reads as it did. -/
def pasteRefusesUptoRow : OpenClaim := { program := "yteghdepedlaneaadoor", sum := "014e0d4c92954611763edaef357fea3a46fa709d82f0a258c884768824767565", func := "penstock/penstocklaw13.PasteRefuses", spec := "pasteRefuses", inPlace := ["internal/abi.NoEscape", "internal/bytealg.MakeNoZero"], unfollowed := true, recurses := true, named := ["penstock/params.rows"], apart := false, laid := [("penstock/params.rows", laid_penstock_params_rows)], narrowed := true }
def PasteRefusesUptoSaid : Prop := pasteRefusesUptoRow.holds Tryd.pinned (OpenSpec.upto pasteRefusesSpec)

/-- 'penstocklaw13.PasteChunks', WHERE WHAT IT READS IS OF BULK AT MOST 1048576: true; the input reads as it did. -/
def pasteChunksUptoRow : OpenClaim := { program := "yteghdepedlaneaadoor", sum := "014e0d4c92954611763edaef357fea3a46fa709d82f0a258c884768824767565", func := "penstock/penstocklaw13.PasteChunks", spec := "pasteChunks", inPlace := ["internal/abi.NoEscape", "internal/bytealg.MakeNoZero"], unfollowed := true, recurses := true, named := ["penstock/params.rows"], apart := false, laid := [("penstock/params.rows", laid_penstock_params_rows)], narrowed := true }
def PasteChunksUptoSaid : Prop := pasteChunksUptoRow.holds Tryd.pinned (OpenSpec.upto pasteChunksSpec)

/-- 'penstocklaw13.PasteGrows', WHERE WHAT IT READS IS OF BULK AT MOST 1048576: true; the input reads as it did. -/
def pasteGrowsUptoRow : OpenClaim := { program := "yteghdepedlaneaadoor", sum := "014e0d4c92954611763edaef357fea3a46fa709d82f0a258c884768824767565", func := "penstock/penstocklaw13.PasteGrows", spec := "pasteGrows", inPlace := ["internal/abi.NoEscape", "internal/bytealg.MakeNoZero"], unfollowed := true, recurses := true, named := ["penstock/params.rows"], apart := false, laid := [("penstock/params.rows", laid_penstock_params_rows)], narrowed := true }
def PasteGrowsUptoSaid : Prop := pasteGrowsUptoRow.holds Tryd.pinned (OpenSpec.upto pasteGrowsSpec)

/-- 'penstocklaw13.PasteColumns', WHERE WHAT IT READS IS OF BULK AT MOST 1048576: true; the input reads as it did. -/
def pasteColumnsUptoRow : OpenClaim := { program := "yteghdepedlaneaadoor", sum := "014e0d4c92954611763edaef357fea3a46fa709d82f0a258c884768824767565", func := "penstock/penstocklaw13.PasteColumns", spec := "pasteColumns", inPlace := ["internal/abi.NoEscape", "internal/bytealg.MakeNoZero"], unfollowed := true, recurses := true, named := ["penstock/params.rows"], apart := false, laid := [("penstock/params.rows", laid_penstock_params_rows)], narrowed := true }
def PasteColumnsUptoSaid : Prop := pasteColumnsUptoRow.holds Tryd.pinned (OpenSpec.upto pasteColumnsSpec)

end Rows
end Go.Proofs.YteghdepedlaneaaDoor
