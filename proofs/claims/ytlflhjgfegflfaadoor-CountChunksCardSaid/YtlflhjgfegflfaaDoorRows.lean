/-
  NARROWER THAN 'FOR EVERY INPUT', by the rows' own cells (each row's printed sentence says how): CountMakes: laid · CountMeans: laid · CountHolds: laid · CountRefuses: laid · CountChunks: laid · CountGrows: laid · CountAdds: laid.
  DERIVED. THE GIVEN ROWS OF THIS SEAT. 7 by the template 'for every input the law returns true; each argument reads behind the call as it read before'; 0 by the template 'total and deterministic' (their statements: YtlflhjgfegflfaaDoorTotals.lean).
  GIVEN WITH THE SEED: the statements are not yours to turn. If you find one false, say at which input.
  Laid BY PROGRAM, IN A SANDBOX (cutbox-rows.mjs): the forced cells as the released guide's own fill.sh prints them over the translation 272e79f11319d018… (all of the seat's roots in one cut). By AI agents, Wed Nov 11 2026. No macro, syntax, notation, axiom, sorry.
-/
import Derived.Test.YtlflhjgfegflfaaDoorChecked
import GoSem.Claim
import GoSem.ClaimJoined
import GoSem.ClaimMapViews
import Derived.JoinedTies
import Derived.KernelRfl
namespace Go.Proofs.YtlflhjgfegflfaaDoor
/- THE CELL 'sum', in the pinned program and in every row, IS THE sha256 OF THE DUMP (.gsa) THAT YtlflhjgfegflfaaDoorProg.lean LOADS. Nothing in Lean hashes anything: it is a label: what it is worth is what the hold of that sum in a sandbox is worth. -/
noncomputable def Tryd.pinned : Pinned := { name := "ytlflhjgfegflfaadoor", sum := "272e79f11319d018be5088538e666ac696a0a8f6f6a0e672a3fd6bae26ba62b7", checked := Tryd.checked }
namespace Rows
def none {H : Type} : Left H := { results := [], args := [] }

/- WHAT THE LISTED PACKAGE-LEVEL VARIABLES READ AS WHEN THE CALL BEGINS. Each datum BY PROGRAM (the guide's laid-datum.mjs) off the statement by which the dump's own 'gosem.cut.vars' lays the variable. In a bare row this is a premise. The card (YtlflhjgfegflfaaDoorCards.lean) ties it to the program's text. -/
def laid_penstock_params_rows {H : Type} : DataW H := .agg [.agg [.lit (.int .i64 0), .lit (.int .i64 0), .lit (.int .i64 0), .lit (.int .i64 0), .lit (.int .i64 0), .lit (.int .i64 0), .lit (.int .i64 0)], .agg [.lit (.int .i64 0), .lit (.int .i64 15), .lit (.int .i64 0), .lit (.int .i64 0), .lit (.int .i64 1), .lit (.int .i64 0), .lit (.int .i64 0)], .agg [.lit (.int .i64 0), .lit (.int .i64 15), .lit (.int .i64 0), .lit (.int .i64 1), .lit (.int .i64 0), .lit (.int .i64 0), .lit (.int .i64 0)], .agg [.lit (.int .i64 0), .lit (.int .i64 1000000000), .lit (.int .i64 0), .lit (.int .i64 1), .lit (.int .i64 1), .lit (.int .i64 64), .lit (.int .i64 0)], .agg [.lit (.int .i64 0), .lit (.int .i64 9223372036854775807), .lit (.int .i64 0), .lit (.int .i64 1), .lit (.int .i64 1), .lit (.int .i64 64), .lit (.int .i64 64)], .agg [.lit (.int .i64 0), .lit (.int .i64 1), .lit (.int .i64 2), .lit (.int .i64 1), .lit (.int .i64 1), .lit (.int .i64 64), .lit (.int .i64 0)], .agg [.lit (.int .i64 0), .lit (.int .i64 0), .lit (.int .i64 3), .lit (.int .i64 1), .lit (.int .i64 1), .lit (.int .i64 0), .lit (.int .i64 0)], .agg [.lit (.int .i64 1), .lit (.int .i64 65535), .lit (.int .i64 1), .lit (.int .i64 1), .lit (.int .i64 1), .lit (.int .i64 64), .lit (.int .i64 0)], .agg [.lit (.int .i64 0), .lit (.int .i64 1), .lit (.int .i64 0), .lit (.int .i64 1), .lit (.int .i64 1), .lit (.int .i64 128), .lit (.int .i64 0)], .agg [.lit (.int .i64 0), .lit (.int .i64 0), .lit (.int .i64 0), .lit (.int .i64 1), .lit (.int .i64 1), .lit (.int .i64 0), .lit (.int .i64 0)], .agg [.lit (.int .i64 0), .lit (.int .i64 1000000000), .lit (.int .i64 0), .lit (.int .i64 1), .lit (.int .i64 1), .lit (.int .i64 64), .lit (.int .i64 0)], .agg [.lit (.int .i64 0), .lit (.int .i64 1), .lit (.int .i64 0), .lit (.int .i64 1), .lit (.int .i64 1), .lit (.int .i64 320), .lit (.int .i64 0)], .agg [.lit (.int .i64 1), .lit (.int .i64 4), .lit (.int .i64 0), .lit (.int .i64 (-1)), .lit (.int .i64 1), .lit (.int .i64 0), .lit (.int .i64 0)], .agg [.lit (.int .i64 1), .lit (.int .i64 4), .lit (.int .i64 1), .lit (.int .i64 (-1)), .lit (.int .i64 1), .lit (.int .i64 0), .lit (.int .i64 96)], .agg [.lit (.int .i64 1), .lit (.int .i64 9223372036854775807), .lit (.int .i64 1), .lit (.int .i64 2), .lit (.int .i64 1), .lit (.int .i64 192), .lit (.int .i64 128)], .agg [.lit (.int .i64 1), .lit (.int .i64 4), .lit (.int .i64 0), .lit (.int .i64 1), .lit (.int .i64 (-1)), .lit (.int .i64 0), .lit (.int .i64 0)], .agg [.lit (.int .i64 1), .lit (.int .i64 4), .lit (.int .i64 0), .lit (.int .i64 1), .lit (.int .i64 (-1)), .lit (.int .i64 64), .lit (.int .i64 0)]]

/-- 'penstocklaw10.CountMakes': WHATEVER THE INPUT: true; the input reads as it did. -/
def countMakesSpec : ChangeSpec := { name := "countMakes", fn := fun _ => fun
  | [d] => { results := [.lit (.bool true)], args := [d] }
  | _ => none }
def countMakesRow : OpenClaim := { program := "ytlflhjgfegflfaadoor", sum := "272e79f11319d018be5088538e666ac696a0a8f6f6a0e672a3fd6bae26ba62b7", func := "penstock/penstocklaw10.CountMakes", spec := "countMakes", inPlace := ["internal/bytealg.Count", "internal/bytealg.IndexByte", "internal/bytealg.Index"], unfollowed := true, recurses := true, named := ["penstock/params.rows", "internal/bytealg.MaxLen"], apart := false, laid := [("penstock/params.rows", laid_penstock_params_rows)] }
def CountMakesSaid : Prop := countMakesRow.holds Tryd.pinned (OpenSpec.ofChange countMakesSpec)

/-- ITS FALSE NEIGHBOUR: 'it returns false'. Refute it at one input. -/
def countMakesWrong : ChangeSpec := { name := "countMakes", fn := fun _ => fun
  | [d] => { results := [.lit (.bool false)], args := [d] }
  | _ => none }
def CountMakesWrongFalsely : Prop := countMakesRow.holds Tryd.pinned (OpenSpec.ofChange countMakesWrong)

/-- 'penstocklaw10.CountMeans': WHATEVER THE INPUT: true; the input reads as it did. -/
def countMeansSpec : ChangeSpec := { name := "countMeans", fn := fun _ => fun
  | [d1, d2, d3] => { results := [.lit (.bool true)], args := [d1, d2, d3] }
  | _ => none }
def countMeansRow : OpenClaim := { program := "ytlflhjgfegflfaadoor", sum := "272e79f11319d018be5088538e666ac696a0a8f6f6a0e672a3fd6bae26ba62b7", func := "penstock/penstocklaw10.CountMeans", spec := "countMeans", inPlace := ["internal/bytealg.Count", "internal/bytealg.IndexByte", "internal/bytealg.Index"], unfollowed := true, recurses := true, named := ["penstock/params.rows", "internal/bytealg.MaxLen"], apart := false, laid := [("penstock/params.rows", laid_penstock_params_rows)] }
def CountMeansSaid : Prop := countMeansRow.holds Tryd.pinned (OpenSpec.ofChange countMeansSpec)

/-- ITS FALSE NEIGHBOUR: 'it returns false'. Refute it at one input. -/
def countMeansWrong : ChangeSpec := { name := "countMeans", fn := fun _ => fun
  | [d1, d2, d3] => { results := [.lit (.bool false)], args := [d1, d2, d3] }
  | _ => none }
def CountMeansWrongFalsely : Prop := countMeansRow.holds Tryd.pinned (OpenSpec.ofChange countMeansWrong)

/-- 'penstocklaw10.CountHolds': WHATEVER THE INPUT: true; the input reads as it did. -/
def countHoldsSpec : ChangeSpec := { name := "countHolds", fn := fun _ => fun
  | [d1, d2, d3] => { results := [.lit (.bool true)], args := [d1, d2, d3] }
  | _ => none }
def countHoldsRow : OpenClaim := { program := "ytlflhjgfegflfaadoor", sum := "272e79f11319d018be5088538e666ac696a0a8f6f6a0e672a3fd6bae26ba62b7", func := "penstock/penstocklaw10.CountHolds", spec := "countHolds", inPlace := ["internal/bytealg.Count", "internal/bytealg.IndexByte", "internal/bytealg.Index"], unfollowed := true, recurses := true, named := ["penstock/params.rows", "internal/bytealg.MaxLen"], apart := false, laid := [("penstock/params.rows", laid_penstock_params_rows)] }
def CountHoldsSaid : Prop := countHoldsRow.holds Tryd.pinned (OpenSpec.ofChange countHoldsSpec)

/-- ITS FALSE NEIGHBOUR: 'it returns false'. Refute it at one input. -/
def countHoldsWrong : ChangeSpec := { name := "countHolds", fn := fun _ => fun
  | [d1, d2, d3] => { results := [.lit (.bool false)], args := [d1, d2, d3] }
  | _ => none }
def CountHoldsWrongFalsely : Prop := countHoldsRow.holds Tryd.pinned (OpenSpec.ofChange countHoldsWrong)

/-- 'penstocklaw10.CountRefuses': WHATEVER THE INPUT: true; the input reads as it did. -/
def countRefusesSpec : ChangeSpec := { name := "countRefuses", fn := fun _ => fun
  | [d1, d2, d3, d4, d5] => { results := [.lit (.bool true)], args := [d1, d2, d3, d4, d5] }
  | _ => none }
def countRefusesRow : OpenClaim := { program := "ytlflhjgfegflfaadoor", sum := "272e79f11319d018be5088538e666ac696a0a8f6f6a0e672a3fd6bae26ba62b7", func := "penstock/penstocklaw10.CountRefuses", spec := "countRefuses", inPlace := ["internal/bytealg.Count", "internal/bytealg.IndexByte", "internal/bytealg.Index"], unfollowed := true, recurses := true, named := ["penstock/params.rows", "internal/bytealg.MaxLen"], apart := false, laid := [("penstock/params.rows", laid_penstock_params_rows)] }
def CountRefusesSaid : Prop := countRefusesRow.holds Tryd.pinned (OpenSpec.ofChange countRefusesSpec)

/-- ITS FALSE NEIGHBOUR: 'it returns false'. Refute it at one input. -/
def countRefusesWrong : ChangeSpec := { name := "countRefuses", fn := fun _ => fun
  | [d1, d2, d3, d4, d5] => { results := [.lit (.bool false)], args := [d1, d2, d3, d4, d5] }
  | _ => none }
def CountRefusesWrongFalsely : Prop := countRefusesRow.holds Tryd.pinned (OpenSpec.ofChange countRefusesWrong)

/-- 'penstocklaw10.CountChunks': WHATEVER THE INPUT: true; the input reads as it did. -/
def countChunksSpec : ChangeSpec := { name := "countChunks", fn := fun _ => fun
  | [d1, d2, d3, d4] => { results := [.lit (.bool true)], args := [d1, d2, d3, d4] }
  | _ => none }
def countChunksRow : OpenClaim := { program := "ytlflhjgfegflfaadoor", sum := "272e79f11319d018be5088538e666ac696a0a8f6f6a0e672a3fd6bae26ba62b7", func := "penstock/penstocklaw10.CountChunks", spec := "countChunks", inPlace := ["internal/bytealg.Count", "internal/bytealg.IndexByte", "internal/bytealg.Index"], unfollowed := true, recurses := true, named := ["penstock/params.rows", "internal/bytealg.MaxLen"], apart := false, laid := [("penstock/params.rows", laid_penstock_params_rows)] }
def CountChunksSaid : Prop := countChunksRow.holds Tryd.pinned (OpenSpec.ofChange countChunksSpec)

/-- ITS FALSE NEIGHBOUR: 'it returns false'. Refute it at one input. -/
def countChunksWrong : ChangeSpec := { name := "countChunks", fn := fun _ => fun
  | [d1, d2, d3, d4] => { results := [.lit (.bool false)], args := [d1, d2, d3, d4] }
  | _ => none }
def CountChunksWrongFalsely : Prop := countChunksRow.holds Tryd.pinned (OpenSpec.ofChange countChunksWrong)

/-- 'penstocklaw10.CountGrows': WHATEVER THE INPUT: true; the input reads as it did. -/
def countGrowsSpec : ChangeSpec := { name := "countGrows", fn := fun _ => fun
  | [d1, d2, d3, d4, d5] => { results := [.lit (.bool true)], args := [d1, d2, d3, d4, d5] }
  | _ => none }
def countGrowsRow : OpenClaim := { program := "ytlflhjgfegflfaadoor", sum := "272e79f11319d018be5088538e666ac696a0a8f6f6a0e672a3fd6bae26ba62b7", func := "penstock/penstocklaw10.CountGrows", spec := "countGrows", inPlace := ["internal/bytealg.Count", "internal/bytealg.IndexByte", "internal/bytealg.Index"], unfollowed := true, recurses := true, named := ["penstock/params.rows", "internal/bytealg.MaxLen"], apart := false, laid := [("penstock/params.rows", laid_penstock_params_rows)] }
def CountGrowsSaid : Prop := countGrowsRow.holds Tryd.pinned (OpenSpec.ofChange countGrowsSpec)

/-- ITS FALSE NEIGHBOUR: 'it returns false'. Refute it at one input. -/
def countGrowsWrong : ChangeSpec := { name := "countGrows", fn := fun _ => fun
  | [d1, d2, d3, d4, d5] => { results := [.lit (.bool false)], args := [d1, d2, d3, d4, d5] }
  | _ => none }
def CountGrowsWrongFalsely : Prop := countGrowsRow.holds Tryd.pinned (OpenSpec.ofChange countGrowsWrong)

/-- 'penstocklaw10.CountAdds': WHATEVER THE INPUT: true; the input reads as it did. -/
def countAddsSpec : ChangeSpec := { name := "countAdds", fn := fun _ => fun
  | [d1, d2, d3] => { results := [.lit (.bool true)], args := [d1, d2, d3] }
  | _ => none }
def countAddsRow : OpenClaim := { program := "ytlflhjgfegflfaadoor", sum := "272e79f11319d018be5088538e666ac696a0a8f6f6a0e672a3fd6bae26ba62b7", func := "penstock/penstocklaw10.CountAdds", spec := "countAdds", inPlace := ["internal/bytealg.Count", "internal/bytealg.IndexByte", "internal/bytealg.Index"], unfollowed := true, recurses := true, named := ["penstock/params.rows", "internal/bytealg.MaxLen"], apart := false, laid := [("penstock/params.rows", laid_penstock_params_rows)] }
def CountAddsSaid : Prop := countAddsRow.holds Tryd.pinned (OpenSpec.ofChange countAddsSpec)

/-- ITS FALSE NEIGHBOUR: 'it returns false'. Refute it at one input. -/
def countAddsWrong : ChangeSpec := { name := "countAdds", fn := fun _ => fun
  | [d1, d2, d3] => { results := [.lit (.bool false)], args := [d1, d2, d3] }
  | _ => none }
def CountAddsWrongFalsely : Prop := countAddsRow.holds Tryd.pinned (OpenSpec.ofChange countAddsWrong)

/- THE SECOND FORM. 'bulk': how many values and letters a reading holds, each counted each time it is reached (what is shared counts as often as it is met; a slice's spare places count too). A statement '..UptoSaid' is the law's where the arguments, and the package variables that the reading takes, are together of bulk at most 1048576: NARROWER than '..Said'. Prove '..Said' where nothing that the law and all that it calls make is longer than what came in: it says more and counts as full. Else prove '..UptoSaid'. A law counts once. -/
mutual
def uptoBulk {H : Type} : DataW H → Nat
  | .lit (.string bytes) => bytes.length + 1
  | .lit _ => 1
  | .nil => 1
  | .ptr d => uptoBulk d + 1
  | .slice elems spare => uptoBulkAll elems + uptoBulkAll spare + 1
  | .agg parts => uptoBulkAll parts + 1
  | .iface _ d => uptoBulk d + 1
  | .map entries => uptoBulkEntries entries + 1
  | .held _ => 1
def uptoBulkAll {H : Type} : List (DataW H) → Nat
  | [] => 0
  | d :: r => uptoBulk d + uptoBulkAll r
def uptoBulkEntries {H : Type} : List (Lit × DataW H) → Nat
  | [] => 0
  | x :: r => uptoBulkEntry x + uptoBulkEntries r
def uptoBulkEntry {H : Type} : Lit × DataW H → Nat
  | (.string bytes, d) => bytes.length + uptoBulk d + 1
  | (_, d) => uptoBulk d + 1
 end
def uptoSmall : (H : Type) → List (DataW H) → Bool := fun _ ds => decide (uptoBulkAll ds ≤ 1048576)
def OpenSpec.upto (s : _root_.Go.ChangeSpec) : _root_.Go.OpenSpec := { _root_.Go.OpenSpec.ofChange s with cond := some uptoSmall }

/-- 'penstocklaw10.CountMakes', WHERE WHAT IT READS IS OF BULK AT MOST 1048576: true; the input reads as it did. -/
def countMakesUptoRow : OpenClaim := { program := "ytlflhjgfegflfaadoor", sum := "272e79f11319d018be5088538e666ac696a0a8f6f6a0e672a3fd6bae26ba62b7", func := "penstock/penstocklaw10.CountMakes", spec := "countMakes", inPlace := ["internal/bytealg.Count", "internal/bytealg.IndexByte", "internal/bytealg.Index"], unfollowed := true, recurses := true, named := ["penstock/params.rows", "internal/bytealg.MaxLen"], apart := false, laid := [("penstock/params.rows", laid_penstock_params_rows)], narrowed := true }
def CountMakesUptoSaid : Prop := countMakesUptoRow.holds Tryd.pinned (OpenSpec.upto countMakesSpec)

/-- 'penstocklaw10.CountMeans', WHERE WHAT IT READS IS OF BULK AT MOST 1048576: true; the input reads as it did. -/
def countMeansUptoRow : OpenClaim := { program := "ytlflhjgfegflfaadoor", sum := "272e79f11319d018be5088538e666ac696a0a8f6f6a0e672a3fd6bae26ba62b7", func := "penstock/penstocklaw10.CountMeans", spec := "countMeans", inPlace := ["internal/bytealg.Count", "internal/bytealg.IndexByte", "internal/bytealg.Index"], unfollowed := true, recurses := true, named := ["penstock/params.rows", "internal/bytealg.MaxLen"], apart := false, laid := [("penstock/params.rows", laid_penstock_params_rows)], narrowed := true }
def CountMeansUptoSaid : Prop := countMeansUptoRow.holds Tryd.pinned (OpenSpec.upto countMeansSpec)

/-- 'penstocklaw10.CountHolds', WHERE WHAT IT READS IS OF BULK AT MOST 1048576: true; the input reads as it did. -/
def countHoldsUptoRow : OpenClaim := { program := "ytlflhjgfegflfaadoor", sum := "272e79f11319d018be5088538e666ac696a0a8f6f6a0e672a3fd6bae26ba62b7", func := "penstock/penstocklaw10.CountHolds", spec := "countHolds", inPlace := ["internal/bytealg.Count", "internal/bytealg.IndexByte", "internal/bytealg.Index"], unfollowed := true, recurses := true, named := ["penstock/params.rows", "internal/bytealg.MaxLen"], apart := false, laid := [("penstock/params.rows", laid_penstock_params_rows)], narrowed := true }
def CountHoldsUptoSaid : Prop := countHoldsUptoRow.holds Tryd.pinned (OpenSpec.upto countHoldsSpec)

/-- 'penstocklaw10.CountRefuses', WHERE WHAT IT READS IS OF BULK AT MOST 1048576: true; the input reads as it did. -/
def countRefusesUptoRow : OpenClaim := { program := "ytlflhjgfegflfaadoor", sum := "272e79f11319d018be5088538e666ac696a0a8f6f6a0e672a3fd6bae26ba62b7", func := "penstock/penstocklaw10.CountRefuses", spec := "countRefuses", inPlace := ["internal/bytealg.Count", "internal/bytealg.IndexByte", "internal/bytealg.Index"], unfollowed := true, recurses := true, named := ["penstock/params.rows", "internal/bytealg.MaxLen"], apart := false, laid := [("penstock/params.rows", laid_penstock_params_rows)], narrowed := true }
def CountRefusesUptoSaid : Prop := countRefusesUptoRow.holds Tryd.pinned (OpenSpec.upto countRefusesSpec)

/-- 'penstocklaw10.CountChunks', WHERE WHAT IT READS IS OF BULK AT MOST 1048576: true; the input reads as it did. -/
def countChunksUptoRow : OpenClaim := { program := "ytlflhjgfegflfaadoor", sum := "272e79f11319d018be5088538e666ac696a0a8f6f6a0e672a3fd6bae26ba62b7", func := "penstock/penstocklaw10.CountChunks", spec := "countChunks", inPlace := ["internal/bytealg.Count", "internal/bytealg.IndexByte", "internal/bytealg.Index"], unfollowed := true, recurses := true, named := ["penstock/params.rows", "internal/bytealg.MaxLen"], apart := false, laid := [("penstock/params.rows", laid_penstock_params_rows)], narrowed := true }
def CountChunksUptoSaid : Prop := countChunksUptoRow.holds Tryd.pinned (OpenSpec.upto countChunksSpec)

/-- 'penstocklaw10.CountGrows', WHERE WHAT IT READS IS OF BULK AT MOST 1048576: true; the input reads as it did. -/
def countGrowsUptoRow : OpenClaim := { program := "ytlflhjgfegflfaadoor", sum := "272e79f11319d018be5088538e666ac696a0a8f6f6a0e672a3fd6bae26ba62b7", func := "penstock/penstocklaw10.CountGrows", spec := "countGrows", inPlace := ["internal/bytealg.Count", "internal/bytealg.IndexByte", "internal/bytealg.Index"], unfollowed := true, recurses := true, named := ["penstock/params.rows", "internal/bytealg.MaxLen"], apart := false, laid := [("penstock/params.rows", laid_penstock_params_rows)], narrowed := true }
def CountGrowsUptoSaid : Prop := countGrowsUptoRow.holds Tryd.pinned (OpenSpec.upto countGrowsSpec)

/-- 'penstocklaw10.CountAdds', WHERE WHAT IT READS IS OF BULK AT MOST 1048576: true; the input reads as it did. -/
def countAddsUptoRow : OpenClaim := { program := "ytlflhjgfegflfaadoor", sum := "272e79f11319d018be5088538e666ac696a0a8f6f6a0e672a3fd6bae26ba62b7", func := "penstock/penstocklaw10.CountAdds", spec := "countAdds", inPlace := ["internal/bytealg.Count", "internal/bytealg.IndexByte", "internal/bytealg.Index"], unfollowed := true, recurses := true, named := ["penstock/params.rows", "internal/bytealg.MaxLen"], apart := false, laid := [("penstock/params.rows", laid_penstock_params_rows)], narrowed := true }
def CountAddsUptoSaid : Prop := countAddsUptoRow.holds Tryd.pinned (OpenSpec.upto countAddsSpec)

end Rows
end Go.Proofs.YtlflhjgfegflfaaDoor
