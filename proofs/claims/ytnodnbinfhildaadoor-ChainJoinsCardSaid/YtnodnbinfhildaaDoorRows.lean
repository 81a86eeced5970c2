/-
  NARROWER THAN 'FOR EVERY INPUT', by the rows' own cells (each row's printed sentence says how): ChainMakes: laid · ChainMeans: laid · ChainHolds: laid · ChainRefuses: laid · ChainChunks: laid · ChainGrows: laid · ChainJoins: laid.
  DERIVED. THE GIVEN ROWS OF THIS SEAT. 7 by the template 'for every input the law returns true; each argument reads behind the call as it read before'; 0 by the template 'total and deterministic' (their statements: YtnodnbinfhildaaDoorTotals.lean).
  GIVEN WITH THE SEED: the statements are not yours to turn. If you find one false, say at which input.
  Laid BY PROGRAM, IN A SANDBOX (cutbox-rows.mjs): the forced cells as the released guide's own fill.sh prints them over the translation aebd759e79fbb372… (all of the seat's roots in one cut). By AI agents, Wed Nov 11 2026. No macro, syntax, notation, axiom, sorry.
-/
import Derived.Test.YtnodnbinfhildaaDoorChecked
import GoSem.Claim
import GoSem.ClaimJoined
import GoSem.ClaimMapViews
import Derived.JoinedTies
import Derived.KernelRfl
namespace Go.Proofs.YtnodnbinfhildaaDoor
/- THE CELL 'sum', in the pinned program and in every row, IS THE sha256 OF THE DUMP (.gsa) THAT YtnodnbinfhildaaDoorProg.lean LOADS. Nothing in Lean hashes anything: it is a label: what it is worth is what the hold of that sum in a sandbox is worth. -/
noncomputable def Tryd.pinned : Pinned := { name := "ytnodnbinfhildaadoor", sum := "aebd759e79fbb372d77565b83782596d17876b77b9feb82f7111589bd7176af2", checked := Tryd.checked }
namespace Rows
def none {H : Type} : Left H := { results := [], args := [] }

/- WHAT THE LISTED PACKAGE-LEVEL VARIABLES READ AS WHEN THE CALL BEGINS. Each datum BY PROGRAM (the guide's laid-datum.mjs) off the statement by which the dump's own 'gosem.cut.vars' lays the variable. In a bare row this is a premise. The card (YtnodnbinfhildaaDoorCards.lean) ties it to the program's text. -/
def laid_penstock_params_rows {H : Type} : DataW H := .agg [.agg [.lit (.int .i64 0), .lit (.int .i64 0), .lit (.int .i64 0), .lit (.int .i64 0), .lit (.int .i64 0), .lit (.int .i64 0), .lit (.int .i64 0)], .agg [.lit (.int .i64 0), .lit (.int .i64 15), .lit (.int .i64 0), .lit (.int .i64 0), .lit (.int .i64 1), .lit (.int .i64 0), .lit (.int .i64 0)], .agg [.lit (.int .i64 0), .lit (.int .i64 15), .lit (.int .i64 0), .lit (.int .i64 1), .lit (.int .i64 0), .lit (.int .i64 0), .lit (.int .i64 0)], .agg [.lit (.int .i64 0), .lit (.int .i64 1000000000), .lit (.int .i64 0), .lit (.int .i64 1), .lit (.int .i64 1), .lit (.int .i64 64), .lit (.int .i64 0)], .agg [.lit (.int .i64 0), .lit (.int .i64 9223372036854775807), .lit (.int .i64 0), .lit (.int .i64 1), .lit (.int .i64 1), .lit (.int .i64 64), .lit (.int .i64 64)], .agg [.lit (.int .i64 0), .lit (.int .i64 1), .lit (.int .i64 2), .lit (.int .i64 1), .lit (.int .i64 1), .lit (.int .i64 64), .lit (.int .i64 0)], .agg [.lit (.int .i64 0), .lit (.int .i64 0), .lit (.int .i64 3), .lit (.int .i64 1), .lit (.int .i64 1), .lit (.int .i64 0), .lit (.int .i64 0)], .agg [.lit (.int .i64 1), .lit (.int .i64 65535), .lit (.int .i64 1), .lit (.int .i64 1), .lit (.int .i64 1), .lit (.int .i64 64), .lit (.int .i64 0)], .agg [.lit (.int .i64 0), .lit (.int .i64 1), .lit (.int .i64 0), .lit (.int .i64 1), .lit (.int .i64 1), .lit (.int .i64 128), .lit (.int .i64 0)], .agg [.lit (.int .i64 0), .lit (.int .i64 0), .lit (.int .i64 0), .lit (.int .i64 1), .lit (.int .i64 1), .lit (.int .i64 0), .lit (.int .i64 0)], .agg [.lit (.int .i64 0), .lit (.int .i64 1000000000), .lit (.int .i64 0), .lit (.int .i64 1), .lit (.int .i64 1), .lit (.int .i64 64), .lit (.int .i64 0)], .agg [.lit (.int .i64 0), .lit (.int .i64 1), .lit (.int .i64 0), .lit (.int .i64 1), .lit (.int .i64 1), .lit (.int .i64 320), .lit (.int .i64 0)], .agg [.lit (.int .i64 1), .lit (.int .i64 4), .lit (.int .i64 0), .lit (.int .i64 (-1)), .lit (.int .i64 1), .lit (.int .i64 0), .lit (.int .i64 0)], .agg [.lit (.int .i64 1), .lit (.int .i64 4), .lit (.int .i64 1), .lit (.int .i64 (-1)), .lit (.int .i64 1), .lit (.int .i64 0), .lit (.int .i64 96)], .agg [.lit (.int .i64 1), .lit (.int .i64 9223372036854775807), .lit (.int .i64 1), .lit (.int .i64 2), .lit (.int .i64 1), .lit (.int .i64 192), .lit (.int .i64 128)], .agg [.lit (.int .i64 1), .lit (.int .i64 4), .lit (.int .i64 0), .lit (.int .i64 1), .lit (.int .i64 (-1)), .lit (.int .i64 0), .lit (.int .i64 0)], .agg [.lit (.int .i64 1), .lit (.int .i64 4), .lit (.int .i64 0), .lit (.int .i64 1), .lit (.int .i64 (-1)), .lit (.int .i64 64), .lit (.int .i64 0)]]

/-- 'penstocklaw12.ChainMakes': WHATEVER THE INPUT: true; the input reads as it did. -/
def chainMakesSpec : ChangeSpec := { name := "chainMakes", fn := fun _ => fun
  | [d] => { results := [.lit (.bool true)], args := [d] }
  | _ => none }
def chainMakesRow : OpenClaim := { program := "ytnodnbinfhildaadoor", sum := "aebd759e79fbb372d77565b83782596d17876b77b9feb82f7111589bd7176af2", func := "penstock/penstocklaw12.ChainMakes", spec := "chainMakes", unfollowed := true, recurses := true, named := ["penstock/params.rows"], apart := false, laid := [("penstock/params.rows", laid_penstock_params_rows)] }
def ChainMakesSaid : Prop := chainMakesRow.holds Tryd.pinned (OpenSpec.ofChange chainMakesSpec)

/-- ITS FALSE NEIGHBOUR: 'it returns false'. Refute it at one input. -/
def chainMakesWrong : ChangeSpec := { name := "chainMakes", fn := fun _ => fun
  | [d] => { results := [.lit (.bool false)], args := [d] }
  | _ => none }
def ChainMakesWrongFalsely : Prop := chainMakesRow.holds Tryd.pinned (OpenSpec.ofChange chainMakesWrong)

/-- 'penstocklaw12.ChainMeans': WHATEVER THE INPUT: true; the input reads as it did. -/
def chainMeansSpec : ChangeSpec := { name := "chainMeans", fn := fun _ => fun
  | [d1, d2, d3] => { results := [.lit (.bool true)], args := [d1, d2, d3] }
  | _ => none }
def chainMeansRow : OpenClaim := { program := "ytnodnbinfhildaadoor", sum := "aebd759e79fbb372d77565b83782596d17876b77b9feb82f7111589bd7176af2", func := "penstock/penstocklaw12.ChainMeans", spec := "chainMeans", unfollowed := true, recurses := true, named := ["penstock/params.rows"], apart := false, laid := [("penstock/params.rows", laid_penstock_params_rows)] }
def ChainMeansSaid : Prop := chainMeansRow.holds Tryd.pinned (OpenSpec.ofChange chainMeansSpec)

/-- ITS FALSE NEIGHBOUR: 'it returns false'. Refute it at one input. -/
def chainMeansWrong : ChangeSpec := { name := "chainMeans", fn := fun _ => fun
  | [d1, d2, d3] => { results := [.lit (.bool false)], args := [d1, d2, d3] }
  | _ => none }
def ChainMeansWrongFalsely : Prop := chainMeansRow.holds Tryd.pinned (OpenSpec.ofChange chainMeansWrong)

/-- 'penstocklaw12.ChainHolds': WHATEVER THE INPUT: true; the input reads as it did. -/
def chainHoldsSpec : ChangeSpec := { name := "chainHolds", fn := fun _ => fun
  | [d1, d2, d3] => { results := [.lit (.bool true)], args := [d1, d2, d3] }
  | _ => none }
def chainHoldsRow : OpenClaim := { program := "ytnodnbinfhildaadoor", sum := "aebd759e79fbb372d77565b83782596d17876b77b9feb82f7111589bd7176af2", func := "penstock/penstocklaw12.ChainHolds", spec := "chainHolds", unfollowed := true, recurses := true, named := ["penstock/params.rows"], apart := false, laid := [("penstock/params.rows", laid_penstock_params_rows)] }
def ChainHoldsSaid : Prop := chainHoldsRow.holds Tryd.pinned (OpenSpec.ofChange chainHoldsSpec)

/-- ITS FALSE NEIGHBOUR: 'it returns false'. Refute it at one input. -/
def chainHoldsWrong : ChangeSpec := { name := "chainHolds", fn := fun _ => fun
  | [d1, d2, d3] => { results := [.lit (.bool false)], args := [d1, d2, d3] }
  | _ => none }
def ChainHoldsWrongFalsely : Prop := chainHoldsRow.holds Tryd.pinned (OpenSpec.ofChange chainHoldsWrong)

/-- 'penstocklaw12.ChainRefuses': WHATEVER THE INPUT: true; the input reads as it did. -/
def chainRefusesSpec : ChangeSpec := { name := "chainRefuses", fn := fun _ => fun
  | [d1, d2, d3, d4, d5] => { results := [.lit (.bool true)], args := [d1, d2, d3, d4, d5] }
  | _ => none }
def chainRefusesRow : OpenClaim := { program := "ytnodnbinfhildaadoor", sum := "aebd759e79fbb372d77565b83782596d17876b77b9feb82f7111589bd7176af2", func := "penstock/penstocklaw12.ChainRefuses", spec := "chainRefuses", unfollowed := true, recurses := true, named := ["penstock/params.rows"], apart := false, laid := [("penstock/params.rows", laid_penstock_params_rows)] }
def ChainRefusesSaid : Prop := chainRefusesRow.holds Tryd.pinned (OpenSpec.ofChange chainRefusesSpec)

/-- ITS FALSE NEIGHBOUR: 'it returns false'. Refute it at one input. -/
def chainRefusesWrong : ChangeSpec := { name := "chainRefuses", fn := fun _ => fun
  | [d1, d2, d3, d4, d5] => { results := [.lit (.bool false)], args := [d1, d2, d3, d4, d5] }
  | _ => none }
def ChainRefusesWrongFalsely : Prop := chainRefusesRow.holds Tryd.pinned (OpenSpec.ofChange chainRefusesWrong)

/-- 'penstocklaw12.ChainChunks': WHATEVER THE INPUT: true; the input reads as it did. -/
def chainChunksSpec : ChangeSpec := { name := "chainChunks", fn := fun _ => fun
  | [d1, d2, d3, d4] => { results := [.lit (.bool true)], args := [d1, d2, d3, d4] }
  | _ => none }
def chainChunksRow : OpenClaim := { program := "ytnodnbinfhildaadoor", sum := "aebd759e79fbb372d77565b83782596d17876b77b9feb82f7111589bd7176af2", func := "penstock/penstocklaw12.ChainChunks", spec := "chainChunks", unfollowed := true, recurses := true, named := ["penstock/params.rows"], apart := false, laid := [("penstock/params.rows", laid_penstock_params_rows)] }
def ChainChunksSaid : Prop := chainChunksRow.holds Tryd.pinned (OpenSpec.ofChange chainChunksSpec)

/-- ITS FALSE NEIGHBOUR: 'it returns false'. Refute it at one input. -/
def chainChunksWrong : ChangeSpec := { name := "chainChunks", fn := fun _ => fun
  | [d1, d2, d3, d4] => { results := [.lit (.bool false)], args := [d1, d2, d3, d4] }
  | _ => none }
def ChainChunksWrongFalsely : Prop := chainChunksRow.holds Tryd.pinned (OpenSpec.ofChange chainChunksWrong)

/-- 'penstocklaw12.ChainGrows': WHATEVER THE INPUT: true; the input reads as it did. -/
def chainGrowsSpec : ChangeSpec := { name := "chainGrows", fn := fun _ => fun
  | [d1, d2, d3, d4, d5] => { results := [.lit (.bool true)], args := [d1, d2, d3, d4, d5] }
  | _ => none }
def chainGrowsRow : OpenClaim := { program := "ytnodnbinfhildaadoor", sum := "aebd759e79fbb372d77565b83782596d17876b77b9feb82f7111589bd7176af2", func := "penstock/penstocklaw12.ChainGrows", spec := "chainGrows", unfollowed := true, recurses := true, named := ["penstock/params.rows"], apart := false, laid := [("penstock/params.rows", laid_penstock_params_rows)] }
def ChainGrowsSaid : Prop := chainGrowsRow.holds Tryd.pinned (OpenSpec.ofChange chainGrowsSpec)

/-- ITS FALSE NEIGHBOUR: 'it returns false'. Refute it at one input. -/
def chainGrowsWrong : ChangeSpec := { name := "chainGrows", fn := fun _ => fun
  | [d1, d2, d3, d4, d5] => { results := [.lit (.bool false)], args := [d1, d2, d3, d4, d5] }
  | _ => none }
def ChainGrowsWrongFalsely : Prop := chainGrowsRow.holds Tryd.pinned (OpenSpec.ofChange chainGrowsWrong)

/-- 'penstocklaw12.ChainJoins': WHATEVER THE INPUT: true; the input reads as it did. -/
def chainJoinsSpec : ChangeSpec := { name := "chainJoins", fn := fun _ => fun
  | [d1, d2] => { results := [.lit (.bool true)], args := [d1, d2] }
  | _ => none }
def chainJoinsRow : OpenClaim := { program := "ytnodnbinfhildaadoor", sum := "aebd759e79fbb372d77565b83782596d17876b77b9feb82f7111589bd7176af2", func := "penstock/penstocklaw12.ChainJoins", spec := "chainJoins", unfollowed := true, recurses := true, named := ["penstock/params.rows"], apart := false, laid := [("penstock/params.rows", laid_penstock_params_rows)] }
def ChainJoinsSaid : Prop := chainJoinsRow.holds Tryd.pinned (OpenSpec.ofChange chainJoinsSpec)

/-- ITS FALSE NEIGHBOUR: 'it returns false'. Refute it at one input. -/
def chainJoinsWrong : ChangeSpec := { name := "chainJoins", fn := fun _ => fun
  | [d1, d2] => { results := [.lit (.bool false)], args := [d1, d2] }
  | _ => none }
def ChainJoinsWrongFalsely : Prop := chainJoinsRow.holds Tryd.pinned (OpenSpec.ofChange chainJoinsWrong)

/- THE SECOND FORM. 'bulk': how many values and letters a reading holds, each counted each time it is reached (what is shared counts as often as it is met; a slice's spare places count too). A statement '..UptoSaid' is the law's where the arguments, and the package variables that the reading takes, are together of bulk at most 1048576: NARROWER than '..Said'. Prove '..Said' where nothing that the law and all that it calls make is longer than what came in: it says more and counts as full. Else prove '..UptoSaid'. A law counts once. -/
mutual
def uptoBulk {H : Type} : DataW H → Nat
  | .lit (.string bytes) => bytes.length + 1
  | .lit _ => 1
  | .nil => 1
  | .ptr d => uptoBulk d + 1
  | .slice elems spare => uptoBulkAll elems + uptoBulkAll spare + 1
  | .agg parts => uptoBulkAll parts + 1
  | .iface _ d => uptoBulk d + 1
  | .map entries => uptoBulkEntries entries + 1
  | .held _ => 1
def uptoBulkAll {H : Type} : List (DataW H) → Nat
  | [] => 0
  | d :: r => uptoBulk d + uptoBulkAll r
def uptoBulkEntries {H : Type} : List (Lit × DataW H) → Nat
  | [] => 0
  | x :: r => uptoBulkEntry x + uptoBulkEntries r
def uptoBulkEntry {H : Type} : Lit × DataW H → Nat
  | (.string bytes, d) => bytes.length + uptoBulk d + 1
  | (_, d) => uptoBulk d + 1
 end
def uptoSmall : (H : Type) → List (DataW H) → Bool := fun _ ds => decide (uptoBulkAll ds ≤ 1048576)
def OpenSpec.upto (s : _root_.Go.ChangeSpec) : _root_.Go.OpenSpec := { _root_.Go.OpenSpec.ofChange s with cond := some uptoSmall }

/-- 'penstocklaw12.ChainMakes', WHERE WHAT IT READS IS OF BULK AT MOST 1048576: true; the input reads as it did. -/
def chainMakesUptoRow : OpenClaim := { program := "ytnodnbinfhildaadoor", sum := "aebd759e79fbb372d77565b83782596d17876b77b9feb82f7111589bd7176af2", func := "penstock/penstocklaw12.ChainMakes", spec := "chainMakes", unfollowed := true, recurses := true, named := ["penstock/params.rows"], apart := false, laid := [("penstock/params.rows", laid_penstock_params_rows)], narrowed := true }
def ChainMakesUptoSaid : Prop := chainMakesUptoRow.holds Tryd.pinned (OpenSpec.upto chainMakesSpec)

/-- 'penstocklaw12.ChainMeans', WHERE WHAT IT READS IS OF BULK AT MOST 1048576: true; the input reads as it did. -/
def chainMeansUptoRow : OpenClaim := { program := "ytnodnbinfhildaadoor", sum := "aebd759e79fbb372d77565b83782596d17876b77b9feb82f7111589bd7176af2", func := "penstock/penstocklaw12.ChainMeans", spec := "chainMeans", unfollowed := true, recurses := true, named := ["penstock/params.rows"], apart := false, laid := [("penstock/params.rows", laid_penstock_params_rows)], narrowed := true }
def ChainMeansUptoSaid : Prop := chainMeansUptoRow.holds Tryd.pinned (OpenSpec.upto chainMeansSpec)

/-- 'penstocklaw12.ChainHolds', WHERE WHAT IT READS IS OF BULK AT MOST 1048576: true; the input reads as it did. -/
def chainHoldsUptoRow : OpenClaim := { program := "ytnodnbinfhildaadoor", sum := "aebd759e79fbb372d77565b83782596d17876b77b9feb82f7111589bd7176af2", func := "penstock/penstocklaw12.ChainHolds", spec := "chainHolds", unfollowed := true, recurses := true, named := ["penstock/params.rows"], apart := false, laid := [("penstock/params.rows", laid_penstock_params_rows)], narrowed := true }
def ChainHoldsUptoSaid : Prop := chainHoldsUptoRow.holds Tryd.pinned (OpenSpec.upto chainHoldsSpec)

/-- 'penstocklaw12.ChainRefuses', WHERE WHAT IT READS IS OF BULK AT MOST 1048576: true; the input reads as it did. -/
def chainRefusesUptoRow : OpenClaim := { program := "ytnodnbinfhildaadoor", sum := "aebd759e79fbb372d77565b83782596d17876b77b9feb82f7111589bd7176af2", func := "penstock/penstocklaw12.ChainRefuses", spec := "chainRefuses", unfollowed := true, recurses := true, named := ["penstock/params.rows"], apart := false, laid := [("penstock/params.rows", laid_penstock_params_rows)], narrowed := true }
def ChainRefusesUptoSaid : Prop := chainRefusesUptoRow.holds Tryd.pinned (OpenSpec.upto chainRefusesSpec)

/-- 'penstocklaw12.ChainChunks', WHERE WHAT IT READS IS OF BULK AT MOST 1048576: true; the input reads as it did. -/
def chainChunksUptoRow : OpenClaim := { program := "ytnodnbinfhildaadoor", sum := "aebd759e79fbb372d77565b83782596d17876b77b9feb82f7111589bd7176af2", func := "penstock/penstocklaw12.ChainChunks", spec := "chainChunks", unfollowed := true, recurses := true, named := ["penstock/params.rows"], apart := false, laid := [("penstock/params.rows", laid_penstock_params_rows)], narrowed := true }
def ChainChunksUptoSaid : Prop := chainChunksUptoRow.holds Tryd.pinned (OpenSpec.upto chainChunksSpec)

/-- 'penstocklaw12.ChainGrows', WHERE WHAT IT READS IS OF BULK AT MOST 1048576: true; the input reads as it did. -/
def chainGrowsUptoRow : OpenClaim := { program := "ytnodnbinfhildaadoor", sum := "aebd759e79fbb372d77565b83782596d17876b77b9feb82f7111589bd7176af2", func := "penstock/penstocklaw12.ChainGrows", spec := "chainGrows", unfollowed := true, recurses := true, named := ["penstock/params.rows"], apart := false, laid := [("penstock/params.rows", laid_penstock_params_rows)], narrowed := true }
def ChainGrowsUptoSaid : Prop := chainGrowsUptoRow.holds Tryd.pinned (OpenSpec.upto chainGrowsSpec)

/-- 'penstocklaw12.ChainJoins', WHERE WHAT IT READS IS OF BULK AT MOST 1048576: true; the input reads as it did. -/
def chainJoinsUptoRow : OpenClaim := { program := "ytnodnbinfhildaadoor", sum := "aebd759e79fbb372d77565b83782596d17876b77b9feb82f7111589bd7176af2", func := "penstock/penstocklaw12.ChainJoins", spec := "chainJoins", unfollowed := true, recurses := true, named := ["penstock/params.rows"], apart := false, laid := [("penstock/params.rows", laid_penstock_params_rows)], narrowed := true }
def ChainJoinsUptoSaid : Prop := chainJoinsUptoRow.holds Tryd.pinned (OpenSpec.upto chainJoinsSpec)

end Rows
end Go.Proofs.YtnodnbinfhildaaDoor
