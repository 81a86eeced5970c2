/-
  NARROWER THAN 'FOR EVERY INPUT', by the rows' own cells (each row's printed sentence says how): TeeMakes: laid · TeeMeans: laid · TeeHolds: laid · TeeRefuses: laid · TeeChunks: laid · TeeGrows: laid · TeeSame: laid.
  DERIVED. THE GIVEN ROWS OF THIS SEAT. 7 by the template 'for every input the law returns true; each argument reads behind the call as it read before'; 0 by the template 'total and deterministic' (their statements: YtdcaniidkaicdaaDoorTotals.lean).
  GIVEN WITH THE SEED: the statements are not yours to turn. If you find one false, say at which input.
  Laid BY PROGRAM, IN A SANDBOX (cutbox-rows.mjs): the forced cells as the released guide's own fill.sh prints them over the translation 4df5bc82fe985e06… (all of the seat's roots in one cut). By AI agents, Wed Nov 11 2026. No macro, syntax, notation, axiom, sorry.
-/
import Derived.Test.YtdcaniidkaicdaaDoorChecked
import GoSem.Claim
import GoSem.ClaimJoined
import GoSem.ClaimMapViews
import Derived.JoinedTies
import Derived.KernelRfl
namespace Go.Proofs.YtdcaniidkaicdaaDoor
/- THE CELL 'sum', in the pinned program and in every row, IS THE sha256 OF THE DUMP (.gsa) THAT YtdcaniidkaicdaaDoorProg.lean LOADS. Nothing in Lean hashes anything: it is a label: what it is worth is what the hold of that sum in a sandbox is worth. -/
noncomputable def Tryd.pinned : Pinned := { name := "ytdcaniidkaicdaadoor", sum := "4df5bc82fe985e06c34a83d7addc0aa45f6dfd6b810845fe7e41ed3bb2b1ca15", checked := Tryd.checked }
namespace Rows
def none {H : Type} : Left H := { results := [], args := [] }

/- WHAT THE LISTED PACKAGE-LEVEL VARIABLES READ AS WHEN THE CALL BEGINS. Each datum BY PROGRAM (the guide's laid-datum.mjs) off the statement by which the dump's own 'gosem.cut.vars' lays the variable. In a bare row this is a premise. The card (YtdcaniidkaicdaaDoorCards.lean) ties it to the program's text. -/
def laid_penstock_params_rows {H : Type} : DataW H := .agg [.agg [.lit (.int .i64 0), .lit (.int .i64 0), .lit (.int .i64 0), .lit (.int .i64 0), .lit (.int .i64 0), .lit (.int .i64 0), .lit (.int .i64 0)], .agg [.lit (.int .i64 0), .lit (.int .i64 15), .lit (.int .i64 0), .lit (.int .i64 0), .lit (.int .i64 1), .lit (.int .i64 0), .lit (.int .i64 0)], .agg [.lit (.int .i64 0), .lit (.int .i64 15), .lit (.int .i64 0), .lit (.int .i64 1), .lit (.int .i64 0), .lit (.int .i64 0), .lit (.int .i64 0)], .agg [.lit (.int .i64 0), .lit (.int .i64 1000000000), .lit (.int .i64 0), .lit (.int .i64 1), .lit (.int .i64 1), .lit (.int .i64 64), .lit (.int .i64 0)], .agg [.lit (.int .i64 0), .lit (.int .i64 9223372036854775807), .lit (.int .i64 0), .lit (.int .i64 1), .lit (.int .i64 1), .lit (.int .i64 64), .lit (.int .i64 64)], .agg [.lit (.int .i64 0), .lit (.int .i64 1), .lit (.int .i64 2), .lit (.int .i64 1), .lit (.int .i64 1), .lit (.int .i64 64), .lit (.int .i64 0)], .agg [.lit (.int .i64 0), .lit (.int .i64 0), .lit (.int .i64 3), .lit (.int .i64 1), .lit (.int .i64 1), .lit (.int .i64 0), .lit (.int .i64 0)], .agg [.lit (.int .i64 1), .lit (.int .i64 65535), .lit (.int .i64 1), .lit (.int .i64 1), .lit (.int .i64 1), .lit (.int .i64 64), .lit (.int .i64 0)], .agg [.lit (.int .i64 0), .lit (.int .i64 1), .lit (.int .i64 0), .lit (.int .i64 1), .lit (.int .i64 1), .lit (.int .i64 128), .lit (.int .i64 0)], .agg [.lit (.int .i64 0), .lit (.int .i64 0), .lit (.int .i64 0), .lit (.int .i64 1), .lit (.int .i64 1), .lit (.int .i64 0), .lit (.int .i64 0)], .agg [.lit (.int .i64 0), .lit (.int .i64 1000000000), .lit (.int .i64 0), .lit (.int .i64 1), .lit (.int .i64 1), .lit (.int .i64 64), .lit (.int .i64 0)], .agg [.lit (.int .i64 0), .lit (.int .i64 1), .lit (.int .i64 0), .lit (.int .i64 1), .lit (.int .i64 1), .lit (.int .i64 320), .lit (.int .i64 0)], .agg [.lit (.int .i64 1), .lit (.int .i64 4), .lit (.int .i64 0), .lit (.int .i64 (-1)), .lit (.int .i64 1), .lit (.int .i64 0), .lit (.int .i64 0)], .agg [.lit (.int .i64 1), .lit (.int .i64 4), .lit (.int .i64 1), .lit (.int .i64 (-1)), .lit (.int .i64 1), .lit (.int .i64 0), .lit (.int .i64 96)], .agg [.lit (.int .i64 1), .lit (.int .i64 9223372036854775807), .lit (.int .i64 1), .lit (.int .i64 2), .lit (.int .i64 1), .lit (.int .i64 192), .lit (.int .i64 128)], .agg [.lit (.int .i64 1), .lit (.int .i64 4), .lit (.int .i64 0), .lit (.int .i64 1), .lit (.int .i64 (-1)), .lit (.int .i64 0), .lit (.int .i64 0)], .agg [.lit (.int .i64 1), .lit (.int .i64 4), .lit (.int .i64 0), .lit (.int .i64 1), .lit (.int .i64 (-1)), .lit (.int .i64 64), .lit (.int .i64 0)]]

/-- 'penstocklaw15.TeeMakes': WHATEVER THE INPUT: true; the input reads as it did. -/
def teeMakesSpec : ChangeSpec := { name := "teeMakes", fn := fun _ => fun
  | [d] => { results := [.lit (.bool true)], args := [d] }
  | _ => none }
def teeMakesRow : OpenClaim := { program := "ytdcaniidkaicdaadoor", sum := "4df5bc82fe985e06c34a83d7addc0aa45f6dfd6b810845fe7e41ed3bb2b1ca15", func := "penstock/penstocklaw15.TeeMakes", spec := "teeMakes", unfollowed := true, recurses := true, named := ["penstock/params.rows"], apart := false, laid := [("penstock/params.rows", laid_penstock_params_rows)] }
def TeeMakesSaid : Prop := teeMakesRow.holds Tryd.pinned (OpenSpec.ofChange teeMakesSpec)

/-- ITS FALSE NEIGHBOUR: 'it returns false'. Refute it at one input. -/
def teeMakesWrong : ChangeSpec := { name := "teeMakes", fn := fun _ => fun
  | [d] => { results := [.lit (.bool false)], args := [d] }
  | _ => none }
def TeeMakesWrongFalsely : Prop := teeMakesRow.holds Tryd.pinned (OpenSpec.ofChange teeMakesWrong)

/-- 'penstocklaw15.TeeMeans': WHATEVER THE INPUT: true; the input reads as it did. -/
def teeMeansSpec : ChangeSpec := { name := "teeMeans", fn := fun _ => fun
  | [d1, d2, d3] => { results := [.lit (.bool true)], args := [d1, d2, d3] }
  | _ => none }
def teeMeansRow : OpenClaim := { program := "ytdcaniidkaicdaadoor", sum := "4df5bc82fe985e06c34a83d7addc0aa45f6dfd6b810845fe7e41ed3bb2b1ca15", func := "penstock/penstocklaw15.TeeMeans", spec := "teeMeans", unfollowed := true, recurses := true, named := ["penstock/params.rows"], apart := false, laid := [("penstock/params.rows", laid_penstock_params_rows)] }
def TeeMeansSaid : Prop := teeMeansRow.holds Tryd.pinned (OpenSpec.ofChange teeMeansSpec)

/-- ITS FALSE NEIGHBOUR: 'it returns false'. Refute it at one input. -/
def teeMeansWrong : ChangeSpec := { name := "teeMeans", fn := fun _ => fun
  | [d1, d2, d3] => { results := [.lit (.bool false)], args := [d1, d2, d3] }
  | _ => none }
def TeeMeansWrongFalsely : Prop := teeMeansRow.holds Tryd.pinned (OpenSpec.ofChange teeMeansWrong)

/-- 'penstocklaw15.TeeHolds': WHATEVER THE INPUT: true; the input reads as it did. -/
def teeHoldsSpec : ChangeSpec := { name := "teeHolds", fn := fun _ => fun
  | [d1, d2, d3] => { results := [.lit (.bool true)], args := [d1, d2, d3] }
  | _ => none }
def teeHoldsRow : OpenClaim := { program := "ytdcaniidkaicdaadoor", sum := "4df5bc82fe985e06c34a83d7addc0aa45f6dfd6b810845fe7e41ed3bb2b1ca15", func := "penstock/penstocklaw15.TeeHolds", spec := "teeHolds", unfollowed := true, recurses := true, named := ["penstock/params.rows"], apart := false, laid := [("penstock/params.rows", laid_penstock_params_rows)] }
def TeeHoldsSaid : Prop := teeHoldsRow.holds Tryd.pinned (OpenSpec.ofChange teeHoldsSpec)

/-- ITS FALSE NEIGHBOUR: 'it returns false'. Refute it at one input. -/
def teeHoldsWrong : ChangeSpec := { name := "teeHolds", fn := fun _ => fun
  | [d1, d2, d3] => { results := [.lit (.bool false)], args := [d1, d2, d3] }
  | _ => none }
def TeeHoldsWrongFalsely : Prop := teeHoldsRow.holds Tryd.pinned (OpenSpec.ofChange teeHoldsWrong)

/-- 'penstocklaw15.TeeRefuses': WHATEVER THE INPUT: true; the input reads as it did. -/
def teeRefusesSpec : ChangeSpec := { name := "teeRefuses", fn := fun _ => fun
  | [d1, d2, d3, d4, d5] => { results := [.lit (.bool true)], args := [d1, d2, d3, d4, d5] }
  | _ => none }
def teeRefusesRow : OpenClaim := { program := "ytdcaniidkaicdaadoor", sum := "4df5bc82fe985e06c34a83d7addc0aa45f6dfd6b810845fe7e41ed3bb2b1ca15", func := "penstock/penstocklaw15.TeeRefuses", spec := "teeRefuses", unfollowed := true, recurses := true, named := ["penstock/params.rows"], apart := false, laid := [("penstock/params.rows", laid_penstock_params_rows)] }
def TeeRefusesSaid : Prop := teeRefusesRow.holds Tryd.pinned (OpenSpec.ofChange teeRefusesSpec)

/-- ITS FALSE NEIGHBOUR: 'it returns false'. Refute it at one input. -/
def teeRefusesWrong : ChangeSpec := { name := "teeRefuses", fn := fun _ => fun
  | [d1, d2, d3, d4, d5] => { results := [.lit (.bool false)], args := [d1, d2, d3, d4, d5] }
  | _ => none }
def TeeRefusesWrongFalsely : Prop := teeRefusesRow.holds Tryd.pinned (OpenSpec.ofChange teeRefusesWrong)

/-- 'penstocklaw15.TeeChunks': WHATEVER THE INPUT: true; the input reads as it did. -/
def teeChunksSpec : ChangeSpec := { name := "teeChunks", fn := fun _ => fun
  | [d1, d2, d3, d4] => { results := [.lit (.bool true)], args := [d1, d2, d3, d4] }
  | _ => none }
def teeChunksRow : OpenClaim := { program := "ytdcaniidkaicdaadoor", sum := "4df5bc82fe985e06c34a83d7addc0aa45f6dfd6b810845fe7e41ed3bb2b1ca15", func := "penstock/penstocklaw15.TeeChunks", spec := "teeChunks", unfollowed := true, recurses := true, named := ["penstock/params.rows"], apart := false, laid := [("penstock/params.rows", laid_penstock_params_rows)] }
def TeeChunksSaid : Prop := teeChunksRow.holds Tryd.pinned (OpenSpec.ofChange teeChunksSpec)

/-- ITS FALSE NEIGHBOUR: 'it returns false'. Refute it at one input. -/
def teeChunksWrong : ChangeSpec := { name := "teeChunks", fn := fun _ => fun
  | [d1, d2, d3, d4] => { results := [.lit (.bool false)], args := [d1, d2, d3, d4] }
  | _ => none }
def TeeChunksWrongFalsely : Prop := teeChunksRow.holds Tryd.pinned (OpenSpec.ofChange teeChunksWrong)

/-- 'penstocklaw15.TeeGrows': WHATEVER THE INPUT: true; the input reads as it did. -/
def teeGrowsSpec : ChangeSpec := { name := "teeGrows", fn := fun _ => fun
  | [d1, d2, d3, d4, d5] => { results := [.lit (.bool true)], args := [d1, d2, d3, d4, d5] }
  | _ => none }
def teeGrowsRow : OpenClaim := { program := "ytdcaniidkaicdaadoor", sum := "4df5bc82fe985e06c34a83d7addc0aa45f6dfd6b810845fe7e41ed3bb2b1ca15", func := "penstock/penstocklaw15.TeeGrows", spec := "teeGrows", unfollowed := true, recurses := true, named := ["penstock/params.rows"], apart := false, laid := [("penstock/params.rows", laid_penstock_params_rows)] }
def TeeGrowsSaid : Prop := teeGrowsRow.holds Tryd.pinned (OpenSpec.ofChange teeGrowsSpec)

/-- ITS FALSE NEIGHBOUR: 'it returns false'. Refute it at one input. -/
def teeGrowsWrong : ChangeSpec := { name := "teeGrows", fn := fun _ => fun
  | [d1, d2, d3, d4, d5] => { results := [.lit (.bool false)], args := [d1, d2, d3, d4, d5] }
  | _ => none }
def TeeGrowsWrongFalsely : Prop := teeGrowsRow.holds Tryd.pinned (OpenSpec.ofChange teeGrowsWrong)

/-- 'penstocklaw15.TeeSame': WHATEVER THE INPUT: true; the input reads as it did. -/
def teeSameSpec : ChangeSpec := { name := "teeSame", fn := fun _ => fun
  | [d1, d2, d3] => { results := [.lit (.bool true)], args := [d1, d2, d3] }
  | _ => none }
def teeSameRow : OpenClaim := { program := "ytdcaniidkaicdaadoor", sum := "4df5bc82fe985e06c34a83d7addc0aa45f6dfd6b810845fe7e41ed3bb2b1ca15", func := "penstock/penstocklaw15.TeeSame", spec := "teeSame", unfollowed := true, recurses := true, named := ["penstock/params.rows"], apart := false, laid := [("penstock/params.rows", laid_penstock_params_rows)] }
def TeeSameSaid : Prop := teeSameRow.holds Tryd.pinned (OpenSpec.ofChange teeSameSpec)

/-- ITS FALSE NEIGHBOUR: 'it returns false'. Refute it at one input. -/
def teeSameWrong : ChangeSpec := { name := "teeSame", fn := fun _ => fun
  | [d1, d2, d3] => { results := [.lit (.bool false)], args := [d1, d2, d3] }
  | _ => none }
def TeeSameWrongFalsely : Prop := teeSameRow.holds Tryd.pinned (OpenSpec.ofChange teeSameWrong)

/- THE SECOND FORM. 'bulk': how many values and letters a reading holds, each counted each time it is reached (what is shared counts as often as it is met; a slice's spare places count too). A statement '..UptoSaid' is the law's where the arguments, and the package variables that the reading takes, are together of bulk at most 1048576: NARROWER than '..Said'. Prove '..Said' where nothing that the law and all that it calls make is longer than what came in: it says more and counts as full. Else prove '..UptoSaid'. A law counts once. -/
mutual
def uptoBulk {H : Type} : DataW H → Nat
  | .lit (.string bytes) => bytes.length + 1
  | .lit _ => 1
  | .nil => 1
  | .ptr d => uptoBulk d + 1
  | .slice elems spare => uptoBulkAll elems + uptoBulkAll spare + 1
  | .agg parts => uptoBulkAll parts + 1
  | .iface _ d => uptoBulk d + 1
  | .map entries => uptoBulkEntries entries + 1
  | .held _ => 1
def uptoBulkAll {H : Type} : List (DataW H) → Nat
  | [] => 0
  | d :: r => uptoBulk d + uptoBulkAll r
def uptoBulkEntries {H : Type} : List (Lit × DataW H) → Nat
  | [] => 0
  | x :: r => uptoBulkEntry x + uptoBulkEntries r
def uptoBulkEntry {H : Type} : Lit × DataW H → Nat
  | (.string bytes, d) => bytes.length + uptoBulk d + 1
  | (_, d) => uptoBulk d + 1
 end
def uptoSmall : (H : Type) → List (DataW H) → Bool := fun _ ds => decide (uptoBulkAll ds ≤ 1048576)
def OpenSpec.upto (s : _root_.Go.ChangeSpec) : _root_.Go.OpenSpec := { _root_.Go.OpenSpec.ofChange s with cond := some uptoSmall }

/-- 'penstocklaw15.TeeMakes', WHERE WHAT IT READS IS OF BULK AT MOST 1048576: true; the input reads as it did. -/
def teeMakesUptoRow : OpenClaim := { program := "ytdcaniidkaicdaadoor", sum := "4df5bc82fe985e06c34a83d7addc0aa45f6dfd6b810845fe7e41ed3bb2b1ca15", func := "penstock/penstocklaw15.TeeMakes", spec := "teeMakes", unfollowed := true, recurses := true, named := ["penstock/params.rows"], apart := false, laid := [("penstock/params.rows", laid_penstock_params_rows)], narrowed := true }
def TeeMakesUptoSaid : Prop := teeMakesUptoRow.holds Tryd.pinned (OpenSpec.upto teeMakesSpec)

/-- 'penstocklaw15.TeeMeans', WHERE WHAT IT READS IS OF BULK AT MOST 1048576: true; the input reads as it did. -/
def teeMeansUptoRow : OpenClaim := { program := "ytdcaniidkaicdaadoor", sum := "4df5bc82fe985e06c34a83d7addc0aa45f6dfd6b810845fe7e41ed3bb2b1ca15", func := "penstock/penstocklaw15.TeeMeans", spec := "teeMeans", unfollowed := true, recurses := true, named := ["penstock/params.rows"], apart := false, laid := [("penstock/params.rows", laid_penstock_params_rows)], narrowed := true }
def TeeMeansUptoSaid : Prop := teeMeansUptoRow.holds Tryd.pinned (OpenSpec.upto teeMeansSpec)

/-- 'penstocklaw15.TeeHolds', WHERE WHAT IT READS IS OF BULK AT MOST 1048576: true; the input reads as it did. -/
def teeHoldsUptoRow : OpenClaim := { program := "ytdcaniidkaicdaadoor", sum := "4df5bc82fe985e06c34a83d7addc0aa45f6dfd6b810845fe7e41ed3bb2b1ca15", func := "penstock/penstocklaw15.TeeHolds", spec := "teeHolds", unfollowed := true, recurses := true, named := ["penstock/params.rows"], apart := false, laid := [("penstock/params.rows", laid_penstock_params_rows)], narrowed := true }
def TeeHoldsUptoSaid : Prop := teeHoldsUptoRow.holds Tryd.pinned (OpenSpec.upto teeHoldsSpec)

/-- 'penstocklaw15.TeeRefuses', WHERE WHAT IT READS IS OF BULK AT MOST 1048576: true; the input reads as it did. -/
def teeRefusesUptoRow : OpenClaim := { program := "ytdcaniidkaicdaadoor", sum := "4df5bc82fe985e06c34a83d7addc0aa45f6dfd6b810845fe7e41ed3bb2b1ca15", func := "penstock/penstocklaw15.TeeRefuses", spec := "teeRefuses", unfollowed := true, recurses := true, named := ["penstock/params.rows"], apart := false, laid := [("penstock/params.rows", laid_penstock_params_rows)], narrowed := true }
def TeeRefusesUptoSaid : Prop := teeRefusesUptoRow.holds Tryd.pinned (OpenSpec.upto teeRefusesSpec)

/-- 'penstocklaw15.TeeChunks', WHERE WHAT IT READS IS OF BULK AT MOST 1048576: true; the input reads as it did. -/
def teeChunksUptoRow : OpenClaim := { program := "ytdcaniidkaicdaadoor", sum := "4df5bc82fe985e06c34a83d7addc0aa45f6dfd6b810845fe7e41ed3bb2b1ca15", func := "penstock/penstocklaw15.TeeChunks", spec := "teeChunks", unfollowed := true, recurses := true, named := ["penstock/params.rows"], apart := false, laid := [("penstock/params.rows", laid_penstock_params_rows)], narrowed := true }
def TeeChunksUptoSaid : Prop := teeChunksUptoRow.holds Tryd.pinned (OpenSpec.upto teeChunksSpec)

/-- 'penstocklaw15.TeeGrows', WHERE WHAT IT READS IS OF BULK AT MOST 1048576: true; the input reads as it did. -/
def teeGrowsUptoRow : OpenClaim := { program := "ytdcaniidkaicdaadoor", sum := "4df5bc82fe985e06c34a83d7addc0aa45f6dfd6b810845fe7e41ed3bb2b1ca15", func := "penstock/penstocklaw15.TeeGrows", spec := "teeGrows", unfollowed := true, recurses := true, named := ["penstock/params.rows"], apart := false, laid := [("penstock/params.rows", laid_penstock_params_rows)], narrowed := true }
def TeeGrowsUptoSaid : Prop := teeGrowsUptoRow.holds Tryd.pinned (OpenSpec.upto teeGrowsSpec)

/-- 'penstocklaw15.TeeSame', WHERE WHAT IT READS IS OF BULK AT MOST 1048576: true; the input reads as it did. -/
def teeSameUptoRow : OpenClaim := { program := "ytdcaniidkaicdaadoor", sum := "4df5bc82fe985e06c34a83d7addc0aa45f6dfd6b810845fe7e41ed3bb2b1ca15", func := "penstock/penstocklaw15.TeeSame", spec := "teeSame", unfollowed := true, recurses := true, named := ["penstock/params.rows"], apart := false, laid := [("penstock/params.rows", laid_penstock_params_rows)], narrowed := true }
def TeeSameUptoSaid : Prop := teeSameUptoRow.holds Tryd.pinned (OpenSpec.upto teeSameSpec)

end Rows
end Go.Proofs.YtdcaniidkaicdaaDoor
