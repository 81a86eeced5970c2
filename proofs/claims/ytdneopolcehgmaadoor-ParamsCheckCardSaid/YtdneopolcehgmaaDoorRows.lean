/-
  NARROWER THAN 'FOR EVERY INPUT', by the rows' own cells (each row's printed sentence says how): ParamsCheck: laid · ParamsTells: laid · ParamsSame: laid · ParamsBounds: laid.
  DERIVED. THE GIVEN ROWS OF THIS SEAT. 4 by the template 'for every input the law returns true; each argument reads behind the call as it read before'; 0 by the template 'total and deterministic' (their statements: YtdneopolcehgmaaDoorTotals.lean).
  GIVEN WITH THE SEED: the statements are not yours to turn. If you find one false, say at which input.
  Laid BY PROGRAM, IN A SANDBOX (cutbox-rows.mjs): the forced cells as the released guide's own fill.sh prints them over the translation d2aa91dd080c09d5… (all of the seat's roots in one cut). By AI agents, Wed Nov 11 2026. No macro, syntax, notation, axiom, sorry.
-/
import Derived.Test.YtdneopolcehgmaaDoorChecked
import GoSem.Claim
import GoSem.ClaimJoined
import GoSem.ClaimMapViews
import Derived.JoinedTies
import Derived.KernelRfl
namespace Go.Proofs.YtdneopolcehgmaaDoor
/- THE CELL 'sum', in the pinned program and in every row, IS THE sha256 OF THE DUMP (.gsa) THAT YtdneopolcehgmaaDoorProg.lean LOADS. Nothing in Lean hashes anything: it is a label: what it is worth is what the hold of that sum in a sandbox is worth. -/
noncomputable def Tryd.pinned : Pinned := { name := "ytdneopolcehgmaadoor", sum := "d2aa91dd080c09d5d56ff148f560828673507ade8edd6e62ee9343499c8d8aff", checked := Tryd.checked }
namespace Rows
def none {H : Type} : Left H := { results := [], args := [] }

/- WHAT THE LISTED PACKAGE-LEVEL VARIABLES READ AS WHEN THE CALL BEGINS. Each datum BY PROGRAM (the guide's laid-datum.mjs) off the statement by which the dump's own 'gosem.cut.vars' lays the variable. In a bare row this is a premise. The card (YtdneopolcehgmaaDoorCards.lean) ties it to the program's text. -/
def laid_penstock_params_rows {H : Type} : DataW H := .agg [.agg [.lit (.int .i64 0), .lit (.int .i64 0), .lit (.int .i64 0), .lit (.int .i64 0), .lit (.int .i64 0), .lit (.int .i64 0), .lit (.int .i64 0)], .agg [.lit (.int .i64 0), .lit (.int .i64 15), .lit (.int .i64 0), .lit (.int .i64 0), .lit (.int .i64 1), .lit (.int .i64 0), .lit (.int .i64 0)], .agg [.lit (.int .i64 0), .lit (.int .i64 15), .lit (.int .i64 0), .lit (.int .i64 1), .lit (.int .i64 0), .lit (.int .i64 0), .lit (.int .i64 0)], .agg [.lit (.int .i64 0), .lit (.int .i64 1000000000), .lit (.int .i64 0), .lit (.int .i64 1), .lit (.int .i64 1), .lit (.int .i64 64), .lit (.int .i64 0)], .agg [.lit (.int .i64 0), .lit (.int .i64 9223372036854775807), .lit (.int .i64 0), .lit (.int .i64 1), .lit (.int .i64 1), .lit (.int .i64 64), .lit (.int .i64 64)], .agg [.lit (.int .i64 0), .lit (.int .i64 1), .lit (.int .i64 2), .lit (.int .i64 1), .lit (.int .i64 1), .lit (.int .i64 64), .lit (.int .i64 0)], .agg [.lit (.int .i64 0), .lit (.int .i64 0), .lit (.int .i64 3), .lit (.int .i64 1), .lit (.int .i64 1), .lit (.int .i64 0), .lit (.int .i64 0)], .agg [.lit (.int .i64 1), .lit (.int .i64 65535), .lit (.int .i64 1), .lit (.int .i64 1), .lit (.int .i64 1), .lit (.int .i64 64), .lit (.int .i64 0)], .agg [.lit (.int .i64 0), .lit (.int .i64 1), .lit (.int .i64 0), .lit (.int .i64 1), .lit (.int .i64 1), .lit (.int .i64 128), .lit (.int .i64 0)], .agg [.lit (.int .i64 0), .lit (.int .i64 0), .lit (.int .i64 0), .lit (.int .i64 1), .lit (.int .i64 1), .lit (.int .i64 0), .lit (.int .i64 0)], .agg [.lit (.int .i64 0), .lit (.int .i64 1000000000), .lit (.int .i64 0), .lit (.int .i64 1), .lit (.int .i64 1), .lit (.int .i64 64), .lit (.int .i64 0)], .agg [.lit (.int .i64 0), .lit (.int .i64 1), .lit (.int .i64 0), .lit (.int .i64 1), .lit (.int .i64 1), .lit (.int .i64 320), .lit (.int .i64 0)], .agg [.lit (.int .i64 1), .lit (.int .i64 4), .lit (.int .i64 0), .lit (.int .i64 (-1)), .lit (.int .i64 1), .lit (.int .i64 0), .lit (.int .i64 0)], .agg [.lit (.int .i64 1), .lit (.int .i64 4), .lit (.int .i64 1), .lit (.int .i64 (-1)), .lit (.int .i64 1), .lit (.int .i64 0), .lit (.int .i64 96)], .agg [.lit (.int .i64 1), .lit (.int .i64 9223372036854775807), .lit (.int .i64 1), .lit (.int .i64 2), .lit (.int .i64 1), .lit (.int .i64 192), .lit (.int .i64 128)], .agg [.lit (.int .i64 1), .lit (.int .i64 4), .lit (.int .i64 0), .lit (.int .i64 1), .lit (.int .i64 (-1)), .lit (.int .i64 0), .lit (.int .i64 0)], .agg [.lit (.int .i64 1), .lit (.int .i64 4), .lit (.int .i64 0), .lit (.int .i64 1), .lit (.int .i64 (-1)), .lit (.int .i64 64), .lit (.int .i64 0)]]

/-- 'penstocklaw03.ParamsCheck': WHATEVER THE INPUT: true; the input reads as it did. -/
def paramsCheckSpec : ChangeSpec := { name := "paramsCheck", fn := fun _ => fun
  | [d] => { results := [.lit (.bool true)], args := [d] }
  | _ => none }
def paramsCheckRow : OpenClaim := { program := "ytdneopolcehgmaadoor", sum := "d2aa91dd080c09d5d56ff148f560828673507ade8edd6e62ee9343499c8d8aff", func := "penstock/penstocklaw03.ParamsCheck", spec := "paramsCheck", named := ["penstock/params.rows"], apart := false, laid := [("penstock/params.rows", laid_penstock_params_rows)] }
def ParamsCheckSaid : Prop := paramsCheckRow.holds Tryd.pinned (OpenSpec.ofChange paramsCheckSpec)

/-- ITS FALSE NEIGHBOUR: 'it returns false'. Refute it at one input. -/
def paramsCheckWrong : ChangeSpec := { name := "paramsCheck", fn := fun _ => fun
  | [d] => { results := [.lit (.bool false)], args := [d] }
  | _ => none }
def ParamsCheckWrongFalsely : Prop := paramsCheckRow.holds Tryd.pinned (OpenSpec.ofChange paramsCheckWrong)

/-- 'penstocklaw03.ParamsTells': WHATEVER THE INPUT: true; the input reads as it did. -/
def paramsTellsSpec : ChangeSpec := { name := "paramsTells", fn := fun _ => fun
  | [d] => { results := [.lit (.bool true)], args := [d] }
  | _ => none }
def paramsTellsRow : OpenClaim := { program := "ytdneopolcehgmaadoor", sum := "d2aa91dd080c09d5d56ff148f560828673507ade8edd6e62ee9343499c8d8aff", func := "penstock/penstocklaw03.ParamsTells", spec := "paramsTells", named := ["penstock/params.rows"], apart := false, laid := [("penstock/params.rows", laid_penstock_params_rows)] }
def ParamsTellsSaid : Prop := paramsTellsRow.holds Tryd.pinned (OpenSpec.ofChange paramsTellsSpec)

/-- ITS FALSE NEIGHBOUR: 'it returns false'. Refute it at one input. -/
def paramsTellsWrong : ChangeSpec := { name := "paramsTells", fn := fun _ => fun
  | [d] => { results := [.lit (.bool false)], args := [d] }
  | _ => none }
def ParamsTellsWrongFalsely : Prop := paramsTellsRow.holds Tryd.pinned (OpenSpec.ofChange paramsTellsWrong)

/-- 'penstocklaw03.ParamsSame': WHATEVER THE INPUT: true; the input reads as it did. -/
def paramsSameSpec : ChangeSpec := { name := "paramsSame", fn := fun _ => fun
  | [d1, d2] => { results := [.lit (.bool true)], args := [d1, d2] }
  | _ => none }
def paramsSameRow : OpenClaim := { program := "ytdneopolcehgmaadoor", sum := "d2aa91dd080c09d5d56ff148f560828673507ade8edd6e62ee9343499c8d8aff", func := "penstock/penstocklaw03.ParamsSame", spec := "paramsSame", named := ["penstock/params.rows"], apart := false, laid := [("penstock/params.rows", laid_penstock_params_rows)] }
def ParamsSameSaid : Prop := paramsSameRow.holds Tryd.pinned (OpenSpec.ofChange paramsSameSpec)

/-- ITS FALSE NEIGHBOUR: 'it returns false'. Refute it at one input. -/
def paramsSameWrong : ChangeSpec := { name := "paramsSame", fn := fun _ => fun
  | [d1, d2] => { results := [.lit (.bool false)], args := [d1, d2] }
  | _ => none }
def ParamsSameWrongFalsely : Prop := paramsSameRow.holds Tryd.pinned (OpenSpec.ofChange paramsSameWrong)

/-- 'penstocklaw03.ParamsBounds': WHATEVER THE INPUT: true; the input reads as it did. -/
def paramsBoundsSpec : ChangeSpec := { name := "paramsBounds", fn := fun _ => fun
  | [d1, d2] => { results := [.lit (.bool true)], args := [d1, d2] }
  | _ => none }
def paramsBoundsRow : OpenClaim := { program := "ytdneopolcehgmaadoor", sum := "d2aa91dd080c09d5d56ff148f560828673507ade8edd6e62ee9343499c8d8aff", func := "penstock/penstocklaw03.ParamsBounds", spec := "paramsBounds", named := ["penstock/params.rows"], apart := false, laid := [("penstock/params.rows", laid_penstock_params_rows)] }
def ParamsBoundsSaid : Prop := paramsBoundsRow.holds Tryd.pinned (OpenSpec.ofChange paramsBoundsSpec)

/-- ITS FALSE NEIGHBOUR: 'it returns false'. Refute it at one input. -/
def paramsBoundsWrong : ChangeSpec := { name := "paramsBounds", fn := fun _ => fun
  | [d1, d2] => { results := [.lit (.bool false)], args := [d1, d2] }
  | _ => none }
def ParamsBoundsWrongFalsely : Prop := paramsBoundsRow.holds Tryd.pinned (OpenSpec.ofChange paramsBoundsWrong)

/- THE SECOND FORM. 'bulk': how many values and letters a reading holds, each counted each time it is reached (what is shared counts as often as it is met; a slice's spare places count too). A statement '..UptoSaid' is the law's where the arguments, and the package variables that the reading takes, are together of bulk at most 1048576: NARROWER than '..Said'. Prove '..Said' where nothing that the law and all that it calls make is longer than what came in: it says more and counts as full. Else prove '..UptoSaid'. A law counts once. -/
mutual
def uptoBulk {H : Type} : DataW H → Nat
  | .lit (.string bytes) => bytes.length + 1
  | .lit _ => 1
  | .nil => 1
  | .ptr d => uptoBulk d + 1
  | .slice elems spare => uptoBulkAll elems + uptoBulkAll spare + 1
  | .agg parts => uptoBulkAll parts + 1
  | .iface _ d => uptoBulk d + 1
  | .map entries => uptoBulkEntries entries + 1
  | .held _ => 1
def uptoBulkAll {H : Type} : List (DataW H) → Nat
  | [] => 0
  | d :: r => uptoBulk d + uptoBulkAll r
def uptoBulkEntries {H : Type} : List (Lit × DataW H) → Nat
  | [] => 0
  | x :: r => uptoBulkEntry x + uptoBulkEntries r
def uptoBulkEntry {H : Type} : Lit × DataW H → Nat
  | (.string bytes, d) => bytes.length + uptoBulk d + 1
  | (_, d) => uptoBulk d + 1
 end
def uptoSmall : (H : Type) → List (DataW H) → Bool := fun _ ds => decide (uptoBulkAll ds ≤ 1048576)
def OpenSpec.upto (s : _root_.Go.ChangeSpec) : _root_.Go.OpenSpec := { _root_.Go.OpenSpec.ofChange s with cond := some uptoSmall }

/-- 'penstocklaw03.ParamsCheck', WHERE WHAT IT READS IS OF BULK AT MOST 1048576: true; the input reads as it did. -/
def paramsCheckUptoRow : OpenClaim := { program := "ytdneopolcehgmaadoor", sum := "d2aa91dd080c09d5d56ff148f560828673507ade8edd6e62ee9343499c8d8aff", func := "penstock/penstocklaw03.ParamsCheck", spec := "paramsCheck", named := ["penstock/params.rows"], apart := false, laid := [("penstock/params.rows", laid_penstock_params_rows)], narrowed := true }
def ParamsCheckUptoSaid : Prop := paramsCheckUptoRow.holds Tryd.pinned (OpenSpec.upto paramsCheckSpec)

/-- 'penstocklaw03.ParamsTells', WHERE WHAT IT READS IS OF BULK AT MOST 1048576: true; the input reads as it did. -/
def paramsTellsUptoRow : OpenClaim := { program := "ytdneopolcehgmaadoor", sum := "d2aa91dd080c09d5d56ff148f560828673507ade8edd6e62ee9343499c8d8aff", func := "penstock/penstocklaw03.ParamsTells", spec := "paramsTells", named := ["penstock/params.rows"], apart := false, laid := [("penstock/params.rows", laid_penstock_params_rows)], narrowed := true }
def ParamsTellsUptoSaid : Prop := paramsTellsUptoRow.holds Tryd.pinned (OpenSpec.upto paramsTellsSpec)

/-- 'penstocklaw03.ParamsSame', WHERE WHAT IT READS IS OF BULK AT MOST 1048576: true; the input reads as it did. -/
def paramsSameUptoRow : OpenClaim := { program := "ytdneopolcehgmaadoor", sum := "d2aa91dd080c09d5d56ff148f560828673507ade8edd6e62ee9343499c8d8aff", func := "penstock/penstocklaw03.ParamsSame", spec := "paramsSame", named := ["penstock/params.rows"], apart := false, laid := [("penstock/params.rows", laid_penstock_params_rows)], narrowed := true }
def ParamsSameUptoSaid : Prop := paramsSameUptoRow.holds Tryd.pinned (OpenSpec.upto paramsSameSpec)

/-- 'penstocklaw03.ParamsBounds', WHERE WHAT IT READS IS OF BULK AT MOST 1048576: true; the input reads as it did. -/
def paramsBoundsUptoRow : OpenClaim := { program := "ytdneopolcehgmaadoor", sum := "d2aa91dd080c09d5d56ff148f560828673507ade8edd6e62ee9343499c8d8aff", func := "penstock/penstocklaw03.ParamsBounds", spec := "paramsBounds", named := ["penstock/params.rows"], apart := false, laid := [("penstock/params.rows", laid_penstock_params_rows)], narrowed := true }
def ParamsBoundsUptoSaid : Prop := paramsBoundsUptoRow.holds Tryd.pinned (OpenSpec.upto paramsBoundsSpec)

end Rows
end Go.Proofs.YtdneopolcehgmaaDoor
