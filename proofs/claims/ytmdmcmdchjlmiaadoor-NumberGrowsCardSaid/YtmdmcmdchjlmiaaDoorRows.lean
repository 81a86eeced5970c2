/-
  NARROWER THAN 'FOR EVERY INPUT', by the rows' own cells (each row's printed sentence says how): NumberMakes: laid · NumberMeans: laid · NumberHolds: laid · NumberRefuses: laid · NumberChunks: laid · NumberGrows: laid · NumberRises: laid.
  DERIVED. THE GIVEN ROWS OF THIS SEAT. 7 by the template 'for every input the law returns true; each argument reads behind the call as it read before'; 0 by the template 'total and deterministic' (their statements: YtmdmcmdchjlmiaaDoorTotals.lean).
  GIVEN WITH THE SEED: the statements are not yours to turn. If you find one false, say at which input.
  Laid BY PROGRAM, IN A SANDBOX (cutbox-rows.mjs): the forced cells as the released guide's own fill.sh prints them over the translation 3f68f36ab4fa17e8… (all of the seat's roots in one cut). By AI agents, Wed Nov 11 2026. No macro, syntax, notation, axiom, sorry.
-/
import Derived.Test.YtmdmcmdchjlmiaaDoorChecked
import GoSem.Claim
import GoSem.ClaimJoined
import GoSem.ClaimMapViews
import Derived.JoinedTies
import Derived.KernelRfl
namespace Go.Proofs.YtmdmcmdchjlmiaaDoor
/- THE CELL 'sum', in the pinned program and in every row, IS THE sha256 OF THE DUMP (.gsa) THAT YtmdmcmdchjlmiaaDoorProg.lean LOADS. Nothing in Lean hashes anything: it is a label: what it is worth is what the hold of that sum in a sandbox is worth. -/
noncomputable def Tryd.pinned : Pinned := { name := "ytmdmcmdchjlmiaadoor", sum := "3f68f36ab4fa17e85675aac2a5a35ffcbfb2a1123b42df008fcb23cb7c14241e", checked := Tryd.checked }
namespace Rows
def none {H : Type} : Left H := { results := [], args := [] }

/- WHAT THE LISTED PACKAGE-LEVEL VARIABLES READ AS WHEN THE CALL BEGINS. Each datum BY PROGRAM (the guide's laid-datum.mjs) off the statement by which the dump's own 'gosem.cut.vars' lays the variable. In a bare row this is a premise. The card (YtmdmcmdchjlmiaaDoorCards.lean) ties it to the program's text. -/
def laid_math_bits_deBruijn32tab {H : Type} : DataW H := .agg [.lit (.int .u8 0), .lit (.int .u8 1), .lit (.int .u8 28), .lit (.int .u8 2), .lit (.int .u8 29), .lit (.int .u8 14), .lit (.int .u8 24), .lit (.int .u8 3), .lit (.int .u8 30), .lit (.int .u8 22), .lit (.int .u8 20), .lit (.int .u8 15), .lit (.int .u8 25), .lit (.int .u8 17), .lit (.int .u8 4), .lit (.int .u8 8), .lit (.int .u8 31), .lit (.int .u8 27), .lit (.int .u8 13), .lit (.int .u8 23), .lit (.int .u8 21), .lit (.int .u8 19), .lit (.int .u8 16), .lit (.int .u8 7), .lit (.int .u8 26), .lit (.int .u8 12), .lit (.int .u8 18), .lit (.int .u8 6), .lit (.int .u8 11), .lit (.int .u8 5), .lit (.int .u8 10), .lit (.int .u8 9)]
def laid_math_bits_deBruijn64tab {H : Type} : DataW H := .agg [.lit (.int .u8 0), .lit (.int .u8 1), .lit (.int .u8 56), .lit (.int .u8 2), .lit (.int .u8 57), .lit (.int .u8 49), .lit (.int .u8 28), .lit (.int .u8 3), .lit (.int .u8 61), .lit (.int .u8 58), .lit (.int .u8 42), .lit (.int .u8 50), .lit (.int .u8 38), .lit (.int .u8 29), .lit (.int .u8 17), .lit (.int .u8 4), .lit (.int .u8 62), .lit (.int .u8 47), .lit (.int .u8 59), .lit (.int .u8 36), .lit (.int .u8 45), .lit (.int .u8 43), .lit (.int .u8 51), .lit (.int .u8 22), .lit (.int .u8 53), .lit (.int .u8 39), .lit (.int .u8 33), .lit (.int .u8 30), .lit (.int .u8 24), .lit (.int .u8 18), .lit (.int .u8 12), .lit (.int .u8 5), .lit (.int .u8 63), .lit (.int .u8 55), .lit (.int .u8 48), .lit (.int .u8 27), .lit (.int .u8 60), .lit (.int .u8 41), .lit (.int .u8 37), .lit (.int .u8 16), .lit (.int .u8 46), .lit (.int .u8 35), .lit (.int .u8 44), .lit (.int .u8 21), .lit (.int .u8 52), .lit (.int .u8 32), .lit (.int .u8 23), .lit (.int .u8 11), .lit (.int .u8 54), .lit (.int .u8 26), .lit (.int .u8 40), .lit (.int .u8 15), .lit (.int .u8 34), .lit (.int .u8 20), .lit (.int .u8 31), .lit (.int .u8 10), .lit (.int .u8 25), .lit (.int .u8 14), .lit (.int .u8 19), .lit (.int .u8 9), .lit (.int .u8 13), .lit (.int .u8 8), .lit (.int .u8 7), .lit (.int .u8 6)]
def laid_internal_strconv_uint64pow10 {H : Type} : DataW H := .agg [.lit (.int .u64 1), .lit (.int .u64 10), .lit (.int .u64 100), .lit (.int .u64 1000), .lit (.int .u64 10000), .lit (.int .u64 100000), .lit (.int .u64 1000000), .lit (.int .u64 10000000), .lit (.int .u64 100000000), .lit (.int .u64 1000000000), .lit (.int .u64 10000000000), .lit (.int .u64 100000000000), .lit (.int .u64 1000000000000), .lit (.int .u64 10000000000000), .lit (.int .u64 100000000000000), .lit (.int .u64 1000000000000000), .lit (.int .u64 10000000000000000), .lit (.int .u64 100000000000000000), .lit (.int .u64 1000000000000000000), .lit (.int .u64 10000000000000000000)]
def laid_penstock_params_rows {H : Type} : DataW H := .agg [.agg [.lit (.int .i64 0), .lit (.int .i64 0), .lit (.int .i64 0), .lit (.int .i64 0), .lit (.int .i64 0), .lit (.int .i64 0), .lit (.int .i64 0)], .agg [.lit (.int .i64 0), .lit (.int .i64 15), .lit (.int .i64 0), .lit (.int .i64 0), .lit (.int .i64 1), .lit (.int .i64 0), .lit (.int .i64 0)], .agg [.lit (.int .i64 0), .lit (.int .i64 15), .lit (.int .i64 0), .lit (.int .i64 1), .lit (.int .i64 0), .lit (.int .i64 0), .lit (.int .i64 0)], .agg [.lit (.int .i64 0), .lit (.int .i64 1000000000), .lit (.int .i64 0), .lit (.int .i64 1), .lit (.int .i64 1), .lit (.int .i64 64), .lit (.int .i64 0)], .agg [.lit (.int .i64 0), .lit (.int .i64 9223372036854775807), .lit (.int .i64 0), .lit (.int .i64 1), .lit (.int .i64 1), .lit (.int .i64 64), .lit (.int .i64 64)], .agg [.lit (.int .i64 0), .lit (.int .i64 1), .lit (.int .i64 2), .lit (.int .i64 1), .lit (.int .i64 1), .lit (.int .i64 64), .lit (.int .i64 0)], .agg [.lit (.int .i64 0), .lit (.int .i64 0), .lit (.int .i64 3), .lit (.int .i64 1), .lit (.int .i64 1), .lit (.int .i64 0), .lit (.int .i64 0)], .agg [.lit (.int .i64 1), .lit (.int .i64 65535), .lit (.int .i64 1), .lit (.int .i64 1), .lit (.int .i64 1), .lit (.int .i64 64), .lit (.int .i64 0)], .agg [.lit (.int .i64 0), .lit (.int .i64 1), .lit (.int .i64 0), .lit (.int .i64 1), .lit (.int .i64 1), .lit (.int .i64 128), .lit (.int .i64 0)], .agg [.lit (.int .i64 0), .lit (.int .i64 0), .lit (.int .i64 0), .lit (.int .i64 1), .lit (.int .i64 1), .lit (.int .i64 0), .lit (.int .i64 0)], .agg [.lit (.int .i64 0), .lit (.int .i64 1000000000), .lit (.int .i64 0), .lit (.int .i64 1), .lit (.int .i64 1), .lit (.int .i64 64), .lit (.int .i64 0)], .agg [.lit (.int .i64 0), .lit (.int .i64 1), .lit (.int .i64 0), .lit (.int .i64 1), .lit (.int .i64 1), .lit (.int .i64 320), .lit (.int .i64 0)], .agg [.lit (.int .i64 1), .lit (.int .i64 4), .lit (.int .i64 0), .lit (.int .i64 (-1)), .lit (.int .i64 1), .lit (.int .i64 0), .lit (.int .i64 0)], .agg [.lit (.int .i64 1), .lit (.int .i64 4), .lit (.int .i64 1), .lit (.int .i64 (-1)), .lit (.int .i64 1), .lit (.int .i64 0), .lit (.int .i64 96)], .agg [.lit (.int .i64 1), .lit (.int .i64 9223372036854775807), .lit (.int .i64 1), .lit (.int .i64 2), .lit (.int .i64 1), .lit (.int .i64 192), .lit (.int .i64 128)], .agg [.lit (.int .i64 1), .lit (.int .i64 4), .lit (.int .i64 0), .lit (.int .i64 1), .lit (.int .i64 (-1)), .lit (.int .i64 0), .lit (.int .i64 0)], .agg [.lit (.int .i64 1), .lit (.int .i64 4), .lit (.int .i64 0), .lit (.int .i64 1), .lit (.int .i64 (-1)), .lit (.int .i64 64), .lit (.int .i64 0)]]

/-- 'penstocklaw11.NumberMakes': WHATEVER THE INPUT: true; the input reads as it did. -/
def numberMakesSpec : ChangeSpec := { name := "numberMakes", fn := fun _ => fun
  | [d] => { results := [.lit (.bool true)], args := [d] }
  | _ => none }
def numberMakesRow : OpenClaim := { program := "ytmdmcmdchjlmiaadoor", sum := "3f68f36ab4fa17e85675aac2a5a35ffcbfb2a1123b42df008fcb23cb7c14241e", func := "penstock/penstocklaw11.NumberMakes", spec := "numberMakes", unfollowed := true, recurses := true, named := ["penstock/params.rows", "internal/strconv.uint64pow10", "math/bits.deBruijn32tab", "math/bits.deBruijn64tab"], apart := false, laid := [("math/bits.deBruijn32tab", laid_math_bits_deBruijn32tab), ("math/bits.deBruijn64tab", laid_math_bits_deBruijn64tab), ("internal/strconv.uint64pow10", laid_internal_strconv_uint64pow10), ("penstock/params.rows", laid_penstock_params_rows)] }
def NumberMakesSaid : Prop := numberMakesRow.holds Tryd.pinned (OpenSpec.ofChange numberMakesSpec)

/-- ITS FALSE NEIGHBOUR: 'it returns false'. Refute it at one input. -/
def numberMakesWrong : ChangeSpec := { name := "numberMakes", fn := fun _ => fun
  | [d] => { results := [.lit (.bool false)], args := [d] }
  | _ => none }
def NumberMakesWrongFalsely : Prop := numberMakesRow.holds Tryd.pinned (OpenSpec.ofChange numberMakesWrong)

/-- 'penstocklaw11.NumberMeans': WHATEVER THE INPUT: true; the input reads as it did. -/
def numberMeansSpec : ChangeSpec := { name := "numberMeans", fn := fun _ => fun
  | [d1, d2, d3] => { results := [.lit (.bool true)], args := [d1, d2, d3] }
  | _ => none }
def numberMeansRow : OpenClaim := { program := "ytmdmcmdchjlmiaadoor", sum := "3f68f36ab4fa17e85675aac2a5a35ffcbfb2a1123b42df008fcb23cb7c14241e", func := "penstock/penstocklaw11.NumberMeans", spec := "numberMeans", unfollowed := true, recurses := true, named := ["penstock/params.rows", "internal/strconv.uint64pow10", "math/bits.deBruijn32tab", "math/bits.deBruijn64tab"], apart := false, laid := [("math/bits.deBruijn32tab", laid_math_bits_deBruijn32tab), ("math/bits.deBruijn64tab", laid_math_bits_deBruijn64tab), ("internal/strconv.uint64pow10", laid_internal_strconv_uint64pow10), ("penstock/params.rows", laid_penstock_params_rows)] }
def NumberMeansSaid : Prop := numberMeansRow.holds Tryd.pinned (OpenSpec.ofChange numberMeansSpec)

/-- ITS FALSE NEIGHBOUR: 'it returns false'. Refute it at one input. -/
def numberMeansWrong : ChangeSpec := { name := "numberMeans", fn := fun _ => fun
  | [d1, d2, d3] => { results := [.lit (.bool false)], args := [d1, d2, d3] }
  | _ => none }
def NumberMeansWrongFalsely : Prop := numberMeansRow.holds Tryd.pinned (OpenSpec.ofChange numberMeansWrong)

/-- 'penstocklaw11.NumberHolds': WHATEVER THE INPUT: true; the input reads as it did. -/
def numberHoldsSpec : ChangeSpec := { name := "numberHolds", fn := fun _ => fun
  | [d1, d2, d3] => { results := [.lit (.bool true)], args := [d1, d2, d3] }
  | _ => none }
def numberHoldsRow : OpenClaim := { program := "ytmdmcmdchjlmiaadoor", sum := "3f68f36ab4fa17e85675aac2a5a35ffcbfb2a1123b42df008fcb23cb7c14241e", func := "penstock/penstocklaw11.NumberHolds", spec := "numberHolds", unfollowed := true, recurses := true, named := ["penstock/params.rows", "internal/strconv.uint64pow10", "math/bits.deBruijn32tab", "math/bits.deBruijn64tab"], apart := false, laid := [("math/bits.deBruijn32tab", laid_math_bits_deBruijn32tab), ("math/bits.deBruijn64tab", laid_math_bits_deBruijn64tab), ("internal/strconv.uint64pow10", laid_internal_strconv_uint64pow10), ("penstock/params.rows", laid_penstock_params_rows)] }
def NumberHoldsSaid : Prop := numberHoldsRow.holds Tryd.pinned (OpenSpec.ofChange numberHoldsSpec)

/-- ITS FALSE NEIGHBOUR: 'it returns false'. Refute it at one input. -/
def numberHoldsWrong : ChangeSpec := { name := "numberHolds", fn := fun _ => fun
  | [d1, d2, d3] => { results := [.lit (.bool false)], args := [d1, d2, d3] }
  | _ => none }
def NumberHoldsWrongFalsely : Prop := numberHoldsRow.holds Tryd.pinned (OpenSpec.ofChange numberHoldsWrong)

/-- 'penstocklaw11.NumberRefuses': WHATEVER THE INPUT: true; the input reads as it did. -/
def numberRefusesSpec : ChangeSpec := { name := "numberRefuses", fn := fun _ => fun
  | [d1, d2, d3, d4, d5] => { results := [.lit (.bool true)], args := [d1, d2, d3, d4, d5] }
  | _ => none }
def numberRefusesRow : OpenClaim := { program := "ytmdmcmdchjlmiaadoor", sum := "3f68f36ab4fa17e85675aac2a5a35ffcbfb2a1123b42df008fcb23cb7c14241e", func := "penstock/penstocklaw11.NumberRefuses", spec := "numberRefuses", unfollowed := true, recurses := true, named := ["penstock/params.rows", "internal/strconv.uint64pow10", "math/bits.deBruijn32tab", "math/bits.deBruijn64tab"], apart := false, laid := [("math/bits.deBruijn32tab", laid_math_bits_deBruijn32tab), ("math/bits.deBruijn64tab", laid_math_bits_deBruijn64tab), ("internal/strconv.uint64pow10", laid_internal_strconv_uint64pow10), ("penstock/params.rows", laid_penstock_params_rows)] }
def NumberRefusesSaid : Prop := numberRefusesRow.holds Tryd.pinned (OpenSpec.ofChange numberRefusesSpec)

/-- ITS FALSE NEIGHBOUR: 'it returns false'. Refute it at one input. -/
def numberRefusesWrong : ChangeSpec := { name := "numberRefuses", fn := fun _ => fun
  | [d1, d2, d3, d4, d5] => { results := [.lit (.bool false)], args := [d1, d2, d3, d4, d5] }
  | _ => none }
def NumberRefusesWrongFalsely : Prop := numberRefusesRow.holds Tryd.pinned (OpenSpec.ofChange numberRefusesWrong)

/-- 'penstocklaw11.NumberChunks': WHATEVER THE INPUT: true; the input reads as it did. -/
def numberChunksSpec : ChangeSpec := { name := "numberChunks", fn := fun _ => fun
  | [d1, d2, d3, d4] => { results := [.lit (.bool true)], args := [d1, d2, d3, d4] }
  | _ => none }
def numberChunksRow : OpenClaim := { program := "ytmdmcmdchjlmiaadoor", sum := "3f68f36ab4fa17e85675aac2a5a35ffcbfb2a1123b42df008fcb23cb7c14241e", func := "penstock/penstocklaw11.NumberChunks", spec := "numberChunks", unfollowed := true, recurses := true, named := ["penstock/params.rows", "internal/strconv.uint64pow10", "math/bits.deBruijn32tab", "math/bits.deBruijn64tab"], apart := false, laid := [("math/bits.deBruijn32tab", laid_math_bits_deBruijn32tab), ("math/bits.deBruijn64tab", laid_math_bits_deBruijn64tab), ("internal/strconv.uint64pow10", laid_internal_strconv_uint64pow10), ("penstock/params.rows", laid_penstock_params_rows)] }
def NumberChunksSaid : Prop := numberChunksRow.holds Tryd.pinned (OpenSpec.ofChange numberChunksSpec)

/-- ITS FALSE NEIGHBOUR: 'it returns false'. Refute it at one input. -/
def numberChunksWrong : ChangeSpec := { name := "numberChunks", fn := fun _ => fun
  | [d1, d2, d3, d4] => { results := [.lit (.bool false)], args := [d1, d2, d3, d4] }
  | _ => none }
def NumberChunksWrongFalsely : Prop := numberChunksRow.holds Tryd.pinned (OpenSpec.ofChange numberChunksWrong)

/-- 'penstocklaw11.NumberGrows': WHATEVER THE INPUT: true; the input reads as it did. -/
def numberGrowsSpec : ChangeSpec := { name := "numberGrows", fn := fun _ => fun
  | [d1, d2, d3, d4, d5] => { results := [.lit (.bool true)], args := [d1, d2, d3, d4, d5] }
  | _ => none }
def numberGrowsRow : OpenClaim := { program := "ytmdmcmdchjlmiaadoor", sum := "3f68f36ab4fa17e85675aac2a5a35ffcbfb2a1123b42df008fcb23cb7c14241e", func := "penstock/penstocklaw11.NumberGrows", spec := "numberGrows", unfollowed := true, recurses := true, named := ["penstock/params.rows", "internal/strconv.uint64pow10", "math/bits.deBruijn32tab", "math/bits.deBruijn64tab"], apart := false, laid := [("math/bits.deBruijn32tab", laid_math_bits_deBruijn32tab), ("math/bits.deBruijn64tab", laid_math_bits_deBruijn64tab), ("internal/strconv.uint64pow10", laid_internal_strconv_uint64pow10), ("penstock/params.rows", laid_penstock_params_rows)] }
def NumberGrowsSaid : Prop := numberGrowsRow.holds Tryd.pinned (OpenSpec.ofChange numberGrowsSpec)

/-- ITS FALSE NEIGHBOUR: 'it returns false'. Refute it at one input. -/
def numberGrowsWrong : ChangeSpec := { name := "numberGrows", fn := fun _ => fun
  | [d1, d2, d3, d4, d5] => { results := [.lit (.bool false)], args := [d1, d2, d3, d4, d5] }
  | _ => none }
def NumberGrowsWrongFalsely : Prop := numberGrowsRow.holds Tryd.pinned (OpenSpec.ofChange numberGrowsWrong)

/-- 'penstocklaw11.NumberRises': WHATEVER THE INPUT: true; the input reads as it did. -/
def numberRisesSpec : ChangeSpec := { name := "numberRises", fn := fun _ => fun
  | [d1, d2, d3] => { results := [.lit (.bool true)], args := [d1, d2, d3] }
  | _ => none }
def numberRisesRow : OpenClaim := { program := "ytmdmcmdchjlmiaadoor", sum := "3f68f36ab4fa17e85675aac2a5a35ffcbfb2a1123b42df008fcb23cb7c14241e", func := "penstock/penstocklaw11.NumberRises", spec := "numberRises", unfollowed := true, recurses := true, named := ["penstock/params.rows", "internal/strconv.uint64pow10", "math/bits.deBruijn32tab", "math/bits.deBruijn64tab"], apart := false, laid := [("math/bits.deBruijn32tab", laid_math_bits_deBruijn32tab), ("math/bits.deBruijn64tab", laid_math_bits_deBruijn64tab), ("internal/strconv.uint64pow10", laid_internal_strconv_uint64pow10), ("penstock/params.rows", laid_penstock_params_rows)] }
def NumberRisesSaid : Prop := numberRisesRow.holds Tryd.pinned (OpenSpec.ofChange numberRisesSpec)

/-- ITS FALSE NEIGHBOUR: 'it returns false'. Refute it at one input. -/
def numberRisesWrong : ChangeSpec := { name := "numberRises", fn := fun _ => fun
  | [d1, d2, d3] => { results := [.lit (.bool false)], args := [d1, d2, d3] }
  | _ => none }
def NumberRisesWrongFalsely : Prop := numberRisesRow.holds Tryd.pinned (OpenSpec.ofChange numberRisesWrong)

/- THE SECOND FORM. 'bulk': how many values and letters a reading holds, each counted each time it is reached (what is shared counts as often as it is met; a slice's spare places count too). A statement '..UptoSaid' is the law's where the arguments, and the package variables that the reading takes, are together of bulk at most 1048576: NARROWER than '..Said'. Prove '..Said' where nothing that the law and all that it calls make is longer than what came in: it says more and counts as full. Else prove '..UptoSaid'. A law counts once. -/
mutual
def uptoBulk {H : Type} : DataW H → Nat
  | .lit (.string bytes) => bytes.length + 1
  | .lit _ => 1
  | .nil => 1
  | .ptr d => uptoBulk d + 1
  | .slice elems spare => uptoBulkAll elems + uptoBulkAll spare + 1
  | .agg parts => uptoBulkAll parts + 1
  | .iface _ d => uptoBulk d + 1
  | .map entries => uptoBulkEntries entries + 1
  | .held _ => 1
def uptoBulkAll {H : Type} : List (DataW H) → Nat
  | [] => 0
  | d :: r => uptoBulk d + uptoBulkAll r
def uptoBulkEntries {H : Type} : List (Lit × DataW H) → Nat
  | [] => 0
  | x :: r => uptoBulkEntry x + uptoBulkEntries r
def uptoBulkEntry {H : Type} : Lit × DataW H → Nat
  | (.string bytes, d) => bytes.length + uptoBulk d + 1
  | (_, d) => uptoBulk d + 1
 end
def uptoSmall : (H : Type) → List (DataW H) → Bool := fun _ ds => decide (uptoBulkAll ds ≤ 1048576)
def OpenSpec.upto (s : _root_.Go.ChangeSpec) : _root_.Go.OpenSpec := { _root_.Go.OpenSpec.ofChange s with cond := some uptoSmall }

/-- 'penstocklaw11.NumberMakes', WHERE WHAT IT READS IS OF BULK AT MOST 1048576: true; the input reads as it did. -/
def numberMakesUptoRow : OpenClaim := { program := "ytmdmcmdchjlmiaadoor", sum := "3f68f36ab4fa17e85675aac2a5a35ffcbfb2a1123b42df008fcb23cb7c14241e", func := "penstock/penstocklaw11.NumberMakes", spec := "numberMakes", unfollowed := true, recurses := true, named := ["penstock/params.rows", "internal/strconv.uint64pow10", "math/bits.deBruijn32tab", "math/bits.deBruijn64tab"], apart := false, laid := [("math/bits.deBruijn32tab", laid_math_bits_deBruijn32tab), ("math/bits.deBruijn64tab", laid_math_bits_deBruijn64tab), ("internal/strconv.uint64pow10", laid_internal_strconv_uint64pow10), ("penstock/params.rows", laid_penstock_params_rows)], narrowed := true }
def NumberMakesUptoSaid : Prop := numberMakesUptoRow.holds Tryd.pinned (OpenSpec.upto numberMakesSpec)

/-- 'penstocklaw11.NumberMeans', WHERE WHAT IT READS IS OF BULK AT MOST 1048576: true; the input reads as it did. -/
def numberMeansUptoRow : OpenClaim := { program := "ytmdmcmdchjlmiaadoor", sum := "3f68f36ab4fa17e85675aac2a5a35ffcbfb2a1123b42df008fcb23cb7c14241e", func := "penstock/penstocklaw11.NumberMeans", spec := "numberMeans", unfollowed := true, recurses := true, named := ["penstock/params.rows", "internal/strconv.uint64pow10", "math/bits.deBruijn32tab", "math/bits.deBruijn64tab"], apart := false, laid := [("math/bits.deBruijn32tab", laid_math_bits_deBruijn32tab), ("math/bits.deBruijn64tab", laid_math_bits_deBruijn64tab), ("internal/strconv.uint64pow10", laid_internal_strconv_uint64pow10), ("penstock/params.rows", laid_penstock_params_rows)], narrowed := true }
def NumberMeansUptoSaid : Prop := numberMeansUptoRow.holds Tryd.pinned (OpenSpec.upto numberMeansSpec)

/-- 'penstocklaw11.NumberHolds', WHERE WHAT IT READS IS OF BULK AT MOST 1048576: true; the input reads as it did. -/
def numberHoldsUptoRow : OpenClaim := { program := "ytmdmcmdchjlmiaadoor", sum := "3f68f36ab4fa17e85675aac2a5a35ffcbfb2a1123b42df008fcb23cb7c14241e", func := "penstock/penstocklaw11.NumberHolds", spec := "numberHolds", unfollowed := true, recurses := true, named := ["penstock/params.rows", "internal/strconv.uint64pow10", "math/bits.deBruijn32tab", "math/bits.deBruijn64tab"], apart := false, laid := [("math/bits.deBruijn32tab", laid_math_bits_deBruijn32tab), ("math/bits.deBruijn64tab", laid_math_bits_deBruijn64tab), ("internal/strconv.uint64pow10", laid_internal_strconv_uint64pow10), ("penstock/params.rows", laid_penstock_params_rows)], narrowed := true }
def NumberHoldsUptoSaid : Prop := numberHoldsUptoRow.holds Tryd.pinned (OpenSpec.upto numberHoldsSpec)

/-- 'penstocklaw11.NumberRefuses', WHERE WHAT IT READS IS OF BULK AT MOST 1048576: true; the input reads as it did. -/
def numberRefusesUptoRow : OpenClaim := { program := "ytmdmcmdchjlmiaadoor", sum := "3f68f36ab4fa17e85675aac2a5a35ffcbfb2a1123b42df008fcb23cb7c14241e", func := "penstock/penstocklaw11.NumberRefuses", spec := "numberRefuses", unfollowed := true, recurses := true, named := ["penstock/params.rows", "internal/strconv.uint64pow10", "math/bits.deBruijn32tab", "math/bits.deBruijn64tab"], apart := false, laid := [("math/bits.deBruijn32tab", laid_math_bits_deBruijn32tab), ("math/bits.deBruijn64tab", laid_math_bits_deBruijn64tab), ("internal/strconv.uint64pow10", laid_internal_strconv_uint64pow10), ("penstock/params.rows", laid_penstock_params_rows)], narrowed := true }
def NumberRefusesUptoSaid : Prop := numberRefusesUptoRow.holds Tryd.pinned (OpenSpec.upto numberRefusesSpec)

/-- 'penstocklaw11.NumberChunks', WHERE WHAT IT READS IS OF BULK AT MOST 1048576: true; the input reads as it did. -/
def numberChunksUptoRow : OpenClaim := { program := "ytmdmcmdchjlmiaadoor", sum := "3f68f36ab4fa17e85675aac2a5a35ffcbfb2a1123b42df008fcb23cb7c14241e", func := "penstock/penstocklaw11.NumberChunks", spec := "numberChunks", unfollowed := true, recurses := true, named := ["penstock/params.rows", "internal/strconv.uint64pow10", "math/bits.deBruijn32tab", "math/bits.deBruijn64tab"], apart := false, laid := [("math/bits.deBruijn32tab", laid_math_bits_deBruijn32tab), ("math/bits.deBruijn64tab", laid_math_bits_deBruijn64tab), ("internal/strconv.uint64pow10", laid_internal_strconv_uint64pow10), ("penstock/params.rows", laid_penstock_params_rows)], narrowed := true }
def NumberChunksUptoSaid : Prop := numberChunksUptoRow.holds Tryd.pinned (OpenSpec.upto numberChunksSpec)

/-- 'penstocklaw11.NumberGrows', WHERE WHAT IT READS IS OF BULK AT MOST 1048576: true; the input reads as it did. -/
def numberGrowsUptoRow : OpenClaim := { program := "ytmdmcmdchjlmiaadoor", sum := "3f68f36ab4fa17e85675aac2a5a35ffcbfb2a1123b42df008fcb23cb7c14241e", func := "penstock/penstocklaw11.NumberGrows", spec := "numberGrows", unfollowed := true, recurses := true, named := ["penstock/params.rows", "internal/strconv.uint64pow10", "math/bits.deBruijn32tab", "math/bits.deBruijn64tab"], apart := false, laid := [("math/bits.deBruijn32tab", laid_math_bits_deBruijn32tab), ("math/bits.deBruijn64tab", laid_math_bits_deBruijn64tab), ("internal/strconv.uint64pow10", laid_internal_strconv_uint64pow10), ("penstock/params.rows", laid_penstock_params_rows)], narrowed := true }
def NumberGrowsUptoSaid : Prop := numberGrowsUptoRow.holds Tryd.pinned (OpenSpec.upto numberGrowsSpec)

/-- 'penstocklaw11.NumberRises', WHERE WHAT IT READS IS OF BULK AT MOST 1048576: true; the input reads as it did. -/
def numberRisesUptoRow : OpenClaim := { program := "ytmdmcmdchjlmiaadoor", sum := "3f68f36ab4fa17e85675aac2a5a35ffcbfb2a1123b42df008fcb23cb7c14241e", func := "penstock/penstocklaw11.NumberRises", spec := "numberRises", unfollowed := true, recurses := true, named := ["penstock/params.rows", "internal/strconv.uint64pow10", "math/bits.deBruijn32tab", "math/bits.deBruijn64tab"], apart := false, laid := [("math/bits.deBruijn32tab", laid_math_bits_deBruijn32tab), ("math/bits.deBruijn64tab", laid_math_bits_deBruijn64tab), ("internal/strconv.uint64pow10", laid_internal_strconv_uint64pow10), ("penstock/params.rows", laid_penstock_params_rows)], narrowed := true }
def NumberRisesUptoSaid : Prop := numberRisesUptoRow.holds Tryd.pinned (OpenSpec.upto numberRisesSpec)

end Rows
end Go.Proofs.YtmdmcmdchjlmiaaDoor
