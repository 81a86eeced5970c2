/-
  NARROWER THAN 'FOR EVERY INPUT', by the rows' own cells (each row's printed sentence says how): FieldsMakes: laid · FieldsMeans: laid · FieldsHolds: laid · FieldsRefuses: laid · FieldsChunks: laid · FieldsGrows: laid · FieldsParts: laid.
  DERIVED. THE GIVEN ROWS OF THIS SEAT. 7 by the template 'for every input the law returns true; each argument reads behind the call as it read before'; 0 by the template 'total and deterministic' (their statements: YtgcnkagieedebaaDoorTotals.lean).
  GIVEN WITH THE SEED: the statements are not yours to turn. If you find one false, say at which input.
  Laid BY PROGRAM, IN A SANDBOX (cutbox-rows.mjs): the forced cells as the released guide's own fill.sh prints them over the translation 7b06c0adb33d4c33… (all of the seat's roots in one cut). By AI agents, Wed Nov 11 2026. No macro, syntax, notation, axiom, sorry.
-/
import Derived.Test.YtgcnkagieedebaaDoorChecked
import GoSem.PinnedTables
import GoSem.Claim
import GoSem.ClaimJoined
import GoSem.ClaimMapViews
import Derived.JoinedTies
import Derived.KernelRfl
namespace Go.Proofs.YtgcnkagieedebaaDoor
/- THE CELL 'sum', in the pinned program and in every row, IS THE sha256 OF THE DUMP (.gsa) THAT YtgcnkagieedebaaDoorProg.lean LOADS. Nothing in Lean hashes anything: it is a label: what it is worth is what the hold of that sum in a sandbox is worth. -/
noncomputable def Tryd.pinned : Pinned := { name := "ytgcnkagieedebaadoor", sum := "7b06c0adb33d4c332086ffdc109035104fac57ce3e7d991d3167afef856420c4", checked := Tryd.checked }
namespace Rows
def none {H : Type} : Left H := { results := [], args := [] }

/- WHAT THE LISTED PACKAGE-LEVEL VARIABLES READ AS WHEN THE CALL BEGINS. Each datum BY PROGRAM (the guide's laid-datum.mjs) off the statement by which the dump's own 'gosem.cut.vars' lays the variable. In a bare row this is a premise. The card (YtgcnkagieedebaaDoorCards.lean) ties it to the program's text. -/
def laid_unicode_utf8_acceptRanges {H : Type} : DataW H := .agg [.agg [.lit (.int .u8 128), .lit (.int .u8 191)], .agg [.lit (.int .u8 160), .lit (.int .u8 191)], .agg [.lit (.int .u8 128), .lit (.int .u8 159)], .agg [.lit (.int .u8 144), .lit (.int .u8 191)], .agg [.lit (.int .u8 128), .lit (.int .u8 143)], .agg [.lit (.int .u8 0), .lit (.int .u8 0)], .agg [.lit (.int .u8 0), .lit (.int .u8 0)], .agg [.lit (.int .u8 0), .lit (.int .u8 0)], .agg [.lit (.int .u8 0), .lit (.int .u8 0)], .agg [.lit (.int .u8 0), .lit (.int .u8 0)], .agg [.lit (.int .u8 0), .lit (.int .u8 0)], .agg [.lit (.int .u8 0), .lit (.int .u8 0)], .agg [.lit (.int .u8 0), .lit (.int .u8 0)], .agg [.lit (.int .u8 0), .lit (.int .u8 0)], .agg [.lit (.int .u8 0), .lit (.int .u8 0)], .agg [.lit (.int .u8 0), .lit (.int .u8 0)]]
def laid_penstock_params_rows {H : Type} : DataW H := .agg [.agg [.lit (.int .i64 0), .lit (.int .i64 0), .lit (.int .i64 0), .lit (.int .i64 0), .lit (.int .i64 0), .lit (.int .i64 0), .lit (.int .i64 0)], .agg [.lit (.int .i64 0), .lit (.int .i64 15), .lit (.int .i64 0), .lit (.int .i64 0), .lit (.int .i64 1), .lit (.int .i64 0), .lit (.int .i64 0)], .agg [.lit (.int .i64 0), .lit (.int .i64 15), .lit (.int .i64 0), .lit (.int .i64 1), .lit (.int .i64 0), .lit (.int .i64 0), .lit (.int .i64 0)], .agg [.lit (.int .i64 0), .lit (.int .i64 1000000000), .lit (.int .i64 0), .lit (.int .i64 1), .lit (.int .i64 1), .lit (.int .i64 64), .lit (.int .i64 0)], .agg [.lit (.int .i64 0), .lit (.int .i64 9223372036854775807), .lit (.int .i64 0), .lit (.int .i64 1), .lit (.int .i64 1), .lit (.int .i64 64), .lit (.int .i64 64)], .agg [.lit (.int .i64 0), .lit (.int .i64 1), .lit (.int .i64 2), .lit (.int .i64 1), .lit (.int .i64 1), .lit (.int .i64 64), .lit (.int .i64 0)], .agg [.lit (.int .i64 0), .lit (.int .i64 0), .lit (.int .i64 3), .lit (.int .i64 1), .lit (.int .i64 1), .lit (.int .i64 0), .lit (.int .i64 0)], .agg [.lit (.int .i64 1), .lit (.int .i64 65535), .lit (.int .i64 1), .lit (.int .i64 1), .lit (.int .i64 1), .lit (.int .i64 64), .lit (.int .i64 0)], .agg [.lit (.int .i64 0), .lit (.int .i64 1), .lit (.int .i64 0), .lit (.int .i64 1), .lit (.int .i64 1), .lit (.int .i64 128), .lit (.int .i64 0)], .agg [.lit (.int .i64 0), .lit (.int .i64 0), .lit (.int .i64 0), .lit (.int .i64 1), .lit (.int .i64 1), .lit (.int .i64 0), .lit (.int .i64 0)], .agg [.lit (.int .i64 0), .lit (.int .i64 1000000000), .lit (.int .i64 0), .lit (.int .i64 1), .lit (.int .i64 1), .lit (.int .i64 64), .lit (.int .i64 0)], .agg [.lit (.int .i64 0), .lit (.int .i64 1), .lit (.int .i64 0), .lit (.int .i64 1), .lit (.int .i64 1), .lit (.int .i64 320), .lit (.int .i64 0)], .agg [.lit (.int .i64 1), .lit (.int .i64 4), .lit (.int .i64 0), .lit (.int .i64 (-1)), .lit (.int .i64 1), .lit (.int .i64 0), .lit (.int .i64 0)], .agg [.lit (.int .i64 1), .lit (.int .i64 4), .lit (.int .i64 1), .lit (.int .i64 (-1)), .lit (.int .i64 1), .lit (.int .i64 0), .lit (.int .i64 96)], .agg [.lit (.int .i64 1), .lit (.int .i64 9223372036854775807), .lit (.int .i64 1), .lit (.int .i64 2), .lit (.int .i64 1), .lit (.int .i64 192), .lit (.int .i64 128)], .agg [.lit (.int .i64 1), .lit (.int .i64 4), .lit (.int .i64 0), .lit (.int .i64 1), .lit (.int .i64 (-1)), .lit (.int .i64 0), .lit (.int .i64 0)], .agg [.lit (.int .i64 1), .lit (.int .i64 4), .lit (.int .i64 0), .lit (.int .i64 1), .lit (.int .i64 (-1)), .lit (.int .i64 64), .lit (.int .i64 0)]]
/-- One of Go's own tables, pinned by name: the form's constant. -/
def laid_unicode_utf8_first : DataW Unit := Go.Pinned.utf8First

/-- 'penstocklaw08.FieldsMakes': WHATEVER THE INPUT: true; the input reads as it did. -/
def fieldsMakesSpec : ChangeSpec := { name := "fieldsMakes", fn := fun _ => fun
  | [d] => { results := [.lit (.bool true)], args := [d] }
  | _ => none }
def fieldsMakesRow : OpenClaim := { program := "ytgcnkagieedebaadoor", sum := "7b06c0adb33d4c332086ffdc109035104fac57ce3e7d991d3167afef856420c4", func := "penstock/penstocklaw08.FieldsMakes", spec := "fieldsMakes", inPlace := ["internal/bytealg.IndexByteString", "internal/bytealg.IndexString", "internal/bytealg.CountString", "internal/abi.NoEscape", "internal/bytealg.MakeNoZero"], unfollowed := true, recurses := true, named := ["penstock/params.rows", "internal/bytealg.MaxLen", "unicode/utf8.first", "unicode/utf8.acceptRanges"], apart := false, laid := [("unicode/utf8.acceptRanges", laid_unicode_utf8_acceptRanges), ("penstock/params.rows", laid_penstock_params_rows), ("unicode/utf8.first", laid_unicode_utf8_first)] }
def FieldsMakesSaid : Prop := fieldsMakesRow.holds Tryd.pinned (OpenSpec.ofChange fieldsMakesSpec)

/-- ITS FALSE NEIGHBOUR: 'it returns false'. Refute it at one input. -/
def fieldsMakesWrong : ChangeSpec := { name := "fieldsMakes", fn := fun _ => fun
  | [d] => { results := [.lit (.bool false)], args := [d] }
  | _ => none }
def FieldsMakesWrongFalsely : Prop := fieldsMakesRow.holds Tryd.pinned (OpenSpec.ofChange fieldsMakesWrong)

/-- 'penstocklaw08.FieldsMeans': WHATEVER THE INPUT: true; the input reads as it did. -/
def fieldsMeansSpec : ChangeSpec := { name := "fieldsMeans", fn := fun _ => fun
  | [d1, d2, d3] => { results := [.lit (.bool true)], args := [d1, d2, d3] }
  | _ => none }
def fieldsMeansRow : OpenClaim := { program := "ytgcnkagieedebaadoor", sum := "7b06c0adb33d4c332086ffdc109035104fac57ce3e7d991d3167afef856420c4", func := "penstock/penstocklaw08.FieldsMeans", spec := "fieldsMeans", inPlace := ["internal/bytealg.IndexByteString", "internal/bytealg.IndexString", "internal/bytealg.CountString", "internal/abi.NoEscape", "internal/bytealg.MakeNoZero"], unfollowed := true, recurses := true, named := ["penstock/params.rows", "internal/bytealg.MaxLen", "unicode/utf8.first", "unicode/utf8.acceptRanges"], apart := false, laid := [("unicode/utf8.acceptRanges", laid_unicode_utf8_acceptRanges), ("penstock/params.rows", laid_penstock_params_rows), ("unicode/utf8.first", laid_unicode_utf8_first)] }
def FieldsMeansSaid : Prop := fieldsMeansRow.holds Tryd.pinned (OpenSpec.ofChange fieldsMeansSpec)

/-- ITS FALSE NEIGHBOUR: 'it returns false'. Refute it at one input. -/
def fieldsMeansWrong : ChangeSpec := { name := "fieldsMeans", fn := fun _ => fun
  | [d1, d2, d3] => { results := [.lit (.bool false)], args := [d1, d2, d3] }
  | _ => none }
def FieldsMeansWrongFalsely : Prop := fieldsMeansRow.holds Tryd.pinned (OpenSpec.ofChange fieldsMeansWrong)

/-- 'penstocklaw08.FieldsHolds': WHATEVER THE INPUT: true; the input reads as it did. -/
def fieldsHoldsSpec : ChangeSpec := { name := "fieldsHolds", fn := fun _ => fun
  | [d1, d2, d3] => { results := [.lit (.bool true)], args := [d1, d2, d3] }
  | _ => none }
def fieldsHoldsRow : OpenClaim := { program := "ytgcnkagieedebaadoor", sum := "7b06c0adb33d4c332086ffdc109035104fac57ce3e7d991d3167afef856420c4", func := "penstock/penstocklaw08.FieldsHolds", spec := "fieldsHolds", inPlace := ["internal/bytealg.IndexByteString", "internal/bytealg.IndexString", "internal/bytealg.CountString", "internal/abi.NoEscape", "internal/bytealg.MakeNoZero"], unfollowed := true, recurses := true, named := ["penstock/params.rows", "internal/bytealg.MaxLen", "unicode/utf8.first", "unicode/utf8.acceptRanges"], apart := false, laid := [("unicode/utf8.acceptRanges", laid_unicode_utf8_acceptRanges), ("penstock/params.rows", laid_penstock_params_rows), ("unicode/utf8.first", laid_unicode_utf8_first)] }
def FieldsHoldsSaid : Prop := fieldsHoldsRow.holds Tryd.pinned (OpenSpec.ofChange fieldsHoldsSpec)

/-- ITS FALSE NEIGHBOUR: 'it returns false'. Refute it at one input. -/
def fieldsHoldsWrong : ChangeSpec := { name := "fieldsHolds", fn := fun _ => fun
  | [d1, d2, d3] => { results := [.lit (.bool false)], args := [d1, d2, d3] }
  | _ => none }
def FieldsHoldsWrongFalsely : Prop := fieldsHoldsRow.holds Tryd.pinned (OpenSpec.ofChange fieldsHoldsWrong)

/-- 'penstocklaw08.FieldsRefuses': WHATEVER THE INPUT: true; the input reads as it did. -/
def fieldsRefusesSpec : ChangeSpec := { name := "fieldsRefuses", fn := fun _ => fun
  | [d1, d2, d3, d4, d5] => { results := [.lit (.bool true)], args := [d1, d2, d3, d4, d5] }
  | _ => none }
def fieldsRefusesRow : OpenClaim := { program := "ytgcnkagieedebaadoor", sum := "7b06c0adb33d4c332086ffdc109035104fac57ce3e7d991d3167afef856420c4", func := "penstock/penstocklaw08.FieldsRefuses", spec := "fieldsRefuses", inPlace := ["internal/bytealg.IndexByteString", "internal/bytealg.IndexString", "internal/bytealg.CountString", "internal/abi.NoEscape", "internal/bytealg.MakeNoZero"], unfollowed := true, recurses := true, named := ["penstock/params.rows", "internal/bytealg.MaxLen", "unicode/utf8.first", "unicode/utf8.acceptRanges"], apart := false, laid := [("unicode/utf8.acceptRanges", laid_unicode_utf8_acceptRanges), ("penstock/params.rows", laid_penstock_params_rows), ("unicode/utf8.first", laid_unicode_utf8_first)] }
def FieldsRefusesSaid : Prop := fieldsRefusesRow.holds Tryd.pinned (OpenSpec.ofChange fieldsRefusesSpec)

/-- ITS FALSE NEIGHBOUR: 'it returns false'. Refute it at one input. -/
def fieldsRefusesWrong : ChangeSpec := { name := "fieldsRefuses", fn := fun _ => fun
  | [d1, d2, d3, d4, d5] => { results := [.lit (.bool false)], args := [d1, d2, d3, d4, d5] }
  | _ => none }
def FieldsRefusesWrongFalsely : Prop := fieldsRefusesRow.holds Tryd.pinned (OpenSpec.ofChange fieldsRefusesWrong)

/-- 'penstocklaw08.FieldsChunks': WHATEVER THE INPUT: true; the input reads as it did. -/
def fieldsChunksSpec : ChangeSpec := { name := "fieldsChunks", fn := fun _ => fun
  | [d1, d2, d3, d4] => { results := [.lit (.bool true)], args := [d1, d2, d3, d4] }
  | _ => none }
def fieldsChunksRow : OpenClaim := { program := "ytgcnkagieedebaadoor", sum := "7b06c0adb33d4c332086ffdc109035104fac57ce3e7d991d3167afef856420c4", func := "penstock/penstocklaw08.FieldsChunks", spec := "fieldsChunks", inPlace := ["internal/bytealg.IndexByteString", "internal/bytealg.IndexString", "internal/bytealg.CountString", "internal/abi.NoEscape", "internal/bytealg.MakeNoZero"], unfollowed := true, recurses := true, named := ["penstock/params.rows", "internal/bytealg.MaxLen", "unicode/utf8.first", "unicode/utf8.acceptRanges"], apart := false, laid := [("unicode/utf8.acceptRanges", laid_unicode_utf8_acceptRanges), ("penstock/params.rows", laid_penstock_params_rows), ("unicode/utf8.first", laid_unicode_utf8_first)] }
def FieldsChunksSaid : Prop := fieldsChunksRow.holds Tryd.pinned (OpenSpec.ofChange fieldsChunksSpec)

/-- ITS FALSE NEIGHBOUR: 'it returns false'. Refute it at one input. -/
def fieldsChunksWrong : ChangeSpec := { name := "fieldsChunks", fn := fun _ => fun
  | [d1, d2, d3, d4] => { results := [.lit (.bool false)], args := [d1, d2, d3, d4] }
  | _ => none }
def FieldsChunksWrongFalsely : Prop := fieldsChunksRow.holds Tryd.pinned (OpenSpec.ofChange fieldsChunksWrong)

/-- 'penstocklaw08.FieldsGrows': WHATEVER THE INPUT: true; the input reads as it did. -/
def fieldsGrowsSpec : ChangeSpec := { name := "fieldsGrows", fn := fun _ => fun
  | [d1, d2, d3, d4, d5] => { results := [.lit (.bool true)], args := [d1, d2, d3, d4, d5] }
  | _ => none }
def fieldsGrowsRow : OpenClaim := { program := "ytgcnkagieedebaadoor", sum := "7b06c0adb33d4c332086ffdc109035104fac57ce3e7d991d3167afef856420c4", func := "penstock/penstocklaw08.FieldsGrows", spec := "fieldsGrows", inPlace := ["internal/bytealg.IndexByteString", "internal/bytealg.IndexString", "internal/bytealg.CountString", "internal/abi.NoEscape", "internal/bytealg.MakeNoZero"], unfollowed := true, recurses := true, named := ["penstock/params.rows", "internal/bytealg.MaxLen", "unicode/utf8.first", "unicode/utf8.acceptRanges"], apart := false, laid := [("unicode/utf8.acceptRanges", laid_unicode_utf8_acceptRanges), ("penstock/params.rows", laid_penstock_params_rows), ("unicode/utf8.first", laid_unicode_utf8_first)] }
def FieldsGrowsSaid : Prop := fieldsGrowsRow.holds Tryd.pinned (OpenSpec.ofChange fieldsGrowsSpec)

/-- ITS FALSE NEIGHBOUR: 'it returns false'. Refute it at one input. -/
def fieldsGrowsWrong : ChangeSpec := { name := "fieldsGrows", fn := fun _ => fun
  | [d1, d2, d3, d4, d5] => { results := [.lit (.bool false)], args := [d1, d2, d3, d4, d5] }
  | _ => none }
def FieldsGrowsWrongFalsely : Prop := fieldsGrowsRow.holds Tryd.pinned (OpenSpec.ofChange fieldsGrowsWrong)

/-- 'penstocklaw08.FieldsParts': WHATEVER THE INPUT: true; the input reads as it did. -/
def fieldsPartsSpec : ChangeSpec := { name := "fieldsParts", fn := fun _ => fun
  | [d1, d2, d3] => { results := [.lit (.bool true)], args := [d1, d2, d3] }
  | _ => none }
def fieldsPartsRow : OpenClaim := { program := "ytgcnkagieedebaadoor", sum := "7b06c0adb33d4c332086ffdc109035104fac57ce3e7d991d3167afef856420c4", func := "penstock/penstocklaw08.FieldsParts", spec := "fieldsParts", inPlace := ["internal/bytealg.IndexByteString", "internal/bytealg.IndexString", "internal/bytealg.CountString", "internal/abi.NoEscape", "internal/bytealg.MakeNoZero"], unfollowed := true, recurses := true, named := ["penstock/params.rows", "internal/bytealg.MaxLen", "unicode/utf8.first", "unicode/utf8.acceptRanges"], apart := false, laid := [("unicode/utf8.acceptRanges", laid_unicode_utf8_acceptRanges), ("penstock/params.rows", laid_penstock_params_rows), ("unicode/utf8.first", laid_unicode_utf8_first)] }
def FieldsPartsSaid : Prop := fieldsPartsRow.holds Tryd.pinned (OpenSpec.ofChange fieldsPartsSpec)

/-- ITS FALSE NEIGHBOUR: 'it returns false'. Refute it at one input. -/
def fieldsPartsWrong : ChangeSpec := { name := "fieldsParts", fn := fun _ => fun
  | [d1, d2, d3] => { results := [.lit (.bool false)], args := [d1, d2, d3] }
  | _ => none }
def FieldsPartsWrongFalsely : Prop := fieldsPartsRow.holds Tryd.pinned (OpenSpec.ofChange fieldsPartsWrong)

/- THE SECOND FORM. 'bulk': how many values and letters a reading holds, each counted each time it is reached (what is shared counts as often as it is met; a slice's spare places count too). A statement '..UptoSaid' is the law's where the arguments, and the package variables that the reading takes, are together of bulk at most 1048576: NARROWER than '..Said'. Prove '..Said' where nothing that the law and all that it calls make is longer than what came in: it says more and counts as full. Else prove '..UptoSaid'. A law counts once. -/
mutual
def uptoBulk {H : Type} : DataW H → Nat
  | .lit (.string bytes) => bytes.length + 1
  | .lit _ => 1
  | .nil => 1
  | .ptr d => uptoBulk d + 1
  | .slice elems spare => uptoBulkAll elems + uptoBulkAll spare + 1
  | .agg parts => uptoBulkAll parts + 1
  | .iface _ d => uptoBulk d + 1
  | .map entries => uptoBulkEntries entries + 1
  | .held _ => 1
def uptoBulkAll {H : Type} : List (DataW H) → Nat
  | [] => 0
  | d :: r => uptoBulk d + uptoBulkAll r
def uptoBulkEntries {H : Type} : List (Lit × DataW H) → Nat
  | [] => 0
  | x :: r => uptoBulkEntry x + uptoBulkEntries r
def uptoBulkEntry {H : Type} : Lit × DataW H → Nat
  | (.string bytes, d) => bytes.length + uptoBulk d + 1
  | (_, d) => uptoBulk d + 1
 end
def uptoSmall : (H : Type) → List (DataW H) → Bool := fun _ ds => decide (uptoBulkAll ds ≤ 1048576)
def OpenSpec.upto (s : _root_.Go.ChangeSpec) : _root_.Go.OpenSpec := { _root_.Go.OpenSpec.ofChange s with cond := some uptoSmall }

/-- 'penstocklaw08.FieldsMakes', WHERE WHAT IT READS IS OF BULK AT MOST 1048576: true; the input reads as it did. -/
def fieldsMakesUptoRow : OpenClaim := { program := "ytgcnkagieedebaadoor", sum := "7b06c0adb33d4c332086ffdc109035104fac57ce3e7d991d3167afef856420c4", func := "penstock/penstocklaw08.FieldsMakes", spec := "fieldsMakes", inPlace := ["internal/bytealg.IndexByteString", "internal/bytealg.IndexString", "internal/bytealg.CountString", "internal/abi.NoEscape", "internal/bytealg.MakeNoZero"], unfollowed := true, recurses := true, named := ["penstock/params.rows", "internal/bytealg.MaxLen", "unicode/utf8.first", "unicode/utf8.acceptRanges"], apart := false, laid := [("unicode/utf8.acceptRanges", laid_unicode_utf8_acceptRanges), ("penstock/params.rows", laid_penstock_params_rows), ("unicode/utf8.first", laid_unicode_utf8_first)], narrowed := true }
def FieldsMakesUptoSaid : Prop := fieldsMakesUptoRow.holds Tryd.pinned (OpenSpec.upto fieldsMakesSpec)

/-- 'penstocklaw08.FieldsMeans', WHERE WHAT IT READS IS OF BULK AT MOST 1048576: true; the input reads as it did. -/
def fieldsMeansUptoRow : OpenClaim := { program := "ytgcnkagieedebaadoor", sum := "7b06c0adb33d4c332086ffdc109035104fac57ce3e7d991d3167afef856420c4", func := "penstock/penstocklaw08.FieldsMeans", spec := "fieldsMeans", inPlace := ["internal/bytealg.IndexByteString", "internal/bytealg.IndexString", "internal/bytealg.CountString", "internal/abi.NoEscape", "internal/bytealg.MakeNoZero"], unfollowed := true, recurses := true, named := ["penstock/params.rows", "internal/bytealg.MaxLen", "unicode/utf8.first", "unicode/utf8.acceptRanges"], apart := false, laid := [("unicode/utf8.acceptRanges", laid_unicode_utf8_acceptRanges), ("penstock/params.rows", laid_penstock_params_rows), ("unicode/utf8.first", laid_unicode_utf8_first)], narrowed := true }
def FieldsMeansUptoSaid : Prop := fieldsMeansUptoRow.holds Tryd.pinned (OpenSpec.upto fieldsMeansSpec)

/-- 'penstocklaw08.FieldsHolds', WHERE WHAT IT READS IS OF BULK AT MOST 1048576: true; the input reads as it did. -/
def fieldsHoldsUptoRow : OpenClaim := { program := "ytgcnkagieedebaadoor", sum := "7b06c0adb33d4c332086ffdc109035104fac57ce3e7d991d3167afef856420c4", func := "penstock/penstocklaw08.FieldsHolds", spec := "fieldsHolds", inPlace := ["internal/bytealg.IndexByteString", "internal/bytealg.IndexString", "internal/bytealg.CountString", "internal/abi.NoEscape", "internal/bytealg.MakeNoZero"], unfollowed := true, recurses := true, named := ["penstock/params.rows", "internal/bytealg.MaxLen", "unicode/utf8.first", "unicode/utf8.acceptRanges"], apart := false, laid := [("unicode/utf8.acceptRanges", laid_unicode_utf8_acceptRanges), ("penstock/params.rows", laid_penstock_params_rows), ("unicode/utf8.first", laid_unicode_utf8_first)], narrowed := true }
def FieldsHoldsUptoSaid : Prop := fieldsHoldsUptoRow.holds Tryd.pinned (OpenSpec.upto fieldsHoldsSpec)

/-- 'penstocklaw08.FieldsRefuses', WHERE WHAT IT READS IS OF BULK AT MOST 1048576: true; the input reads as it did. -/
def fieldsRefusesUptoRow : OpenClaim := { program := "ytgcnkagieedebaadoor", sum := "7b06c0adb33d4c332086ffdc109035104fac57ce3e7d991d3167afef856420c4", func := "penstock/penstocklaw08.FieldsRefuses", spec := "fieldsRefuses", inPlace := ["internal/bytealg.IndexByteString", "internal/bytealg.IndexString", "internal/bytealg.CountString", "internal/abi.NoEscape", "internal/bytealg.MakeNoZero"], unfollowed := true, recurses := true, named := ["penstock/params.rows", "internal/bytealg.MaxLen", "unicode/utf8.first", "unicode/utf8.acceptRanges"], apart := false, laid := [("unicode/utf8.acceptRanges", laid_unicode_utf8_acceptRanges), ("penstock/params.rows", laid_penstock_params_rows), ("unicode/utf8.first", laid_unicode_utf8_first)], narrowed := true }
def FieldsRefusesUptoSaid : Prop := fieldsRefusesUptoRow.holds Tryd.pinned (OpenSpec.upto fieldsRefusesSpec)

/-- 'penstocklaw08.FieldsChunks', WHERE WHAT IT READS IS OF BULK AT MOST 1048576: true; the input reads as it did. -/
def fieldsChunksUptoRow : OpenClaim := { program := "ytgcnkagieedebaadoor", sum := "7b06c0adb33d4c332086ffdc109035104fac57ce3e7d991d3167afef856420c4", func := "penstock/penstocklaw08.FieldsChunks", spec := "fieldsChunks", inPlace := ["internal/bytealg.IndexByteString", "internal/bytealg.IndexString", "internal/bytealg.CountString", "internal/abi.NoEscape", "internal/bytealg.MakeNoZero"], unfollowed := true, recurses := true, named := ["penstock/params.rows", "internal/bytealg.MaxLen", "unicode/utf8.first", "unicode/utf8.acceptRanges"], apart := false, laid := [("unicode/utf8.acceptRanges", laid_unicode_utf8_acceptRanges), ("penstock/params.rows", laid_penstock_params_rows), ("unicode/utf8.first", laid_unicode_utf8_first)], narrowed := true }
def FieldsChunksUptoSaid : Prop := fieldsChunksUptoRow.holds Tryd.pinned (OpenSpec.upto fieldsChunksSpec)

/-- 'penstocklaw08.FieldsGrows', WHERE WHAT IT READS IS OF BULK AT MOST 1048576: true; the input reads as it did. -/
def fieldsGrowsUptoRow : OpenClaim := { program := "ytgcnkagieedebaadoor", sum := "7b06c0adb33d4c332086ffdc109035104fac57ce3e7d991d3167afef856420c4", func := "penstock/penstocklaw08.FieldsGrows", spec := "fieldsGrows", inPlace := ["internal/bytealg.IndexByteString", "internal/bytealg.IndexString", "internal/bytealg.CountString", "internal/abi.NoEscape", "internal/bytealg.MakeNoZero"], unfollowed := true, recurses := true, named := ["penstock/params.rows", "internal/bytealg.MaxLen", "unicode/utf8.first", "unicode/utf8.acceptRanges"], apart := false, laid := [("unicode/utf8.acceptRanges", laid_unicode_utf8_acceptRanges), ("penstock/params.rows", laid_penstock_params_rows), ("unicode/utf8.first", laid_unicode_utf8_first)], narrowed := true }
def FieldsGrowsUptoSaid : Prop := fieldsGrowsUptoRow.holds Tryd.pinned (OpenSpec.upto fieldsGrowsSpec)

/-- 'penstocklaw08.FieldsParts', WHERE WHAT IT READS IS OF BULK AT MOST 1048576: true; the input reads as it did. -/
def fieldsPartsUptoRow : OpenClaim := { program := "ytgcnkagieedebaadoor", sum := "7b06c0adb33d4c332086ffdc109035104fac57ce3e7d991d3167afef856420c4", func := "penstock/penstocklaw08.FieldsParts", spec := "fieldsParts", inPlace := ["internal/bytealg.IndexByteString", "internal/bytealg.IndexString", "internal/bytealg.CountString", "internal/abi.NoEscape", "internal/bytealg.MakeNoZero"], unfollowed := true, recurses := true, named := ["penstock/params.rows", "internal/bytealg.MaxLen", "unicode/utf8.first", "unicode/utf8.acceptRanges"], apart := false, laid := [("unicode/utf8.acceptRanges", laid_unicode_utf8_acceptRanges), ("penstock/params.rows", laid_penstock_params_rows), ("unicode/utf8.first", laid_unicode_utf8_first)], narrowed := true }
def FieldsPartsUptoSaid : Prop := fieldsPartsUptoRow.holds Tryd.pinned (OpenSpec.upto fieldsPartsSpec)

end Rows
end Go.Proofs.YtgcnkagieedebaaDoor
