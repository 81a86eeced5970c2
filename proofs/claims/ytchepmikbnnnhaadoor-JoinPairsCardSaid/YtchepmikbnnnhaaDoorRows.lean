/-
  NARROWER THAN 'FOR EVERY INPUT', by the rows' own cells (each row's printed sentence says how): JoinMakes: laid · JoinMeans: laid · JoinHolds: laid · JoinRefuses: laid · JoinChunks: laid · JoinGrows: laid · JoinPairs: laid.
  DERIVED. THE GIVEN ROWS OF THIS SEAT. 7 by the template 'for every input the law returns true; each argument reads behind the call as it read before'; 0 by the template 'total and deterministic' (their statements: YtchepmikbnnnhaaDoorTotals.lean).
  GIVEN WITH THE SEED: the statements are not yours to turn. If you find one false, say at which input.
  Laid BY PROGRAM, IN A SANDBOX (cutbox-rows.mjs): the forced cells as the released guide's own fill.sh prints them over the translation 27922962876f8734… (all of the seat's roots in one cut). By AI agents, Wed Nov 11 2026. No macro, syntax, notation, axiom, sorry.
-/
import Derived.Test.YtchepmikbnnnhaaDoorChecked
import GoSem.Claim
import GoSem.ClaimJoined
import GoSem.ClaimMapViews
import Derived.JoinedTies
import Derived.KernelRfl
namespace Go.Proofs.YtchepmikbnnnhaaDoor
/- THE CELL 'sum', in the pinned program and in every row, IS THE sha256 OF THE DUMP (.gsa) THAT YtchepmikbnnnhaaDoorProg.lean LOADS. Nothing in Lean hashes anything: it is a label: what it is worth is what the hold of that sum in a sandbox is worth. -/
noncomputable def Tryd.pinned : Pinned := { name := "ytchepmikbnnnhaadoor", sum := "27922962876f87340480d5abff0ad89e9ce097e23232e50e59d7ef7dec2b97fc", checked := Tryd.checked }
namespace Rows
def none {H : Type} : Left H := { results := [], args := [] }

/- WHAT THE LISTED PACKAGE-LEVEL VARIABLES READ AS WHEN THE CALL BEGINS. Each datum BY PROGRAM (the guide's laid-datum.mjs) off the statement by which the dump's own 'gosem.cut.vars' lays the variable. In a bare row this is a premise. The card (YtchepmikbnnnhaaDoorCards.lean) ties it to the program's text. -/
def laid_penstock_params_rows {H : Type} : DataW H := .agg [.agg [.lit (.int .i64 0), .lit (.int .i64 0), .lit (.int .i64 0), .lit (.int .i64 0), .lit (.int .i64 0), .lit (.int .i64 0), .lit (.int .i64 0)], .agg [.lit (.int .i64 0), .lit (.int .i64 15), .lit (.int .i64 0), .lit (.int .i64 0), .lit (.int .i64 1), .lit (.int .i64 0), .lit (.int .i64 0)], .agg [.lit (.int .i64 0), .lit (.int .i64 15), .lit (.int .i64 0), .lit (.int .i64 1), .lit (.int .i64 0), .lit (.int .i64 0), .lit (.int .i64 0)], .agg [.lit (.int .i64 0), .lit (.int .i64 1000000000), .lit (.int .i64 0), .lit (.int .i64 1), .lit (.int .i64 1), .lit (.int .i64 64), .lit (.int .i64 0)], .agg [.lit (.int .i64 0), .lit (.int .i64 9223372036854775807), .lit (.int .i64 0), .lit (.int .i64 1), .lit (.int .i64 1), .lit (.int .i64 64), .lit (.int .i64 64)], .agg [.lit (.int .i64 0), .lit (.int .i64 1), .lit (.int .i64 2), .lit (.int .i64 1), .lit (.int .i64 1), .lit (.int .i64 64), .lit (.int .i64 0)], .agg [.lit (.int .i64 0), .lit (.int .i64 0), .lit (.int .i64 3), .lit (.int .i64 1), .lit (.int .i64 1), .lit (.int .i64 0), .lit (.int .i64 0)], .agg [.lit (.int .i64 1), .lit (.int .i64 65535), .lit (.int .i64 1), .lit (.int .i64 1), .lit (.int .i64 1), .lit (.int .i64 64), .lit (.int .i64 0)], .agg [.lit (.int .i64 0), .lit (.int .i64 1), .lit (.int .i64 0), .lit (.int .i64 1), .lit (.int .i64 1), .lit (.int .i64 128), .lit (.int .i64 0)], .agg [.lit (.int .i64 0), .lit (.int .i64 0), .lit (.int .i64 0), .lit (.int .i64 1), .lit (.int .i64 1), .lit (.int .i64 0), .lit (.int .i64 0)], .agg [.lit (.int .i64 0), .lit (.int .i64 1000000000), .lit (.int .i64 0), .lit (.int .i64 1), .lit (.int .i64 1), .lit (.int .i64 64), .lit (.int .i64 0)], .agg [.lit (.int .i64 0), .lit (.int .i64 1), .lit (.int .i64 0), .lit (.int .i64 1), .lit (.int .i64 1), .lit (.int .i64 320), .lit (.int .i64 0)], .agg [.lit (.int .i64 1), .lit (.int .i64 4), .lit (.int .i64 0), .lit (.int .i64 (-1)), .lit (.int .i64 1), .lit (.int .i64 0), .lit (.int .i64 0)], .agg [.lit (.int .i64 1), .lit (.int .i64 4), .lit (.int .i64 1), .lit (.int .i64 (-1)), .lit (.int .i64 1), .lit (.int .i64 0), .lit (.int .i64 96)], .agg [.lit (.int .i64 1), .lit (.int .i64 9223372036854775807), .lit (.int .i64 1), .lit (.int .i64 2), .lit (.int .i64 1), .lit (.int .i64 192), .lit (.int .i64 128)], .agg [.lit (.int .i64 1), .lit (.int .i64 4), .lit (.int .i64 0), .lit (.int .i64 1), .lit (.int .i64 (-1)), .lit (.int .i64 0), .lit (.int .i64 0)], .agg [.lit (.int .i64 1), .lit (.int .i64 4), .lit (.int .i64 0), .lit (.int .i64 1), .lit (.int .i64 (-1)), .lit (.int .i64 64), .lit (.int .i64 0)]]

/-- 'penstocklaw14.JoinMakes': WHATEVER THE INPUT: true; the input reads as it did. -/
def joinMakesSpec : ChangeSpec := { name := "joinMakes", fn := fun _ => fun
  | [d] => { results := [.lit (.bool true)], args := [d] }
  | _ => none }
def joinMakesRow : OpenClaim := { program := "ytchepmikbnnnhaadoor", sum := "27922962876f87340480d5abff0ad89e9ce097e23232e50e59d7ef7dec2b97fc", func := "penstock/penstocklaw14.JoinMakes", spec := "joinMakes", inPlace := ["internal/bytealg.IndexByteString", "internal/bytealg.IndexString", "internal/abi.NoEscape", "internal/bytealg.MakeNoZero"], unfollowed := true, recurses := true, named := ["penstock/params.rows", "internal/bytealg.MaxLen"], apart := false, laid := [("penstock/params.rows", laid_penstock_params_rows)] }
def JoinMakesSaid : Prop := joinMakesRow.holds Tryd.pinned (OpenSpec.ofChange joinMakesSpec)

/-- ITS FALSE NEIGHBOUR: 'it returns false'. Refute it at one input. -/
def joinMakesWrong : ChangeSpec := { name := "joinMakes", fn := fun _ => fun
  | [d] => { results := [.lit (.bool false)], args := [d] }
  | _ => none }
def JoinMakesWrongFalsely : Prop := joinMakesRow.holds Tryd.pinned (OpenSpec.ofChange joinMakesWrong)

/-- 'penstocklaw14.JoinMeans': WHATEVER THE INPUT: true; the input reads as it did. -/
def joinMeansSpec : ChangeSpec := { name := "joinMeans", fn := fun _ => fun
  | [d1, d2, d3] => { results := [.lit (.bool true)], args := [d1, d2, d3] }
  | _ => none }
def joinMeansRow : OpenClaim := { program := "ytchepmikbnnnhaadoor", sum := "27922962876f87340480d5abff0ad89e9ce097e23232e50e59d7ef7dec2b97fc", func := "penstock/penstocklaw14.JoinMeans", spec := "joinMeans", inPlace := ["internal/bytealg.IndexByteString", "internal/bytealg.IndexString", "internal/abi.NoEscape", "internal/bytealg.MakeNoZero"], unfollowed := true, recurses := true, named := ["penstock/params.rows", "internal/bytealg.MaxLen"], apart := false, laid := [("penstock/params.rows", laid_penstock_params_rows)] }
def JoinMeansSaid : Prop := joinMeansRow.holds Tryd.pinned (OpenSpec.ofChange joinMeansSpec)

/-- ITS FALSE NEIGHBOUR: 'it returns false'. Refute it at one input. -/
def joinMeansWrong : ChangeSpec := { name := "joinMeans", fn := fun _ => fun
  | [d1, d2, d3] => { results := [.lit (.bool false)], args := [d1, d2, d3] }
  | _ => none }
def JoinMeansWrongFalsely : Prop := joinMeansRow.holds Tryd.pinned (OpenSpec.ofChange joinMeansWrong)

/-- 'penstocklaw14.JoinHolds': WHATEVER THE INPUT: true; the input reads as it did. -/
def joinHoldsSpec : ChangeSpec := { name := "joinHolds", fn := fun _ => fun
  | [d1, d2, d3] => { results := [.lit (.bool true)], args := [d1, d2, d3] }
  | _ => none }
def joinHoldsRow : OpenClaim := { program := "ytchepmikbnnnhaadoor", sum := "27922962876f87340480d5abff0ad89e9ce097e23232e50e59d7ef7dec2b97fc", func := "penstock/penstocklaw14.JoinHolds", spec := "joinHolds", inPlace := ["internal/bytealg.IndexByteString", "internal/bytealg.IndexString", "internal/abi.NoEscape", "internal/bytealg.MakeNoZero"], unfollowed := true, recurses := true, named := ["penstock/params.rows", "internal/bytealg.MaxLen"], apart := false, laid := [("penstock/params.rows", laid_penstock_params_rows)] }
def JoinHoldsSaid : Prop := joinHoldsRow.holds Tryd.pinned (OpenSpec.ofChange joinHoldsSpec)

/-- ITS FALSE NEIGHBOUR: 'it returns false'. Refute it at one input. -/
def joinHoldsWrong : ChangeSpec := { name := "joinHolds", fn := fun _ => fun
  | [d1, d2, d3] => { results := [.lit (.bool false)], args := [d1, d2, d3] }
  | _ => none }
def JoinHoldsWrongFalsely : Prop := joinHoldsRow.holds Tryd.pinned (OpenSpec.ofChange joinHoldsWrong)

/-- 'penstocklaw14.JoinRefuses': WHATEVER THE INPUT: true; the input reads as it did. -/
def joinRefusesSpec : ChangeSpec := { name := "joinRefuses", fn := fun _ => fun
  | [d1, d2, d3, d4, d5] => { results := [.lit (.bool true)], args := [d1, d2, d3, d4, d5] }
  | _ => none }
def joinRefusesRow : OpenClaim := { program := "ytchepmikbnnnhaadoor", sum := "27922962876f87340480d5abff0ad89e9ce097e23232e50e59d7ef7dec2b97fc", func := "penstock/penstocklaw14.JoinRefuses", spec := "joinRefuses", inPlace := ["internal/bytealg.IndexByteString", "internal/bytealg.IndexString", "internal/abi.NoEscape", "internal/bytealg.MakeNoZero"], unfollowed := true, recurses := true, named := ["penstock/params.rows", "internal/bytealg.MaxLen"], apart := false, laid := [("penstock/params.rows", laid_penstock_params_rows)] }
def JoinRefusesSaid : Prop := joinRefusesRow.holds Tryd.pinned (OpenSpec.ofChange joinRefusesSpec)

/-- ITS FALSE NEIGHBOUR: 'it returns false'. Refute it at one input. -/
def joinRefusesWrong : ChangeSpec := { name := "joinRefuses", fn := fun _ => fun
  | [d1, d2, d3, d4, d5] => { results := [.lit (.bool false)], args := [d1, d2, d3, d4, d5] }
  | _ => none }
def JoinRefusesWrongFalsely : Prop := joinRefusesRow.holds Tryd.pinned (OpenSpec.ofChange joinRefusesWrong)

/-- 'penstocklaw14.JoinChunks': WHATEVER THE INPUT: true; the input reads as it did. -/
def joinChunksSpec : ChangeSpec := { name := "joinChunks", fn := fun _ => fun
  | [d1, d2, d3, d4] => { results := [.lit (.bool true)], args := [d1, d2, d3, d4] }
  | _ => none }
def joinChunksRow : OpenClaim := { program := "ytchepmikbnnnhaadoor", sum := "27922962876f87340480d5abff0ad89e9ce097e23232e50e59d7ef7dec2b97fc", func := "penstock/penstocklaw14.JoinChunks", spec := "joinChunks", inPlace := ["internal/bytealg.IndexByteString", "internal/bytealg.IndexString", "internal/abi.NoEscape", "internal/bytealg.MakeNoZero"], unfollowed := true, recurses := true, named := ["penstock/params.rows", "internal/bytealg.MaxLen"], apart := false, laid := [("penstock/params.rows", laid_penstock_params_rows)] }
def JoinChunksSaid : Prop := joinChunksRow.holds Tryd.pinned (OpenSpec.ofChange joinChunksSpec)

/-- ITS FALSE NEIGHBOUR: 'it returns false'. Refute it at one input. -/
def joinChunksWrong : ChangeSpec := { name := "joinChunks", fn := fun _ => fun
  | [d1, d2, d3, d4] => { results := [.lit (.bool false)], args := [d1, d2, d3, d4] }
  | _ => none }
def JoinChunksWrongFalsely : Prop := joinChunksRow.holds Tryd.pinned (OpenSpec.ofChange joinChunksWrong)

/-- 'penstocklaw14.JoinGrows': WHATEVER THE INPUT: true; the input reads as it did. -/
def joinGrowsSpec : ChangeSpec := { name := "joinGrows", fn := fun _ => fun
  | [d1, d2, d3, d4, d5] => { results := [.lit (.bool true)], args := [d1, d2, d3, d4, d5] }
  | _ => none }
def joinGrowsRow : OpenClaim := { program := "ytchepmikbnnnhaadoor", sum := "27922962876f87340480d5abff0ad89e9ce097e23232e50e59d7ef7dec2b97fc", func := "penstock/penstocklaw14.JoinGrows", spec := "joinGrows", inPlace := ["internal/bytealg.IndexByteString", "internal/bytealg.IndexString", "internal/abi.NoEscape", "internal/bytealg.MakeNoZero"], unfollowed := true, recurses := true, named := ["penstock/params.rows", "internal/bytealg.MaxLen"], apart := false, laid := [("penstock/params.rows", laid_penstock_params_rows)] }
def JoinGrowsSaid : Prop := joinGrowsRow.holds Tryd.pinned (OpenSpec.ofChange joinGrowsSpec)

/-- ITS FALSE NEIGHBOUR: 'it returns false'. Refute it at one input. -/
def joinGrowsWrong : ChangeSpec := { name := "joinGrows", fn := fun _ => fun
  | [d1, d2, d3, d4, d5] => { results := [.lit (.bool false)], args := [d1, d2, d3, d4, d5] }
  | _ => none }
def JoinGrowsWrongFalsely : Prop := joinGrowsRow.holds Tryd.pinned (OpenSpec.ofChange joinGrowsWrong)

/-- 'penstocklaw14.JoinPairs': WHATEVER THE INPUT: true; the input reads as it did. -/
def joinPairsSpec : ChangeSpec := { name := "joinPairs", fn := fun _ => fun
  | [d1, d2, d3, d4, d5] => { results := [.lit (.bool true)], args := [d1, d2, d3, d4, d5] }
  | _ => none }
def joinPairsRow : OpenClaim := { program := "ytchepmikbnnnhaadoor", sum := "27922962876f87340480d5abff0ad89e9ce097e23232e50e59d7ef7dec2b97fc", func := "penstock/penstocklaw14.JoinPairs", spec := "joinPairs", inPlace := ["internal/bytealg.IndexByteString", "internal/bytealg.IndexString", "internal/abi.NoEscape", "internal/bytealg.MakeNoZero"], unfollowed := true, recurses := true, named := ["penstock/params.rows", "internal/bytealg.MaxLen"], apart := false, laid := [("penstock/params.rows", laid_penstock_params_rows)] }
def JoinPairsSaid : Prop := joinPairsRow.holds Tryd.pinned (OpenSpec.ofChange joinPairsSpec)

/-- ITS FALSE NEIGHBOUR: 'it returns false'. Refute it at one input. -/
def joinPairsWrong : ChangeSpec := { name := "joinPairs", fn := fun _ => fun
  | [d1, d2, d3, d4, d5] => { results := [.lit (.bool false)], args := [d1, d2, d3, d4, d5] }
  | _ => none }
def JoinPairsWrongFalsely : Prop := joinPairsRow.holds Tryd.pinned (OpenSpec.ofChange joinPairsWrong)

/- THE SECOND FORM. 'bulk': how many values and letters a reading holds, each counted each time it is reached (what is shared counts as often as it is met; a slice's spare places count too). A statement '..UptoSaid' is the law's where the arguments, and the package variables that the reading takes, are together of bulk at most 1048576: NARROWER than '..Said'. Prove '..Said' where nothing that the law and all that it calls make is longer than what came in: it says more and counts as full. Else prove '..UptoSaid'. A law counts once. -/
mutual
def uptoBulk {H : Type} : DataW H → Nat
  | .lit (.string bytes) => bytes.length + 1
  | .lit _ => 1
  | .nil => 1
  | .ptr d => uptoBulk d + 1
  | .slice elems spare => uptoBulkAll elems + uptoBulkAll spare + 1
  | .agg parts => uptoBulkAll parts + 1
  | .iface _ d => uptoBulk d + 1
  | .map entries => uptoBulkEntries entries + 1
  | .held _ => 1
def uptoBulkAll {H : Type} : List (DataW H) → Nat
  | [] => 0
  | d :: r => uptoBulk d + uptoBulkAll r
def uptoBulkEntries {H : Type} : List (Lit × DataW H) → Nat
  | [] => 0
  | x :: r => uptoBulkEntry x + uptoBulkEntries r
def uptoBulkEntry {H : Type} : Lit × DataW H → Nat
  | (.string bytes, d) => bytes.length + uptoBulk d + 1
  | (_, d) => uptoBulk d + 1
 end
def uptoSmall : (H : Type) → List (DataW H) → Bool := fun _ ds => decide (uptoBulkAll ds ≤ 1048576)
def OpenSpec.upto (s : _root_.Go.ChangeSpec) : _root_.Go.OpenSpec := { _root_.Go.OpenSpec.ofChange s with cond := some uptoSmall }

/-- 'penstocklaw14.JoinMakes', WHERE WHAT IT READS IS OF BULK AT MOST 1048576: true; the input reads as it did. -/
def joinMakesUptoRow : OpenClaim := { program := "ytchepmikbnnnhaadoor", sum := "27922962876f87340480d5abff0ad89e9ce097e23232e50e59d7ef7dec2b97fc", func := "penstock/penstocklaw14.JoinMakes", spec := "joinMakes", inPlace := ["internal/bytealg.IndexByteString", "internal/bytealg.IndexString", "internal/abi.NoEscape", "internal/bytealg.MakeNoZero"], unfollowed := true, recurses := true, named := ["penstock/params.rows", "internal/bytealg.MaxLen"], apart := false, laid := [("penstock/params.rows", laid_penstock_params_rows)], narrowed := true }
def JoinMakesUptoSaid : Prop := joinMakesUptoRow.holds Tryd.pinned (OpenSpec.upto joinMakesSpec)

/-- 'penstocklaw14.JoinMeans', WHERE WHAT IT READS IS OF BULK AT MOST 1048576: true; the input reads as it did. -/
def joinMeansUptoRow : OpenClaim := { program := "ytchepmikbnnnhaadoor", sum := "27922962876f87340480d5abff0ad89e9ce097e23232e50e59d7ef7dec2b97fc", func := "penstock/penstocklaw14.JoinMeans", spec := "joinMeans", inPlace := ["internal/bytealg.IndexByteString", "internal/bytealg.IndexString", "internal/abi.NoEscape", "internal/bytealg.MakeNoZero"], unfollowed := true, recurses := true, named := ["penstock/params.rows", "internal/bytealg.MaxLen"], apart := false, laid := [("penstock/params.rows", laid_penstock_params_rows)], narrowed := true }
def JoinMeansUptoSaid : Prop := joinMeansUptoRow.holds Tryd.pinned (OpenSpec.upto joinMeansSpec)

/-- 'penstocklaw14.JoinHolds', WHERE WHAT IT READS IS OF BULK AT MOST 1048576: true; the input reads as it did. -/
def joinHoldsUptoRow : OpenClaim := { program := "ytchepmikbnnnhaadoor", sum := "27922962876f87340480d5abff0ad89e9ce097e23232e50e59d7ef7dec2b97fc", func := "penstock/penstocklaw14.JoinHolds", spec := "joinHolds", inPlace := ["internal/bytealg.IndexByteString", "internal/bytealg.IndexString", "internal/abi.NoEscape", "internal/bytealg.MakeNoZero"], unfollowed := true, recurses := true, named := ["penstock/params.rows", "internal/bytealg.MaxLen"], apart := false, laid := [("penstock/params.rows", laid_penstock_params_rows)], narrowed := true }
def JoinHoldsUptoSaid : Prop := joinHoldsUptoRow.holds Tryd.pinned (OpenSpec.upto joinHoldsSpec)

/-- 'penstocklaw14.JoinRefuses', WHERE WHAT IT READS IS OF BULK AT MOST 1048576: true; the input reads as it did. -/
def joinRefusesUptoRow : OpenClaim := { program := "ytchepmikbnnnhaadoor", sum := "27922962876f87340480d5abff0ad89e9ce097e23232e50e59d7ef7dec2b97fc", func := "penstock/penstocklaw14.JoinRefuses", spec := "joinRefuses", inPlace := ["internal/bytealg.IndexByteString", "internal/bytealg.IndexString", "internal/abi.NoEscape", "internal/bytealg.MakeNoZero"], unfollowed := true, recurses := true, named := ["penstock/params.rows", "internal/bytealg.MaxLen"], apart := false, laid := [("penstock/params.rows", laid_penstock_params_rows)], narrowed := true }
def JoinRefusesUptoSaid : Prop := joinRefusesUptoRow.holds Tryd.pinned (OpenSpec.upto joinRefusesSpec)

/-- 'penstocklaw14.JoinChunks', WHERE WHAT IT READS IS OF BULK AT MOST 1048576: true; the input reads as it did. -/
def joinChunksUptoRow : OpenClaim := { program := "ytchepmikbnnnhaadoor", sum := "27922962876f87340480d5abff0ad89e9ce097e23232e50e59d7ef7dec2b97fc", func := "penstock/penstocklaw14.JoinChunks", spec := "joinChunks", inPlace := ["internal/bytealg.IndexByteString", "internal/bytealg.IndexString", "internal/abi.NoEscape", "internal/bytealg.MakeNoZero"], unfollowed := true, recurses := true, named := ["penstock/params.rows", "internal/bytealg.MaxLen"], apart := false, laid := [("penstock/params.rows", laid_penstock_params_rows)], narrowed := true }
def JoinChunksUptoSaid : Prop := joinChunksUptoRow.holds Tryd.pinned (OpenSpec.upto joinChunksSpec)

/-- 'penstocklaw14.JoinGrows', WHERE WHAT IT READS IS OF BULK AT MOST 1048576: true; the input reads as it did. -/
def joinGrowsUptoRow : OpenClaim := { program := "ytchepmikbnnnhaadoor", sum := "27922962876f87340480d5abff0ad89e9ce097e23232e50e59d7ef7dec2b97fc", func := "penstock/penstocklaw14.JoinGrows", spec := "joinGrows", inPlace := ["internal/bytealg.IndexByteString", "internal/bytealg.IndexString", "internal/abi.NoEscape", "internal/bytealg.MakeNoZero"], unfollowed := true, recurses := true, named := ["penstock/params.rows", "internal/bytealg.MaxLen"], apart := false, laid := [("penstock/params.rows", laid_penstock_params_rows)], narrowed := true }
def JoinGrowsUptoSaid : Prop := joinGrowsUptoRow.holds Tryd.pinned (OpenSpec.upto joinGrowsSpec)

/-- 'penstocklaw14.JoinPairs', WHERE WHAT IT READS IS OF BULK AT MOST 1048576: true; the input reads as it did. -/
def joinPairsUptoRow : OpenClaim := { program := "ytchepmikbnnnhaadoor", sum := "27922962876f87340480d5abff0ad89e9ce097e23232e50e59d7ef7dec2b97fc", func := "penstock/penstocklaw14.JoinPairs", spec := "joinPairs", inPlace := ["internal/bytealg.IndexByteString", "internal/bytealg.IndexString", "internal/abi.NoEscape", "internal/bytealg.MakeNoZero"], unfollowed := true, recurses := true, named := ["penstock/params.rows", "internal/bytealg.MaxLen"], apart := false, laid := [("penstock/params.rows", laid_penstock_params_rows)], narrowed := true }
def JoinPairsUptoSaid : Prop := joinPairsUptoRow.holds Tryd.pinned (OpenSpec.upto joinPairsSpec)

end Rows
end Go.Proofs.YtchepmikbnnnhaaDoor
