/- Plainly: split, with more of its input. -/
import Derived.Test.YtbblkgknnolkmaaDoorSplitFace
namespace Go.Proofs.YtbblkgknnolkmaaDoor

theorem split_grows (N : Nat) (A B : List UInt8) (i i' : Strm) (h : Longer i i') : GrowsTo (splitFin N A B i) (splitFin N A B i') := run_grows _ _ _ _ h

theorem split_fneeds (N : Nat) (A B : List UInt8) (i : Strm) : (splitFin N A B i).need = -1 ∨ (splitFin N A B i).need = -2 ∨ (splitFin N A B i).need = 0 := split_needs N A B _

end Go.Proofs.YtbblkgknnolkmaaDoor
