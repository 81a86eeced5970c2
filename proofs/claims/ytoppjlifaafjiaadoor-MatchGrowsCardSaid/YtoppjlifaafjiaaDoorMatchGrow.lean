/- Plainly: match, with more of its input. -/
import Derived.Test.YtoppjlifaafjiaaDoorMatchFace
namespace Go.Proofs.YtoppjlifaafjiaaDoor

theorem match_grows (N : Nat) (A B : List UInt8) (i i' : Strm) (h : Longer i i') : GrowsTo (matchFin N A B i) (matchFin N A B i') := run_grows _ _ _ _ h

theorem match_fneeds (N : Nat) (A B : List UInt8) (i : Strm) : (matchFin N A B i).need = -1 ∨ (matchFin N A B i).need = -2 ∨ (matchFin N A B i).need = 0 := match_needs N A B _

end Go.Proofs.YtoppjlifaafjiaaDoor
