/- Plainly: match, with more of its input. -/
import Derived.Test.YtbanofgigfdlnaaDoorMatchFace
namespace Go.Proofs.YtbanofgigfdlnaaDoor

theorem match_grows (N : Nat) (A B : List UInt8) (i i' : Strm) (h : Longer i i') : GrowsTo (matchFin N A B i) (matchFin N A B i') := run_grows _ _ _ _ h

end Go.Proofs.YtbanofgigfdlnaaDoor
