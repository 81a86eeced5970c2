/- Split refuses calls that are not due. -/
import Derived.Test.YtbblkgknnolkmaaDoorRC
import Derived.Test.YtbblkgknnolkmaaDoorSplitFace
namespace Go.Proofs.YtbblkgknnolkmaaDoor
open Go.RowKit

theorem split_pokes (N : Nat) (A B : List UInt8) (g : Nat) : ∃ fN fH fF fE fM rN rH rF rE rM, Driven (splitF N A B) splitBase (splitR N A B g) 73 (.pointer (some ⟨g, 0, none⟩)) fN fH fF fE fM rN rH rF rE rM ∧ Refusing (splitF N A B) (splitR N A B g) fF fE fM rF rE rM :=
  ⟨_, _, _, _, _, _, _, _, _, _, split_driven (outN N) (outN_le N).1 (outN_le N).2 g, lines_refusing (splitM (outN N)) g⟩

end Go.Proofs.YtbblkgknnolkmaaDoor
