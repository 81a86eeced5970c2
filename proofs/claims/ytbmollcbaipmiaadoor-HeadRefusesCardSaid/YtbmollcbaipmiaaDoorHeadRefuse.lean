/- Head refuses calls that are not due. -/
import Derived.Test.YtbmollcbaipmiaaDoorRC
import Derived.Test.YtbmollcbaipmiaaDoorHeadFace
namespace Go.Proofs.YtbmollcbaipmiaaDoor
open Go.RowKit

theorem head_pokes (N : Nat) (A B : List UInt8) (g : Nat) : ∃ fN fH fF fE fM rN rH rF rE rM, Driven (headF N A B) headBase (headR N A B g) 74 (.pointer (some ⟨g, 0, none⟩)) fN fH fF fE fM rN rH rF rE rM ∧ Refusing (headF N A B) (headR N A B g) fF fE fM rF rE rM :=
  ⟨_, _, _, _, _, _, _, _, _, _, head_driven g, lines_refusing headM g⟩

end Go.Proofs.YtbmollcbaipmiaaDoor
