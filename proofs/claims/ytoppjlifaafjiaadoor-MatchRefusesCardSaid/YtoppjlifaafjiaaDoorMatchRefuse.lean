/- Match refuses calls that are not due. -/
import Derived.Test.YtoppjlifaafjiaaDoorRC
import Derived.Test.YtoppjlifaafjiaaDoorMatchFace
namespace Go.Proofs.YtoppjlifaafjiaaDoor
open Go.RowKit

theorem match_pokes (N : Nat) (A B : List UInt8) (g : Nat) : ∃ fN fH fF fE fM rN rH rF rE rM, Driven (matchF N A B) matchBase (matchR N A B g) 73 (.pointer (some ⟨g, 0, none⟩)) fN fH fF fE fM rN rH rF rE rM ∧ Refusing (matchF N A B) (matchR N A B g) fF fE fM rF rE rM :=
  ⟨_, _, _, _, _, _, _, _, _, _, match_driven _ _ g, lines_refusing (matchM A (decide (N = 0))) g⟩

end Go.Proofs.YtoppjlifaafjiaaDoor
