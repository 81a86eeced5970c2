/- Turn refuses calls that are not due. -/
import Derived.Test.YtacmbjamnmpmoaaDoorRC
import Derived.Test.YtacmbjamnmpmoaaDoorTurnFace
namespace Go.Proofs.YtacmbjamnmpmoaaDoor
open Go.RowKit

theorem turn_pokes (N : Nat) (A B : List UInt8) (g : Nat) : ∃ fN fH fF fE fM rN rH rF rE rM, Driven (turnF N A B) turnBase (turnR N A B g) 70 (.pointer (some ⟨g, 0, none⟩)) fN fH fF fE fM rN rH rF rE rM ∧ Refusing (turnF N A B) (turnR N A B g) fF fE fM rF rE rM :=
  ⟨_, _, _, _, _, _, _, _, _, _, turn_driven A B g, turn_refusing A B g⟩

end Go.Proofs.YtacmbjamnmpmoaaDoor
