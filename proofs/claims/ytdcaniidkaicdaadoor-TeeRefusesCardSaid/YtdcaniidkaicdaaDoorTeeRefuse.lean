/- Tee refuses calls that are not due. -/
import Derived.Test.YtdcaniidkaicdaaDoorRC
import Derived.Test.YtdcaniidkaicdaaDoorTeeFace
namespace Go.Proofs.YtdcaniidkaicdaaDoor
open Go.RowKit

theorem tee_pokes (N : Nat) (A B : List UInt8) (g : Nat) : ∃ fN fH fF fE fM rN rH rF rE rM, Driven (teeF N A B) teeBase (teeR N A B g) 70 (.pointer (some ⟨g, 0, none⟩)) fN fH fF fE fM rN rH rF rE rM ∧ Refusing (teeF N A B) (teeR N A B g) fF fE fM rF rE rM :=
  ⟨_, _, _, _, _, _, _, _, _, _, tee_driven (min N 4) (Nat.min_le_right _ _) g, tee_refusing (min N 4) g⟩

end Go.Proofs.YtdcaniidkaicdaaDoor
