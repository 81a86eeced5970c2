/- Head refuses calls that are not due. -/
import Derived.Test.YthedfcdcocimbaaDoorRefuse
import Derived.Test.YthedfcdcocimbaaDoorHeadFace
namespace Go.Proofs.YthedfcdcocimbaaDoor
open Go.RowKit

theorem head_pokes (N g : Nat) : ∃ fN fH fF fE fM rN rH rF rE rM, Driven (headF N) 0 (headR N g) 77 (.pointer (some ⟨g, 0, none⟩)) fN fH fF fE fM rN rH rF rE rM ∧ Refusing (headF N) (headR N g) fF fE fM rF rE rM :=
  ⟨_, _, _, _, _, _, _, _, _, _, head_driven g, lines_refusing headM g⟩

end Go.Proofs.YthedfcdcocimbaaDoor
