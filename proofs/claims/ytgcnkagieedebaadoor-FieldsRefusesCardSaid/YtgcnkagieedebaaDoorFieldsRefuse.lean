/- Fields refuses calls that are not due. -/
import Derived.Test.YtgcnkagieedebaaDoorRC
import Derived.Test.YtgcnkagieedebaaDoorFieldsFace
namespace Go.Proofs.YtgcnkagieedebaaDoor
open Go.RowKit

theorem fields_pokes (N : Nat) (A B : List UInt8) (g : Nat) : ∃ fN fH fF fE fM rN rH rF rE rM, Driven (fieldsF N A B) fieldsBase (fieldsR N A B g) 75 (.pointer (some ⟨g, 0, none⟩)) fN fH fF fE fM rN rH rF rE rM ∧ Refusing (fieldsF N A B) (fieldsR N A B g) fF fE fM rF rE rM :=
  ⟨_, _, _, _, _, _, _, _, _, _, fields_driven _ _ g (Nat.min_le_right _ _), lines_refusing (fieldsM (min N 65535) (A.headD 0)) g⟩

end Go.Proofs.YtgcnkagieedebaaDoor
