/- Chain refuses calls that are not due. -/
import Derived.Test.YtnodnbinfhildaaDoorRC
import Derived.Test.YtnodnbinfhildaaDoorChainFace
namespace Go.Proofs.YtnodnbinfhildaaDoor
open Go.RowKit

theorem chain_pokes (N : Nat) (A B : List UInt8) (g : Nat) (hok : chainOk N A B) : ∃ fN fH fF fE fM rN rH rF rE rM, Driven (chainF N A B) chainBase (chainR N A B g) 70 (.pointer (some ⟨g, 0, none⟩)) fN fH fF fE fM rN rH rF rE rM ∧ Refusing (chainF N A B) (chainR N A B g) fF fE fM rF rE rM :=
  ⟨_, _, _, _, _, _, _, _, _, _, chain_driven N hok.2 g, chain_refusing N g⟩

end Go.Proofs.YtnodnbinfhildaaDoor
