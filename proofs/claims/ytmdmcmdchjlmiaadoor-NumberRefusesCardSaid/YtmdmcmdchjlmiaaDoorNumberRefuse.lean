/- Number refuses calls that are not due. -/
import Derived.Test.YtmdmcmdchjlmiaaDoorRC
import Derived.Test.YtmdmcmdchjlmiaaDoorNumberFace
namespace Go.Proofs.YtmdmcmdchjlmiaaDoor
open Go.RowKit

theorem number_pokes (N : Nat) (A B : List UInt8) (g : Nat) : ∃ fN fH fF fE fM rN rH rF rE rM, Driven (numberF N A B) numberBase (numberR N A B g) 73 (.pointer (some ⟨g, 0, none⟩)) fN fH fF fE fM rN rH rF rE rM ∧ Refusing (numberF N A B) (numberR N A B g) fF fE fM rF rE rM :=
  ⟨_, _, _, _, _, _, _, _, _, _, number_driven g, lines_refusing numberM g⟩

end Go.Proofs.YtmdmcmdchjlmiaaDoor
