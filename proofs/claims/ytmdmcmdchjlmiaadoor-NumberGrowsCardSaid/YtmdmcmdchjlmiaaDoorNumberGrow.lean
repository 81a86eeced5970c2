/- Plainly: number, with more of its input. -/
import Derived.Test.YtmdmcmdchjlmiaaDoorNumberFace
namespace Go.Proofs.YtmdmcmdchjlmiaaDoor

theorem number_grows (N : Nat) (A B : List UInt8) (i i' : Strm) (h : Longer i i') : GrowsTo (numberFin N A B i) (numberFin N A B i') := run_grows _ _ _ _ h

theorem number_fneeds (N : Nat) (A B : List UInt8) (i : Strm) : (numberFin N A B i).need = -1 ∨ (numberFin N A B i).need = -2 ∨ (numberFin N A B i).need = 0 := number_needs N A B _

end Go.Proofs.YtmdmcmdchjlmiaaDoor
