/- Plainly: fields, with more of its input. -/
import Derived.Test.YtgcnkagieedebaaDoorFieldsFace
namespace Go.Proofs.YtgcnkagieedebaaDoor

theorem fields_grows (N : Nat) (A B : List UInt8) (i i' : Strm) (h : Longer i i') : GrowsTo (fieldsFin N A B i) (fieldsFin N A B i') := run_grows _ _ _ _ h

theorem fields_fneeds (N : Nat) (A B : List UInt8) (i : Strm) : (fieldsFin N A B i).need = -1 ∨ (fieldsFin N A B i).need = -2 ∨ (fieldsFin N A B i).need = 0 := fields_needs N A B _

end Go.Proofs.YtgcnkagieedebaaDoor
