/- Plainly: uniq, with more of its input. -/
import Derived.Test.YtmmhpjhmobhdiaaDoorUniqFace
namespace Go.Proofs.YtmmhpjhmobhdiaaDoor

theorem uniq_grows (N : Nat) (A B : List UInt8) (i i' : Strm) (h : Longer i i') : GrowsTo (uniqFin N A B i) (uniqFin N A B i') := one_grows (uniqMach (uniqC N)) (linesX_one _ _ _ _) 0 uniqS rfl i i' h

theorem uniq_fneeds (N : Nat) (A B : List UInt8) (i : Strm) : (uniqFin N A B i).need = -1 ∨ (uniqFin N A B i).need = -2 ∨ (uniqFin N A B i).need = 0 := uniq_needs N A B _

end Go.Proofs.YtmmhpjhmobhdiaaDoor
