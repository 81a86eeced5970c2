/- Plainly: count, with more of its input. -/
import Derived.Test.YtlflhjgfegflfaaDoorCountFace
import Derived.Test.YtlflhjgfegflfaaDoorRB
namespace Go.Proofs.YtlflhjgfegflfaaDoor
variable [Inhabited TabBox]

theorem count_grows (N : Nat) (A B : List UInt8) (i i' : Strm) (h : Longer i i') : GrowsTo (countFin N A B i) (countFin N A B i') := by
  rcases h with rfl | ⟨he, y, e, rfl⟩
  · exact GrowsTo.refl _
  refine ⟨fun j => ⟨(countFin N A B ⟨i.bytes ++ y, e, i.code, i.stage, i.id⟩).outs j, ?_⟩, fun hn => ?_⟩
  · simp [countFin, he]
  · unfold countFin at hn
    rw [he] at hn
    cases hn

theorem count_fneeds (N : Nat) (A B : List UInt8) (i : Strm) : (countFin N A B i).need = -1 ∨ (countFin N A B i).need = -2 ∨ (countFin N A B i).need = 0 := by
  unfold countFin
  cases i.ended
  · exact .inr (.inr rfl)
  · exact .inl rfl

end Go.Proofs.YtlflhjgfegflfaaDoor
