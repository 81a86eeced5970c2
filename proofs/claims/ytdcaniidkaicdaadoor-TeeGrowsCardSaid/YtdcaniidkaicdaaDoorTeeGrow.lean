/- Plainly: tee, with more of its input. -/
import Derived.Test.YtdcaniidkaicdaaDoorTeeFace
import Derived.Test.YtdcaniidkaicdaaDoorRB
namespace Go.Proofs.YtdcaniidkaicdaaDoor

theorem tee_grows (N : Nat) (A B : List UInt8) (i i' : Strm) (h : Longer i i') : GrowsTo (teeFin N A B i) (teeFin N A B i') := by
  rcases h with rfl | ⟨he, y, e, rfl⟩
  · exact GrowsTo.refl _
  refine ⟨fun j => ?_, fun hn => ?_⟩
  · unfold teeFin
    by_cases hj : j < min N 4
    · refine ⟨y, ?_⟩
      simp only [if_pos hj]
    · exact ⟨[], by simp only [if_neg hj, List.append_nil]⟩
  · unfold teeFin at hn
    rw [he] at hn
    cases hn

theorem tee_fneeds (N : Nat) (A B : List UInt8) (i : Strm) : (teeFin N A B i).need = -1 ∨ (teeFin N A B i).need = -2 ∨ (teeFin N A B i).need = 0 := by
  unfold teeFin
  cases i.ended
  · exact .inr (.inr rfl)
  · exact .inl rfl

end Go.Proofs.YtdcaniidkaicdaaDoor
