/- Plainly: turn, with more of its input. -/
import Derived.Test.YtacmbjamnmpmoaaDoorTurnFace
import Derived.Test.YtacmbjamnmpmoaaDoorRB
namespace Go.Proofs.YtacmbjamnmpmoaaDoor

theorem turn_grows (N : Nat) (A B : List UInt8) (i i' : Strm) (h : Longer i i') : GrowsTo (turnFin N A B i) (turnFin N A B i') := by
  rcases h with rfl | ⟨he, y, e, rfl⟩
  · exact GrowsTo.refl _
  refine ⟨fun j => ?_, fun hn => ?_⟩
  · unfold turnFin
    by_cases hj : j = 0
    · refine ⟨turnL A B y, ?_⟩
      simp only [if_pos hj]
      rw [turnL_append]
    · exact ⟨[], by simp [hj]⟩
  · unfold turnFin at hn
    rw [he] at hn
    cases hn

theorem turn_fneeds (N : Nat) (A B : List UInt8) (i : Strm) : (turnFin N A B i).need = -1 ∨ (turnFin N A B i).need = -2 ∨ (turnFin N A B i).need = 0 := by
  unfold turnFin
  cases i.ended
  · exact .inr (.inr rfl)
  · exact .inl rfl

end Go.Proofs.YtacmbjamnmpmoaaDoor
