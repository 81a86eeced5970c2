/- Plainly: tail, with more of its input. -/
import Derived.Test.YtdpjopemdhbgpaaDoorTailFace
import Derived.Test.YtdpjopemdhbgpaaDoorRB
namespace Go.Proofs.YtdpjopemdhbgpaaDoor

theorem tail_grows (N : Nat) (A B : List UInt8) (i i' : Strm) (h : Longer i i') : GrowsTo (tailFin N A B i) (tailFin N A B i') := by
  rcases h with rfl | ⟨he, y, e, rfl⟩
  · exact GrowsTo.refl _
  have hz : (tailMach N).need tailS = 0 := rfl
  have hf : finalM (tailMach N) N tailS i.bytes i.ended = (tailMach N).feed tailS i.bytes := by
    unfold finalM
    rw [he, if_neg (fun k => by simp at k)]
  unfold tailFin
  simp only
  rw [hf]
  by_cases h1 : (tailMach N).need ((tailMach N).feed tailS i.bytes).1 = 0 ∧ ((tailMach N).feed tailS i.bytes).2.2 = 0
  · rw [finalM_app (tailMach N) (tail_one N) N tailS i.bytes y e hz h1]
    refine ⟨fun j => ?_, fun hn => ?_⟩
    · simp only
      rw [putOuts_append]
      exact putOuts_more _ _ j
    · have hn : (tailMach N).need ((tailMach N).feed tailS i.bytes).1 = -1 := hn
      rw [h1.1] at hn
      cases hn
  · rw [finalM_stop (tailMach N) (tail_one N) N tailS i.bytes y e hz h1]
    exact GrowsTo.refl _

theorem tail_fneeds (N : Nat) (A B : List UInt8) (i : Strm) : (tailFin N A B i).need = -1 ∨ (tailFin N A B i).need = -2 ∨ (tailFin N A B i).need = 0 := tail_needs N A B _

end Go.Proofs.YtdpjopemdhbgpaaDoor
