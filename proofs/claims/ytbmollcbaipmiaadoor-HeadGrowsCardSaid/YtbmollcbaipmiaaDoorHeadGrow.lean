/- Plainly: head, with more of its input. -/
import Derived.Test.YtbmollcbaipmiaaDoorHeadFace
import Derived.Test.YtbmollcbaipmiaaDoorRB
namespace Go.Proofs.YtbmollcbaipmiaaDoor

theorem head_grows (N : Nat) (A B : List UInt8) (i i' : Strm) (h : Longer i i') : GrowsTo (headFin N A B i) (headFin N A B i') := by
  rcases h with rfl | ⟨he, y, e, rfl⟩
  · exact GrowsTo.refl _
  have happ := finalB_append headT i.bytes y (headS N) e
  have hf : finalB headT (headS N) i.bytes i.ended = feedB headT i.bytes (headS N) := by
    unfold finalB
    rw [he, if_neg (fun k => by simp at k)]
  unfold headFin
  simp only
  rw [hf, happ]
  generalize feedB headT i.bytes (headS N) = A
  refine ⟨fun j => ?_, fun hn => ?_⟩
  · simp only
    rw [putOuts_append]
    exact putOuts_more _ _ j
  · have hd : A.1.live = false := by
      unfold needOf at hn
      simp only at hn
      cases hl : A.1.live with
      | false => rfl
      | true => rw [hl] at hn; simp at hn
    rw [finalB_dead headT A.1 y e hd]
    simp only [List.append_nil]
    refine ⟨trivial, hn, ?_⟩
    split
    · rename_i h; rw [h]
    · rfl

theorem head_fneeds (N : Nat) (A B : List UInt8) (i : Strm) : (headFin N A B i).need = -1 ∨ (headFin N A B i).need = -2 ∨ (headFin N A B i).need = 0 := head_needs N A B _

end Go.Proofs.YtbmollcbaipmiaaDoor
