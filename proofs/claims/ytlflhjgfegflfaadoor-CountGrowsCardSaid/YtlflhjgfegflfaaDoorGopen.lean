/- Pieces and truths in memory: the arguments of the laws of growth, opened. -/
import Derived.Test.YtlflhjgfegflfaaDoorOpen
namespace Go.Proofs.YtlflhjgfegflfaaDoor
open Go.ChangeShapes Go.WideShapes Go.ChangeAt Go.RowKit Go.Deep

/-- The value is a list of these pieces, in blocks of p. -/
def IsPieces (p : Nat → Prop) (w : World) (v : Value) (ps : List (List UInt8)) : Prop :=
  ∃ a cap, v = .slice a ps.length cap ∧ ∀ j b, ps[j]? = some b → ∃ gb off bv, a = some ⟨gb, off, none⟩ ∧ p gb ∧ w.cell? ⟨gb, off + j, none⟩ = some bv ∧ IsBytes p w bv b
theorem IsPieces.frame {p q : Nat → Prop} {w w' : World} {v : Value} {ps : List (List UInt8)} (h : IsPieces p w v ps) (hf : Frame q w w') (hpq : ∀ k, p k → ¬ q k) : IsPieces p w' v ps := by
  obtain ⟨a, cap, rfl, hc⟩ := h
  refine ⟨a, cap, rfl, fun j c hj => ?_⟩
  obtain ⟨gb, off, bv, rfl, hp, hx, hb⟩ := hc j c hj
  exact ⟨gb, off, bv, rfl, hp, hf.cell? hx (hpq _ hp), hb.frame hf hpq⟩
theorem IsPieces.below {p : Nat → Prop} {w w' : World} {v : Value} {ps : List (List UInt8)} (h : IsPieces p w v ps) (hb : Below w.heap.size w w') : IsPieces p w' v ps := h.frame (Below.toFrame hb fun _ => False) (fun _ _ h => h)
/-- .. a list of these truths. -/
def IsBools (p : Nat → Prop) (w : World) (v : Value) (ps : List Bool) : Prop :=
  ∃ a cap, v = .slice a ps.length cap ∧ ∀ j b, ps[j]? = some b → ∃ gb off, a = some ⟨gb, off, none⟩ ∧ p gb ∧ w.cell? ⟨gb, off + j, none⟩ = some (.bool b)
theorem IsBools.below {p : Nat → Prop} {w w' : World} {v : Value} {ps : List Bool} (h : IsBools p w v ps) (hb : Below w.heap.size w w') : IsBools p w' v ps := by
  obtain ⟨a, cap, rfl, hc⟩ := h
  refine ⟨a, cap, rfl, fun j c hj => ?_⟩
  obtain ⟨gb, off, rfl, hp, hx⟩ := hc j c hj
  exact ⟨gb, off, rfl, hp, Pm.Below.cell hb hx⟩

end Go.Proofs.YtlflhjgfegflfaaDoor
