/- Plainly: with more of an input, what came out is a beginning of what comes out then. -/
import Derived.Test.YtbanofgigfdlnaaDoorDlines
namespace Go.Proofs.YtbanofgigfdlnaaDoor

/-- An input, and more of it. -/
def Longer (i i' : Strm) : Prop := i' = i ∨ (i.ended = false ∧ ∃ y e, i' = ⟨i.bytes ++ y, e, i.code, i.stage, i.id⟩)
/-- What comes of both. -/
def GrowsTo (F F' : Fin) : Prop := (∀ j, ∃ r, F'.outs j = F.outs j ++ r) ∧ (F.need = -1 → F'.outs = F.outs ∧ F'.need = -1 ∧ F'.err = F.err)
theorem GrowsTo.refl (F : Fin) : GrowsTo F F := ⟨fun j => ⟨[], by simp⟩, fun h => ⟨rfl, h, rfl⟩⟩
theorem putOuts_more : ∀ (L : Outs) (f : Nat → List UInt8) (j : Nat), ∃ r, putOuts f L j = f j ++ r
  | [], f, j => ⟨[], by simp [putOuts]⟩
  | t :: L, f, j => by
    obtain ⟨r, hr⟩ := putOuts_more L (fun i => if i = t.1 then f i ++ t.2 else f i) j
    have h : putOuts f (t :: L) j = (if j = t.1 then f j ++ t.2 else f j) ++ r := hr
    by_cases hj : j = t.1
    · exact ⟨t.2 ++ r, by rw [h, if_pos hj, List.append_assoc]⟩
    · exact ⟨r, by rw [h, if_neg hj]⟩

end Go.Proofs.YtbanofgigfdlnaaDoor
