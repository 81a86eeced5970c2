/- Plainly: inputs, and more of each. -/
import Derived.Test.YteghdepedlaneaaDoorRB
namespace Go.Proofs.YteghdepedlaneaaDoor

/-- Inputs, and more of them. -/
def LongerAll (L L' : List Strm) : Prop := L'.length = L.length ∧ ∀ (j : Nat) (i i' : Strm), L[j]? = some i → L'[j]? = some i' → Longer i i'
theorem LongerAll.cons {i i' : Strm} {r r' : List Strm} (h : LongerAll (i :: r) (i' :: r')) : Longer i i' ∧ LongerAll r r' :=
  ⟨h.2 0 i i' rfl rfl, by have := h.1; simpa using this, fun j a b ha hb => h.2 (j + 1) a b (by simpa using ha) (by simpa using hb)⟩
theorem LongerAll.refl (L : List Strm) : LongerAll L L := ⟨rfl, fun j i i' h h' => .inl (by rw [h] at h'; exact (Option.some.inj h').symm)⟩

end Go.Proofs.YteghdepedlaneaaDoor
