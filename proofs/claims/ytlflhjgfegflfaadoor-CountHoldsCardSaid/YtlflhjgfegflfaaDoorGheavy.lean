/- Lists of lists of numbers in memory; what is too much. -/
import Derived.Test.YtlflhjgfegflfaaDoorDdefs
import Derived.Test.YtlflhjgfegflfaaDoorPA
namespace Go.Proofs.YtlflhjgfegflfaaDoor
open Go.RowKit

/-- The value is a list of lists of numbers. -/
def IsIntss (p : Nat → Prop) (w : World) (v : Value) (L : List (List Int)) : Prop :=
  ∃ a cap, v = .slice a L.length cap ∧ ∀ j c, L[j]? = some c → ∃ gb off cv, a = some ⟨gb, off, none⟩ ∧ p gb ∧ w.cell? ⟨gb, off + j, none⟩ = some cv ∧ IsInts p w cv c
theorem IsIntss.frame {p q : Nat → Prop} {w w' : World} {v : Value} {L : List (List Int)} (h : IsIntss p w v L) (hf : Frame q w w') (hpq : ∀ k, p k → ¬ q k) : IsIntss p w' v L := by
  obtain ⟨a, cap, rfl, hc⟩ := h
  refine ⟨a, cap, rfl, fun j t hj => ?_⟩
  obtain ⟨gb, off, bv, rfl, hp, h1, hb⟩ := hc j t hj
  exact ⟨gb, off, bv, rfl, hp, hf.cell? h1 (hpq _ hp), hb.frame hf hpq⟩
theorem IsIntss.below {p : Nat → Prop} {w w' : World} {v : Value} {L : List (List Int)} (h : IsIntss p w v L) (hb : Below w.heap.size w w') : IsIntss p w' v L := h.frame (Below.toFrame hb fun _ => False) (fun _ _ h => h)

theorem IsBytes.toPm {p : Nat → Prop} {w : World} {v : Value} {bs : List UInt8} (h : IsBytes p w v bs) : Pm.IsBytes w v bs := by
  obtain ⟨a, cap, rfl, hle, hc⟩ := h
  refine ⟨a, cap, rfl, hle, fun j c hj => ?_⟩
  obtain ⟨gb, off, e, _, hx⟩ := hc j c hj
  exact ⟨gb, off, e, hx⟩
theorem Pm.IsBytes.toP {w : World} {v : Value} {bs : List UInt8} (h : Pm.IsBytes w v bs) : Go.Proofs.YtlflhjgfegflfaaDoor.IsBytes (· < w.heap.size) w v bs := by
  obtain ⟨a, cap, rfl, hle, hc⟩ := h
  refine ⟨a, cap, rfl, hle, fun j c hj => ?_⟩
  obtain ⟨gb, off, e, hx⟩ := hc j c hj
  exact ⟨gb, off, e, block_lt_of_cell hx, hx⟩

def heavyB (A B : List UInt8) (ins : List Strm) (cc : List (List Int)) : Bool :=
  decide (1000 < A.length) || decide (1000 < B.length) || decide (8 < ins.length) || ins.any (fun t => decide (2000 < t.bytes.length)) || cc.any (fun c => decide (3000 < c.length))
theorem heavy_no {A B : List UInt8} {ins : List Strm} {cc : List (List Int)} (h : heavyB A B ins cc = false) : A.length ≤ 1000 ∧ B.length ≤ 1000 ∧ ins.length ≤ 8 ∧ (∀ t ∈ ins, t.bytes.length ≤ 2000) ∧ ∀ c ∈ cc, c.length ≤ 3000 := by
  simp [heavyB] at h
  obtain ⟨⟨⟨⟨h1, h2⟩, h3⟩, h4⟩, h5⟩ := h
  exact ⟨h1, h2, h3, h4, h5⟩
theorem any_take {α : Type} (f : α → Bool) {L : List α} {k : Nat} {t : α} (h : L[k]? = some t) (h1 : (L.take k).any f = false) (h2 : f t = false) : (L.take (k + 1)).any f = false := by
  rw [take_snoc h, List.any_append, h1]
  simp [h2]
theorem any_at {α : Type} (f : α → Bool) {L : List α} {k : Nat} {t : α} (h : L[k]? = some t) (h2 : f t = true) : L.any f = true := List.any_eq_true.2 ⟨t, List.mem_of_getElem? h, h2⟩

end Go.Proofs.YtlflhjgfegflfaaDoor
