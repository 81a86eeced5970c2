/- What the walks of the laws about whole inputs have in common. -/
import Derived.Test.YteghdepedlaneaaDoorGlaws
import Derived.Test.YteghdepedlaneaaDoorGopen
import Derived.Test.YteghdepedlaneaaDoorGcopy
namespace Go.Proofs.YteghdepedlaneaaDoor
open Go.RowKit

theorem pieces_new (w : World) (bv : Value) (x : List UInt8) (q : Nat → Prop) (hq : q w.heap.size) (h : IsBytes q w bv x) (m : Nat × Nat) : IsPieces q (w.alloc (.cells #[bv] 22 m)) (.slice (some ⟨w.heap.size, 0, none⟩) 1 1) [x] := by
  refine ⟨_, 1, rfl, fun j t' hj => ?_⟩
  match j, hj with
  | 0, hj =>
    simp at hj
    subst hj
    refine ⟨_, 0, bv, rfl, hq, ?_, h.below ((Below.refl _ _).alloc (Nat.le_refl _) _)⟩
    rw [Nat.zero_add, cell_of_row _ _ _ _ _ _ (heap_alloc_last w _)]
    rfl
  | j + 1, hj => simp at hj
theorem texts_take {p : Nat → Prop} {w : World} {la : Option Addr} {lc : Nat} {L : Lines} (h : IsTexts p w (.slice la L.length lc) L) (k : Nat) (hk : k ≤ L.length) : IsTexts p w (.slice la k lc) (L.take k) := by
  obtain ⟨a, c, e, hc⟩ := h
  cases e
  refine ⟨la, lc, by rw [List.length_take, Nat.min_eq_left hk], fun j b hj => ?_⟩
  rw [List.getElem?_take] at hj
  split at hj
  · exact hc j b hj
  · cases hj
theorem texts_slice {p : Nat → Prop} {w : World} {v : Value} {L : Lines} (h : IsTexts p w v L) : ∃ a c, v = .slice a L.length c := by
  obtain ⟨a, c, e, -⟩ := h
  exact ⟨a, c, e⟩

theorem make_stream (W : World) : (Instr.makeSlice 36 (.int .i64 1) (.int .i64 1)).run Tryd.prog W = .ok (.slice (some ⟨W.heap.size, 0, none⟩) 1 1) (W.alloc (.cells #[.slice none 0 0, .bool false, .int .i64 0, .int .i64 0, .int .i64 0] 61)) := by
  obtain ⟨i0, hi, hz0, hz1, hz2⟩ := info_parts Tryd.info61
  have h := run_makeSlice (P := Tryd.prog) W 36 61 i0 (.agg #[.slice none 0 0, .bool false, .int .i64 0, .int .i64 0, .int .i64 0]) Tryd.underlying36 hi hz0 .i64 .i64 1 1 (by decide) (by decide) (by rw [hz1]; decide) (by rw [hz2]; decide) (by decide)
  rw [hz1] at h
  rw [h, show madeCells (Value.agg #[.slice none 0 0, .bool false, .int .i64 0, .int .i64 0, .int .i64 0]).cells ((1 : Int).toNat * 5) = #[.slice none 0 0, .bool false, .int .i64 0, .int .i64 0, .int .i64 0] by kernel_rfl]
  rfl

end Go.Proofs.YteghdepedlaneaaDoor
