/- What the walks of the laws of filters of several inputs have in common. -/
import Derived.Test.YteghdepedlaneaaDoorGlaws
namespace Go.Proofs.YteghdepedlaneaaDoor
open Go.RowKit

theorem strms_new2 (w : World) (bv cv : Value) (t u : Strm) (q : Nat → Prop) (hq : q w.heap.size) (hb : IsBytes q w bv t.bytes) (hc : IsBytes q w cv u.bytes) (m : Nat × Nat) :
    IsStrms q (w.alloc (.cells #[bv, .bool t.ended, .int .i64 t.code, .int .i64 t.stage, .int .i64 t.id, cv, .bool u.ended, .int .i64 u.code, .int .i64 u.stage, .int .i64 u.id] 61 m)) (.slice (some ⟨w.heap.size, 0, none⟩) 2 2) [t, u] := by
  have hh := heap_alloc_last w (.cells #[bv, .bool t.ended, .int .i64 t.code, .int .i64 t.stage, .int .i64 t.id, cv, .bool u.ended, .int .i64 u.code, .int .i64 u.stage, .int .i64 u.id] 61 m)
  refine ⟨_, 2, rfl, fun j t' hj => ?_⟩
  match j, hj with
  | 0, hj =>
    simp at hj
    subst hj
    refine ⟨_, 0, bv, rfl, hq, ?_, ?_, ?_, ?_, ?_, hb.frame (Below.toFrame ((Below.refl _ _).alloc (Nat.le_refl _) _) fun _ => False) (fun _ _ h => h)⟩
    all_goals
      rw [cell_of_row _ _ _ _ _ _ hh]
      rfl
  | 1, hj =>
    simp at hj
    subst hj
    refine ⟨_, 0, cv, rfl, hq, ?_, ?_, ?_, ?_, ?_, hc.frame (Below.toFrame ((Below.refl _ _).alloc (Nat.le_refl _) _) fun _ => False) (fun _ _ h => h)⟩
    all_goals
      rw [cell_of_row _ _ _ _ _ _ hh]
      rfl
  | j + 2, hj => simp at hj

end Go.Proofs.YteghdepedlaneaaDoor
