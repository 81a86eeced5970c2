/- What the walks of the filters' laws have in common. -/
import Derived.Test.YtlflhjgfegflfaaDoorGheavy
import Derived.Test.YtlflhjgfegflfaaDoorDrive
import Derived.Test.YtlflhjgfegflfaaDoorDlines
import Derived.Outline
namespace Go.Proofs.YtlflhjgfegflfaaDoor
open Go.RowKit

theorem strms_new (w : World) (bv : Value) (t : Strm) (q : Nat → Prop) (hq : q w.heap.size) (hb : IsBytes q w bv t.bytes) (m : Nat × Nat) :
    IsStrms q (w.alloc (.cells #[bv, .bool t.ended, .int .i64 t.code, .int .i64 t.stage, .int .i64 t.id] 61 m)) (.slice (some ⟨w.heap.size, 0, none⟩) 1 1) [t] := by
  refine ⟨_, 1, rfl, fun j t' hj => ?_⟩
  match j, hj with
  | 0, hj =>
    simp at hj
    subst hj
    have hh := heap_alloc_last w (.cells #[bv, .bool t.ended, .int .i64 t.code, .int .i64 t.stage, .int .i64 t.id] 61 m)
    refine ⟨_, 0, bv, rfl, hq, ?_, ?_, ?_, ?_, ?_, hb.frame (Below.toFrame ((Below.refl _ _).alloc (Nat.le_refl _) _) fun _ => False) (fun _ _ h => h)⟩
    all_goals
      rw [cell_of_row _ _ _ _ _ _ hh]
      rfl
  | j + 1, hj => simp at hj
theorem ints_new (w : World) (c : Int) (q : Nat → Prop) (hq : q w.heap.size) (m : Nat × Nat) : IsInts q (w.alloc (.cells #[.int .i64 c] 3 m)) (.slice (some ⟨w.heap.size, 0, none⟩) 1 1) [c] := by
  refine ⟨_, 1, rfl, fun j t' hj => ?_⟩
  match j, hj with
  | 0, hj =>
    simp at hj
    subst hj
    refine ⟨_, 0, rfl, hq, ?_⟩
    rw [Nat.zero_add, cell_of_row _ _ _ _ _ _ (heap_alloc_last w _)]
    rfl
  | j + 1, hj => simp at hj
theorem bytes_new (w : World) (bs : List UInt8) (m : Nat × Nat) : IsBytes (w.heap.size ≤ ·) (w.alloc (.cells (bytesL bs).toArray 5 m)) (.slice (some ⟨w.heap.size, 0, none⟩) bs.length bs.length) bs := by
  refine ⟨_, bs.length, rfl, Nat.le_refl _, fun j c hj => ⟨_, _, rfl, Nat.le_refl _, ?_⟩⟩
  rw [Nat.zero_add, cell_of_row _ _ _ _ _ _ (heap_alloc_last w _)]
  simp [bytesL, hj]
/-- What a machine does to its own blocks, and to those behind. -/
theorem Frame.belowO {own : Nat → Prop} {base : Nat} {w W W' : World} (hb : Below base w W) (ho : ∀ k, own k → base ≤ k) (hs : base ≤ W.heap.size) (hf : Frame (fun k => own k ∨ W.heap.size ≤ k) W W') : Below base w W' :=
  hb.trans (hf.below (p := fun k => own k ∨ W.heap.size ≤ k) hs (fun k h => by rcases h with h | h; exact ho k h; omega))
/-- The call answers a machine of its own. -/
def MadeOf {S : Type} (T : TypeId) (R : Nat → S → (Nat → Prop) → World → Prop) (s : S) (w : World) (e : Ending) (w' : World) : Prop :=
  ∃ g own, e = .returned (.tuple #[.iface T (.pointer (some ⟨g, 0, none⟩)), .int .i64 0]) ∧ R g s own w' ∧ (∀ k, own k → w.heap.size ≤ k) ∧ Below w.heap.size w w'

def exS : Strm := ⟨[97, 10, 98, 10, 99], true, 0, 0, 0⟩
theorem pm_nil (w : World) : Pm.IsBytes w (.slice none 0 0) [] := ⟨none, 0, rfl, Nat.le_refl _, fun j c hj => by simp at hj⟩

theorem got_lit (g : GotL) : ∃ S0 S1 S2 S3 : ByteArray, strV (g.outs 0) = .string S0 ∧ strV (g.outs 1) = .string S1 ∧ strV (g.outs 2) = .string S2 ∧ strV (g.outs 3) = .string S3 ∧
    gotA g = #[.string S0, .string S1, .string S2, .string S3, .int .i64 g.need, .int .i64 g.err, .int .i64 g.held, .int .i64 (g.taken 0), .int .i64 (g.taken 1), .int .i64 (g.taken 2), .int .i64 (g.taken 3), .bool false] :=
  ⟨_, _, _, _, rfl, rfl, rfl, rfl, rfl⟩
theorem ints_list (w : World) (cv : Value) (cuts : List Int) (q : Nat → Prop) (hq : q w.heap.size) (h : IsInts q w cv cuts) (m : Nat × Nat) : IsIntss q (w.alloc (.cells #[cv] 37 m)) (.slice (some ⟨w.heap.size, 0, none⟩) 1 1) [cuts] := by
  refine ⟨_, 1, rfl, fun j t' hj => ?_⟩
  match j, hj with
  | 0, hj =>
    simp at hj
    subst hj
    refine ⟨_, 0, cv, rfl, hq, ?_, h.below ((Below.refl _ _).alloc (Nat.le_refl _) _)⟩
    rw [Nat.zero_add, cell_of_row _ _ _ _ _ _ (heap_alloc_last w _)]
    rfl
  | j + 1, hj => simp at hj

/-- Parameters that were boxed. -/
theorem box_cells {w W : World} {k n : Int} {va vb : Value} (hb : Below (w.alloc (.cells #[.int .i64 k, .int .i64 n, va, vb] 24)).heap.size (w.alloc (.cells #[.int .i64 k, .int .i64 n, va, vb] 24)) W) :
    W.cell? ⟨w.heap.size, 0, none⟩ = some (.int .i64 k) ∧ W.cell? ⟨w.heap.size, 1, none⟩ = some (.int .i64 n) ∧ W.cell? ⟨w.heap.size, 2, none⟩ = some va ∧ W.cell? ⟨w.heap.size, 3, none⟩ = some vb :=
  ⟨Pm.Below.cell hb (by simp), Pm.Below.cell hb (by simp), Pm.Below.cell hb (by simp), Pm.Below.cell hb (by simp)⟩

end Go.Proofs.YtlflhjgfegflfaaDoor
