/- What the document's Out does: one output. -/
import Derived.Test.YteghdepedlaneaaDoorGheavy
import Derived.Lib.ConvBytes
import Derived.Outline
namespace Go.Proofs.YteghdepedlaneaaDoor
open Go.RowKit

/-- The call answers one stream: these bytes; ended, or with that error. -/
def OutEnd (w : World) (t : Strm) (e : Ending) (w' : World) : Prop := ∃ v, e = .returned v ∧ IsStrms (w.heap.size ≤ ·) w' v [t] ∧ Below w.heap.size w w'

theorem OutEnd.lower {w W : World} {t : Strm} {e : Ending} {w' : World} (h : OutEnd W t e w') (hb : Below w.heap.size w W) : OutEnd w t e w' := by
  obtain ⟨v, he, hs, hb'⟩ := h
  have := hb.size
  exact ⟨v, he, hs.mono (fun k _ h => by omega), hb.trans (hb'.mono this)⟩
theorem strms_new' (w : World) (bv : Value) (t : Strm) (q : Nat → Prop) (hq : q w.heap.size) (hb : IsBytes q w bv t.bytes) :
    IsStrms q (w.alloc (.cells #[bv, .bool t.ended, .int .i64 t.code, .int .i64 t.stage, .int .i64 t.id] 61)) (.slice (some ⟨w.heap.size, 0, none⟩) 1 1) [t] := by
  refine ⟨_, 1, rfl, fun j t' hj => ?_⟩
  match j, hj with
  | 0, hj =>
    simp at hj
    subst hj
    have hh := heap_alloc_last w (.cells #[bv, .bool t.ended, .int .i64 t.code, .int .i64 t.stage, .int .i64 t.id] 61)
    refine ⟨_, 0, bv, rfl, hq, ?_, ?_, ?_, ?_, ?_, hb.frame (Below.toFrame ((Below.refl _ _).alloc (Nat.le_refl _) _) fun _ => False) (fun _ _ h => h)⟩
    all_goals
      rw [cell_of_row _ _ _ _ _ _ hh]
      rfl
  | j + 1, hj => simp at hj

set_option maxRecDepth 100000 in
set_option maxHeartbeats 1000000 in
theorem out_any (s : List UInt8) (all : Bool) (c g i : Int) (w : World) :
    Calls Tryd.prog 36 #[strV s, .bool all, .agg #[.int .i64 c, .int .i64 g, .int .i64 i]] w (OutEnd w ⟨s, all, if all then 0 else c, if all then 0 else g, if all then 0 else i⟩) := by
  have hb0 : Below w.heap.size w (w.alloc (.cells #[.int .i64 c, .int .i64 g, .int .i64 i] 59)) := (Below.refl _ _).alloc (Nat.le_refl _) _
  obtain ⟨ca, w2, hconv, hs2, hB2, hb2⟩ := conv_str s (w.alloc (.cells #[.int .i64 c, .int .i64 g, .int .i64 i] 59))
  have hb := hb0.trans (hb2.mono hb0.size)
  have hcl := hb2
  simp only [World.size_alloc] at hconv hs2 hB2
  have x0 : w2.cell? ⟨w.heap.size, 0, none⟩ = some (.int .i64 c) := Pm.Below.cell hcl (by simp)
  have x1 : w2.cell? ⟨w.heap.size, 1, none⟩ = some (.int .i64 g) := Pm.Below.cell hcl (by simp)
  have x2 : w2.cell? ⟨w.heap.size, 2, none⟩ = some (.int .i64 i) := Pm.Below.cell hcl (by simp)
  have HB2 := Lib.hid hB2
  have HB := Lib.hid hb
  have HS2 := Lib.hid hs2
  clear hB2 hb2 hb hb0 hcl hs2
  cases all with
  | true =>
    go_enter Tryd.func36, Tryd.ntmps36
    go_wp2_with fail
    go_ret
    exact ⟨_, rfl, strms_new' w2 _ ⟨s, true, 0, 0, 0⟩ (w.heap.size ≤ ·) (by have := HS2.out; omega) (HB2.out.mono (fun _ _ h => by omega)), HB.out.alloc HB.out.size _⟩
  | false =>
    go_enter Tryd.func36, Tryd.ntmps36
    go_wp2_with fail
    go_ret
    exact ⟨_, rfl, strms_new' w2 _ ⟨s, false, c, g, i⟩ (w.heap.size ≤ ·) (by have := HS2.out; omega) (HB2.out.mono (fun _ _ h => by omega)), HB.out.alloc HB.out.size _⟩

end Go.Proofs.YteghdepedlaneaaDoor
