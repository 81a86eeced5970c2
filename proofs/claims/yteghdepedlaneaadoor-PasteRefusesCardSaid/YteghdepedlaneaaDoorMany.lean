/- What the document's Lines does, of any input. -/
import Derived.Test.YteghdepedlaneaaDoorMlines
import Derived.Test.YteghdepedlaneaaDoorMout
namespace Go.Proofs.YteghdepedlaneaaDoor
open Go.RowKit

theorem readL_nil (ended : Bool) (er : Int × Int × Int) : readL [] ended er = ([], ended, if ended then (0, 0, 0) else er) := by cases ended <;> rfl

set_option maxRecDepth 100000 in
set_option maxHeartbeats 4000000 in
theorem lines_empty (a : Option Addr) (cap : Nat) (ended : Bool) (c1 c2 c3 : Int) (w : World) :
    Calls Tryd.prog 35 #[.agg #[.slice a 0 cap, .bool ended, .int .i64 c1, .int .i64 c2, .int .i64 c3]] w (ReadEnd w [] ended (c1, c2, c3)) := by
  go_enter Tryd.func35, Tryd.ntmps35
  go_wp2_with fail
  have hb0 : Below w.heap.size w (((w.alloc (.cells #[.slice a 0 cap, .bool ended, .int .i64 c1, .int .i64 c2, .int .i64 c3] 61)).alloc (.cells #[.slice none 0 0, .bool false, .int .i64 0, .int .i64 0, .int .i64 0] 95)).alloc (.cells #[.slice none 0 0, .bool false, .int .i64 0, .int .i64 0, .int .i64 0] 95)) := (((Below.refl _ _).alloc (Nat.le_refl _) _).alloc (by simp) _).alloc (by simp; omega) _
  have hbox : (((w.alloc (.cells #[.slice a 0 cap, .bool ended, .int .i64 c1, .int .i64 c2, .int .i64 c3] 61)).alloc (.cells #[.slice none 0 0, .bool false, .int .i64 0, .int .i64 0, .int .i64 0] 95)).alloc (.cells #[.slice none 0 0, .bool false, .int .i64 0, .int .i64 0, .int .i64 0] 95)).heap[w.heap.size]? = some (.cells #[.slice a 0 cap, .bool ended, .int .i64 c1, .int .i64 c2, .int .i64 c3] 61 (0, 0)) := (heap3 w _ _ _).1
  have hres := (heap3 w (.cells #[.slice a 0 cap, .bool ended, .int .i64 c1, .int .i64 c2, .int .i64 c3] 61) (.cells #[.slice none 0 0, .bool false, .int .i64 0, .int .i64 0, .int .i64 0] 95) (.cells #[.slice none 0 0, .bool false, .int .i64 0, .int .i64 0, .int .i64 0] 95)).2.1
  have hrow := (heap3 w (.cells #[.slice a 0 cap, .bool ended, .int .i64 c1, .int .i64 c2, .int .i64 c3] 61) (.cells #[.slice none 0 0, .bool false, .int .i64 0, .int .i64 0, .int .i64 0] 95) (.cells #[.slice none 0 0, .bool false, .int .i64 0, .int .i64 0, .int .i64 0] 95)).2.2
  generalize ((w.alloc (.cells #[.slice a 0 cap, .bool ended, .int .i64 c1, .int .i64 c2, .int .i64 c3] 61)).alloc (.cells #[.slice none 0 0, .bool false, .int .i64 0, .int .i64 0, .int .i64 0] 95)).alloc (.cells #[.slice none 0 0, .bool false, .int .i64 0, .int .i64 0, .int .i64 0] 95) = wr at hb0 hbox hres hrow ⊢
  have b0 : wr.cell? ⟨w.heap.size, 0, none⟩ = some (.slice a 0 cap) := by rw [cell_of_row _ _ _ _ _ _ hbox]; rfl
  have b1 : wr.cell? ⟨w.heap.size, 1, none⟩ = some (.bool ended) := by rw [cell_of_row _ _ _ _ _ _ hbox]; rfl
  refine wp_loop_rounds 1 ?_
  rw [rounds_succ]
  have ho : wr.ownsRow (w.heap.size + 3) 9 1 (.slice none 0 0) ([] : Lines).length (([] : Lines).map strV) := World.ownsRow_nil _ _ 9 1
  have HO := Lib.hid ho
  have HBL := Lib.hid hb0
  clear ho hb0
  cases ended with
  | false =>
    have hrd : readL [] false (c1, c2, c3) = ([], false, (c1, c2, c3)) := rfl
    have hth : wr.there (w.heap.size + 1 + 1) 2 (#[Value.int .i64 c1, .int .i64 c2, .int .i64 c3] : Array Value).size := row_there hrow
    have hmid : wr.rangeAt w.heap.size 2 [Value.int .i64 c1, .int .i64 c2, .int .i64 c3] := fun j v hv => by
      rw [cell_of_row _ _ _ _ _ _ hbox]
      rcases j with _ | _ | _ | j
      · exact hv
      · exact hv
      · exact hv
      · simp at hv
    have hput := put_err (.int .i64 c1) (.int .i64 c2) (.int .i64 c3) hrow
    have hpb : Below (w.heap.size + 2) wr (wr.setCells (w.heap.size + 2) 2 [.int .i64 c1, .int .i64 c2, .int .i64 c3]) := put_below _ _ _ (Nat.le_refl _)
    have hoth := fun k hk => other_setCells [.int .i64 c1, .int .i64 c2, .int .i64 c3] 2 wr (w.heap.size + 2) k hk
    go_upto_region 18 with (first | (refine wpList_load_mid rfl 59 (.tmp 59) rfl w.heap.size 2 rfl _ _ hmid Tryd.underlying59 rfl (by kernel_rfl) ?_) | (refine wpList_store_mid rfl 59 (.tmp 61) (.tmp 60) rfl (w.heap.size + 1 + 1) 2 #[.int .i64 c1, .int .i64 c2, .int .i64 c3] rfl rfl hth (by kernel_rfl) (by kernel_rfl) ?_))
    have hres1 := (hoth (w.heap.size + 1) (by omega)).trans hres
    have hb1 := HBL.out.trans (hpb.mono (by omega))
    have ho1 := HO.out.heap_kept (W' := wr.setCells (w.heap.size + 2) 2 [.int .i64 c1, .int .i64 c2, .int .i64 c3]) (fun j hj => hoth j (by omega))
    change Code.wp _ _ _ _ (wr.setCells (w.heap.size + 2) 2 [.int .i64 c1, .int .i64 c2, .int .i64 c3])
    clear hpb hoth hth hrow hres
    generalize wr.setCells (w.heap.size + 2) 2 [.int .i64 c1, .int .i64 c2, .int .i64 c3] = W1 at hput hres1 hb1 ho1 ⊢
    have HO1 := Lib.hid ho1
    have HB1 := Lib.hid hb1
    clear ho1 hb1
    go_wp2_with (first | (refine wpList_load_row rfl 95 (.tmp 3) rfl (w.heap.size + 1 + 1) rfl _ _ _ _ hput Tryd.underlying95 rfl (by kernel_rfl) ?_) | (refine wpList_store_row rfl 95 (.tmp 2) (.tmp 62) rfl (w.heap.size + 1) #[.slice none 0 0, .bool false, .int .i64 c1, .int .i64 c2, .int .i64 c3] rfl rfl _ _ hres1 (by kernel_rfl) rfl (by simp [Value.oneCell']) ?_))
    exact read_ends (L := []) hrd HO1.out HB1.out hres1 rfl rfl rfl
  | true =>
    have hrd : readL [] true (c1, c2, c3) = ([], true, (0, 0, 0)) := rfl
    have p0 : wr.cell? ⟨w.heap.size + 1 + 1, 1, none⟩ = some (.bool false) := by rw [cell_of_row _ _ _ _ _ _ hrow]; rfl
    have z0 : wr.frozen? ⟨w.heap.size + 1 + 1, 1, none⟩ = false := by simp [World.frozen?, hrow]
    have hput := put_all hrow
    have hpb : Below (w.heap.size + 2) wr (wr.setCell ⟨w.heap.size + 2, 1, none⟩ (.bool true)) := Below.setCell (B := w.heap.size + 2) (p := ⟨w.heap.size + 2, 1, none⟩) (Below.refl _ _) (Nat.le_refl _) _
    have hoth := fun k (hk : k ≠ w.heap.size + 2) => Below.heap_setCell wr ⟨w.heap.size + 2, 1, none⟩ (.bool true) k hk
    go_upto_region 16 with fail
    have hres1 := (hoth (w.heap.size + 1) (by omega)).trans hres
    have hb1 := HBL.out.trans (hpb.mono (by omega))
    have ho1 := HO.out.heap_kept (W' := wr.setCell ⟨w.heap.size + 2, 1, none⟩ (.bool true)) (fun j hj => hoth j (by omega))
    change Code.wp _ _ _ _ (wr.setCell ⟨w.heap.size + 2, 1, none⟩ (.bool true))
    clear hpb hoth hrow hres p0 z0 b0 b1
    generalize wr.setCell ⟨w.heap.size + 2, 1, none⟩ (.bool true) = W1 at hput hres1 hb1 ho1 ⊢
    have HO1 := Lib.hid ho1
    have HB1 := Lib.hid hb1
    clear ho1 hb1
    go_wp2_with (first | (refine wpList_load_row rfl 95 (.tmp 3) rfl (w.heap.size + 1 + 1) rfl _ _ _ _ hput Tryd.underlying95 rfl (by kernel_rfl) ?_) | (refine wpList_store_row rfl 95 (.tmp 2) (.tmp 58) rfl (w.heap.size + 1) #[.slice none 0 0, .bool true, .int .i64 0, .int .i64 0, .int .i64 0] rfl rfl _ _ hres1 (by kernel_rfl) rfl (by simp [Value.oneCell']) ?_))
    exact read_ends (L := []) hrd HO1.out HB1.out hres1 rfl rfl rfl

theorem lines_any {p : Nat → Prop} (bv : Value) (bs : List UInt8) (ended : Bool) (c1 c2 c3 : Int) (w : World) (hB : IsBytes p w bv bs) (hsz : bs.length ≤ 2000000) :
    Calls Tryd.prog 35 #[.agg #[bv, .bool ended, .int .i64 c1, .int .i64 c2, .int .i64 c3]] w (ReadEnd w bs ended (c1, c2, c3)) := by
  obtain ⟨a, cap, rfl, hcap, hc⟩ := hB
  by_cases h0 : bs = []
  · subst h0
    exact lines_empty a cap ended c1 c2 c3 w
  · obtain ⟨x, r, rfl⟩ := List.exists_cons_of_ne_nil h0
    obtain ⟨gb, off, rfl, -, -⟩ := hc 0 x rfl
    refine lines_some gb off cap (x :: r) ended c1 c2 c3 w (fun j c hj => ?_) hcap hsz
    obtain ⟨_, _, e, -, h⟩ := hc j c hj
    cases e
    exact h

end Go.Proofs.YteghdepedlaneaaDoor
