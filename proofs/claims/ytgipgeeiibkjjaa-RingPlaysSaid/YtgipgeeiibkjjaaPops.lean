/- What Pop does: the walks. -/
import Derived.Test.YtgipgeeiibkjjaaPop
namespace Go.Proofs.Ytgipgeeiibkjjaa
open Go.RowKit

def Popped (w : World) (c : Nat) (b : List UInt8) (L : Chunks) (e : Ending) (w' : World) : Prop :=
  ∃ v, e = .returned (.tuple #[.agg (ringA c L), v, .int .i64 0]) ∧ w'.ownsRow w.heap.size 5 1 v b.length (bytesL b) ∧ Below w.heap.size w w'

theorem ret_ring3 {fn : Func} {p u x : Tmp} (hr : fn.results = #[.cell p 30, .tmp u, .tmp x]) {a : Act} {w : World} {R : Ending → World → Prop} {B : Nat} {cs : Array Value} {t : TypeId} {fr : Nat × Nat}
    (hd : a.defers = []) (hp : a.tmps.getD p undef = .pointer (some ⟨B, 0, none⟩)) (hg : w.heap[B]? = some (.cells cs t fr)) (hs : cs.size = 266)
    (h : R (.returned (.tuple #[.agg cs, a.tmps.getD u undef, a.tmps.getD x undef])) w) : bodyPost Try.prog fn R .ret a w := by
  refine bodyPost_ret (v := .tuple #[.agg cs, a.tmps.getD u undef, a.tmps.getD x undef]) ?_ hd h
  have hp' : a.tmps[p]?.getD undef = .pointer (some ⟨B, 0, none⟩) := by simpa using hp
  have hl := run_loadVar_row (P := Try.prog) w B t 30 cs fr _ hg Try.underlying30 rfl (by rw [Try.size30, hs])
  simp [results, hr, hp', asAddr, hl]

/-- A struct's zero value that is built, under a name of one's own. -/
theorem wpList_build0 {P : Program} {ops : Array Oper} {rest : List Oper} {o : Oper} {a : Act} {w : World} {Q : Exit → Act → World → Prop} (hgd : o.guard = none) (t : TypeId) (ho : o.op = .build t #[])
    (cells : Array Value) (hf : P.built t [] = some cells)
    (h : wpList P ops Q rest (a.put o.dst (.agg cells)) w) : wpList P ops Q (o :: rest) a w := by
  have hf' : P.built t ((#[] : Array (Nat × Operand)).map fun (i, x) => (i, a.eval x)).toList = some cells := by simpa using hf
  exact wpList_build hgd t _ ho (by rw [hf']; rfl) (by rw [hf']; exact h)

set_option maxRecDepth 100000 in
set_option maxHeartbeats 400000 in
theorem pop_no (c : Nat) (w : World) (hG : Good c []) :
    Calls Try.prog 13 #[.agg (ringA c [])] w fun e w' => e = .returned (.tuple #[.agg (ringA c []), .slice none 0 0, .int .i64 3]) ∧ Below w.heap.size w w' := by
  have r1 : (ringA c [])[1]? = some (.int .i64 0) := ringA_1 c []
  have hz := Try.zero30
  go_enter Try.func13, Try.ntmps13
  go_wp2_with (first
      | (with_reducible refine wpList_load_row rfl 30 (.tmp 1) rfl w.heap.size rfl 30 (ringA c []) (0, 0) _ (heap_alloc2_old w _ _) Try.underlying30 rfl (by rw [Try.size30, size_ringA hG]) ?_)
      | (with_reducible refine wpList_store_at rfl 30 (.tmp 2) (.tmp 9) rfl (ringA c []) (ringA 0 []) 30 (w.heap.size + 1) (by simp) rfl rfl 266 Try.size30 (size_ringA hG) size_zero (one_ringA _ _) ?_))
  exact ret_ring3 rfl rfl rfl (heap_alloc2_new w _ _) (size_ringA hG) ⟨rfl, ((Below.refl _ _).alloc (Nat.le_refl _) _).alloc (by simp) _⟩

set_option maxRecDepth 100000 in
set_option maxHeartbeats 800000 in
theorem pop_yes (c : Nat) (b : List UInt8) (L : Chunks) (w : World) (hG : Good c (b :: L)) :
    Calls Try.prog 13 #[.agg (ringA c (b :: L))] w (Popped w c b L) := by
  have r1 : (ringA c (b :: L))[1]? = some (.int .i64 ((L.length : Int) + 1)) := by rw [ringA_1]; simp
  have hz := Try.zero30
  have h8 := hG.cap
  have hlen := hG.len
  simp only [List.length_cons] at hlen
  have g0 : (((L.length : Int) + 1) == 0) = false := by simp; omega
  have g1 : (1 : Int) ≤ (L.length : Int) + 1 := by omega
  have g2 : (L.length : Int) + 1 ≤ 8 := by omega
  go_enter Try.func13, Try.ntmps13
  go_wp2_with ((with_reducible refine wpList_load_mid rfl 27 (.tmp 11) rfl w.heap.size 2 rfl (cellL b) _ ?hr Try.underlying27 rfl (by rw [Try.size27, length_cellL b hG.headLe.2]) ?_))
  case hr =>
    intro j v hv
    rw [cell_of_row _ _ _ _ _ _ (heap_alloc2_old w _ _)]
    exact ringA_first c j v hv
  refine (chunk_any b _ hG.headLe.2).mono ?_
  rintro e w3 ⟨v, rfl, ho, hb⟩
  simp only [World.size_alloc] at ho hb
  have hR : w3.heap[w.heap.size]? = some (.cells (ringA c (b :: L)) 30 (0, 0)) := (hb.block _ (by omega)).trans (heap_alloc2_old w _ _)
  have hZ : w3.heap[w.heap.size + 1]? = some (.cells (ringA 0 []) 30 (0, 0)) := (hb.block _ (by omega)).trans (heap_alloc2_new w _ _)
  have hB0 : Below w.heap.size w w3 := (((Below.refl _ _).alloc (Nat.le_refl _) _).alloc (by simp) _).trans (hb.mono (by omega))
  clear hb
  have hc1 : w3.cell? ⟨w.heap.size, 1, none⟩ = some (.int .i64 ((L.length : Int) + 1)) := by rw [cell_of_row _ _ _ _ _ _ hR]; exact r1
  have HR := Lib.hid hR
  have HZ := Lib.hid hZ
  have HO := Lib.hid ho
  have HB := Lib.hid hB0
  clear hR hZ ho hB0
  go_wp2_with fail
  go_still_tail 6, (by kernel_rfl)
  refine wpList_copy_block (w := w3.drew) rfl (.tmp 15) (.tmp 19) 64 64 rfl 27 Try.underlying64 33 Try.size27 w.heap.size 2 8 8 ⟨w.heap.size, 35, none⟩ L.length 7 ?d1 ?d2 (ringA c (b :: L)) (popR c (L.length + 1) b L) 30 HR.out (L.flatMap cellL) L.length ?d3 ?d4 ?d5 ?d6 ?d7 (popR_copy hG) ?_
  case d1 => rfl
  case d2 => rfl
  case d3 => exact Nat.min_eq_left (by omega)
  case d4 => rw [length_flat L hG.tail.le]; omega
  case d5 =>
    intro j v hv
    rw [Addr.add_mid]
    exact (cell_of_row w3 _ _ _ _ _ HR.out).trans (ringA_rest hG j v hv)
  case d6 => rw [size_ringA hG, length_flat L hG.tail.le]; omega
  case d7 => intro v hv; obtain ⟨x, _, hx⟩ := List.mem_flatMap.1 hv; exact one_cellL x v hx
  have hT : Turned w.heap.size w3 (w3.drew.setRow w.heap.size (popR c (L.length + 1) b L)) := (Turned.drew _ _).trans (Turned.row _ _ (.inl rfl))
  have hR4 := setRow_heap w3.drew w.heap.size _ (popR c (L.length + 1) b L) 30 _ HR.out
  have hZ4 : (w3.drew.setRow w.heap.size (popR c (L.length + 1) b L)).heap[w.heap.size + 1]? = _ := (setRow_other _ _ _ _ (by omega)).trans HZ.out
  generalize w3.drew.setRow w.heap.size (popR c (L.length + 1) b L) = w4 at hT hR4 hZ4 ⊢
  have hc4 : w4.cell? ⟨w.heap.size, 1, none⟩ = some (.int .i64 ((L.length : Int) + 1)) := by rw [cell_of_row _ _ _ _ _ _ hR4, popR_1]; rfl
  have hf4 := frozen_of_row w4 w.heap.size 1 _ _ hR4
  have HR4 := Lib.hid hR4
  have HZ4 := Lib.hid hZ4
  have HT := Lib.hid hT
  clear hR4 hZ4 hT hc1
  go_upto_region 6 with (fail)
  have hT5 : Turned w.heap.size w3 (w4.setCell ⟨w.heap.size, 1, none⟩ (.int .i64 L.length)) := HT.out.trans (Turned.cell _ _ (.inl rfl))
  have hR5 : (w4.setCell ⟨w.heap.size, 1, none⟩ (.int .i64 L.length)).heap[w.heap.size]? = some (.cells (popR c L.length b L) 30 (0, 0)) := by
    rw [heap_setCell_same w4 _ _ _ _ _ HR4.out, popR_set]
  have hZ5 : (w4.setCell ⟨w.heap.size, 1, none⟩ (.int .i64 L.length)).heap[w.heap.size + 1]? = _ := (Below.heap_setCell _ _ _ _ (by simp)).trans HZ4.out
  clear hc4 hf4 HT HR4 HZ4
  generalize w4.setCell ⟨w.heap.size, 1, none⟩ (.int .i64 L.length) = w5 at hT5 hR5 hZ5 ⊢
  have hc5 : w5.cell? ⟨w.heap.size, 1, none⟩ = some (.int .i64 L.length) := by rw [cell_of_row _ _ _ _ _ _ hR5, popR_1]
  have HR5 := Lib.hid hR5
  have HZ5 := Lib.hid hZ5
  have HT5 := Lib.hid hT5
  clear hR5 hZ5 hT5
  have g5 : (L.length : Int) < 8 := by omega
  have g6 : (0 : Int) ≤ (L.length : Int) := by omega
  go_wp2_with (first
    | (with_reducible refine wpList_build0 rfl 27 rfl (cellL []).toArray Try.built27_zero ?_)
    | (with_reducible refine wpList_store_block rfl 27 (.tmp 29) (.tmp 27) rfl w.heap.size (2 + L.length * 33) (cellL []).toArray (popR c L.length b L) (ringA c L) 30 HR5.out rfl rfl 33 Try.size27 (size_cellL [] (by simp)) (by rw [size_popR hG, size_cellL [] (by simp)]; omega) (all_oneCell_toArray (one_cellL [])) (popR_zero hG) ?_)
    | (with_reducible refine wpList_load_row rfl 30 (.tmp 1) rfl w.heap.size rfl 30 (ringA c L) (0, 0) _ (setRow_heap w5 _ _ _ 30 _ HR5.out) Try.underlying30 rfl (by rw [Try.size30, size_ringA hG.tail]) ?_)
    | (with_reducible refine wpList_store_row rfl 30 (.tmp 2) (.tmp 30) rfl (w.heap.size + 1) (ringA c L) rfl rfl 30 (ringA 0 []) ((setRow_other _ _ _ _ (by omega)).trans HZ5.out) (by rw [Try.size30, size_ringA hG.tail]) (by rw [size_zero, size_ringA hG.tail]) (one_ringA _ _) ?_))
  have hT6 := HT5.out.trans ((Turned.row w5 (ringA c L) (.inl rfl)).trans (Turned.row (B := w.heap.size) _ (g := w.heap.size + 1) (ringA c L) (.inr rfl)))
  refine ret_ring3 rfl rfl rfl (setRow_heap _ _ _ _ 30 _ ((setRow_other _ _ _ _ (by omega)).trans HZ5.out)) (size_ringA hG.tail) ⟨v, rfl, ownsRow_base (hT6.owns HO.out) (by omega), HB.out.trans hT6.below⟩

/-- THE CONTRACT. -/
theorem pop_any (c : Nat) (L : Chunks) (w : World) (hG : Good c L) :
    Calls Try.prog 13 #[.agg (ringA c L)] w fun e w' => (L = [] ∧ e = .returned (.tuple #[.agg (ringA c []), .slice none 0 0, .int .i64 3]) ∧ Below w.heap.size w w') ∨ ∃ b M, L = b :: M ∧ Popped w c b M e w' := by
  cases L with
  | nil => exact (pop_no c w hG).mono fun e w' h => .inl ⟨rfl, h⟩
  | cons b M => exact (pop_yes c b M w hG).mono fun e w' h => .inr ⟨b, M, rfl, h⟩

end Go.Proofs.Ytgipgeeiibkjjaa
