/- What New does, of every capacity. No conditions but that the number is an int. -/
import Derived.Test.YtgipgeeiibkjjaaModel
namespace Go.Proofs.Ytgipgeeiibkjjaa
open Go.RowKit

/-- A whole value into the block that was made last. -/
theorem wpList_store_last {P : Program} {ops : Array Oper} {rest : List Oper} {o : Oper} {a : Act} {w : World} {Q : Exit → Act → World → Prop} (hgd : o.guard = none) (ty : TypeId) (x y : Operand) (ho : o.op = .store ty x y)
    (cells old : Array Value) (t : TypeId) (hx : a.eval x = .pointer (some ⟨w.heap.size, 0, none⟩)) (hy : a.eval y = .agg cells)
    (n : Nat) (hi : (P.info? ty).map (·.size) = some n) (hc : cells.size = n) (hold : old.size = n) (h1 : cells.all (·.oneCell') = true)
    (h : wpList P ops Q rest (a.put o.dst undef) (w.alloc (.cells cells t))) : wpList P ops Q (o :: rest) a (w.alloc (.cells old t)) := by
  refine wpList_store_row hgd ty x y ho w.heap.size cells hx hy t old (heap_alloc_last w _) (by rw [hi, hc]) (by rw [hold, hc]) h1 ?_
  rw [World.setRow_alloc_new]
  exact h

/-- A function that answers a ring, out of a block of its own, and a number. -/
theorem ret_ring {fn : Func} {p u : Tmp} (hr : fn.results = #[.cell p 30, .tmp u]) {a : Act} {w : World} {R : Ending → World → Prop} {B : Nat} {cs : Array Value} {t : TypeId} {fr : Nat × Nat}
    (hd : a.defers = []) (hp : a.tmps.getD p undef = .pointer (some ⟨B, 0, none⟩)) (hg : w.heap[B]? = some (.cells cs t fr)) (hs : cs.size = 266)
    (h : R (.returned (.tuple #[.agg cs, a.tmps.getD u undef])) w) : bodyPost Try.prog fn R .ret a w := by
  refine bodyPost_ret (v := .tuple #[.agg cs, a.tmps.getD u undef]) ?_ hd h
  rw [results_cell_tmp hr, hp]
  simp only [asAddr, Sem.run_pure, Result.andThen_ok]
  rw [run_loadVar_row w B t 30 cs fr _ hg Try.underlying30 rfl (by rw [Try.size30, hs])]
  rfl

set_option maxRecDepth 100000 in
set_option maxHeartbeats 400000 in
theorem new_ok (c : Nat) (w : World) (h1 : 1 ≤ c) (h8 : c ≤ 8) :
    Calls Try.prog 8 #[.int .i64 c] w fun e w' => e = .returned (.tuple #[.agg (ringA c []), .int .i64 0]) ∧ w' = w.alloc (.cells (ringA c []) 30) := by
  have hz := Try.zero30
  have hb := fun W => run_build (P := Try.prog) W 30 #[(0, .int .i64 c)] _ (Try.built30 c)
  have g1 : ¬ ((c : Int) < 1) := by omega
  have g2 : ¬ ((8 : Int) < c) := by omega
  go_enter Try.func8, Try.ntmps8
  go_wp2_with (with_reducible refine wpList_store_last rfl 30 (.tmp 2) (.tmp 12) rfl (ringA c []) (ringA 0 []) 30 rfl rfl 266 Try.size30 (size_ringA (good_empty h8)) (size_ringA (good_empty (Nat.zero_le _))) (one_ringA _ _) ?_)
  exact ret_ring rfl rfl rfl (heap_alloc_last w _) (size_ringA (good_empty h8)) ⟨rfl, rfl⟩

set_option maxRecDepth 100000 in
set_option maxHeartbeats 400000 in
theorem new_no (c : Int) (w : World) (h : c < 1 ∨ 8 < c) :
    Calls Try.prog 8 #[.int .i64 c] w fun e w' => e = .returned (.tuple #[.agg (ringA 0 []), .int .i64 16]) ∧ w' = w.alloc (.cells (ringA 0 []) 30) := by
  have hz := Try.zero30
  have hb := fun W => run_build (P := Try.prog) W 30 #[] _ Try.built30_zero
  by_cases g1 : c < 1
  · go_enter Try.func8, Try.ntmps8
    go_wp2_with (with_reducible refine wpList_store_last rfl 30 (.tmp 2) (.tmp 10) rfl (ringA 0 []) (ringA 0 []) 30 rfl rfl 266 Try.size30 (size_ringA (good_empty (Nat.zero_le _))) (size_ringA (good_empty (Nat.zero_le _))) (one_ringA _ _) ?_)
    exact ret_ring rfl rfl rfl (heap_alloc_last w _) (size_ringA (good_empty (Nat.zero_le _))) ⟨rfl, rfl⟩
  · have g2 : 8 < c := by omega
    clear h
    go_enter Try.func8, Try.ntmps8
    go_wp2_with (with_reducible refine wpList_store_last rfl 30 (.tmp 2) (.tmp 10) rfl (ringA 0 []) (ringA 0 []) 30 rfl rfl 266 Try.size30 (size_ringA (good_empty (Nat.zero_le _))) (size_ringA (good_empty (Nat.zero_le _))) (one_ringA _ _) ?_)
    exact ret_ring rfl rfl rfl (heap_alloc_last w _) (size_ringA (good_empty (Nat.zero_le _))) ⟨rfl, rfl⟩

end Go.Proofs.Ytgipgeeiibkjjaa
