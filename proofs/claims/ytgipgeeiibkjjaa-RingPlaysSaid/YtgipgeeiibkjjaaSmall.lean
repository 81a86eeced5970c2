/- What Grow, Clear, Len and Cap do, of every ring that may be. -/
import Derived.Test.YtgipgeeiibkjjaaNew
namespace Go.Proofs.Ytgipgeeiibkjjaa
open Go.RowKit

/-- A whole value into the block that was made last, its number typed out. -/
theorem wpList_store_at {P : Program} {ops : Array Oper} {rest : List Oper} {o : Oper} {a : Act} {w : World} {Q : Exit → Act → World → Prop} (hgd : o.guard = none) (ty : TypeId) (x y : Operand) (ho : o.op = .store ty x y)
    (cells old : Array Value) (t : TypeId) (g : Nat) (hw : w.heap.size = g) (hx : a.eval x = .pointer (some ⟨g, 0, none⟩)) (hy : a.eval y = .agg cells)
    (n : Nat) (hi : (P.info? ty).map (·.size) = some n) (hc : cells.size = n) (hold : old.size = n) (h1 : cells.all (·.oneCell') = true)
    (h : wpList P ops Q rest (a.put o.dst undef) (w.alloc (.cells cells t))) : wpList P ops Q (o :: rest) a (w.alloc (.cells old t)) := by
  subst hw
  exact wpList_store_last hgd ty x y ho cells old t hx hy n hi hc hold h1 h

theorem ringA_0 (c : Nat) (L : Chunks) : (ringA c L)[0]? = some (.int .i64 c) := by simp [ringA, ringL]
theorem ringA_1 (c : Nat) (L : Chunks) : (ringA c L)[1]? = some (.int .i64 L.length) := by simp [ringA, ringL]
theorem ringA_set0 (c : Nat) (L : Chunks) : (ringA c L).setIfInBounds 0 (.int .i64 ((c : Int) + 1)) = ringA (c + 1) L := by simp [ringA, ringL]
theorem Good.grow {c : Nat} {L : Chunks} (h : Good c L) (h8 : c < 8) : Good (c + 1) L := ⟨h8, Nat.le_succ_of_le h.len, h.each⟩
theorem Good.clear {c : Nat} {L : Chunks} (h : Good c L) : Good c [] := good_empty h.cap
theorem size_zero : (ringA 0 []).size = 266 := size_ringA (good_empty (Nat.zero_le _))

set_option maxRecDepth 100000 in
set_option maxHeartbeats 400000 in
theorem len_any (c : Nat) (L : Chunks) (w : World) :
    Calls Try.prog 17 #[.agg (ringA c L)] w fun e w' => e = .returned (.int .i64 L.length) ∧ w' = w.alloc (.cells (ringA c L) 30) := by
  have h1 := ringA_1 c L
  go_enter Try.func17, Try.ntmps17
  go_wp2
  go_ret
  exact ⟨rfl, rfl⟩

set_option maxRecDepth 100000 in
set_option maxHeartbeats 400000 in
theorem cap_any (c : Nat) (L : Chunks) (w : World) :
    Calls Try.prog 18 #[.agg (ringA c L)] w fun e w' => e = .returned (.int .i64 c) ∧ w' = w.alloc (.cells (ringA c L) 30) := by
  have h1 := ringA_0 c L
  go_enter Try.func18, Try.ntmps18
  go_wp2
  go_ret
  exact ⟨rfl, rfl⟩

theorem ret_ring1 {fn : Func} {p : Tmp} (hr : fn.results = #[.cell p 30]) {a : Act} {w : World} {R : Ending → World → Prop} {B : Nat} {cs : Array Value} {t : TypeId} {fr : Nat × Nat}
    (hd : a.defers = []) (hp : a.tmps.getD p undef = .pointer (some ⟨B, 0, none⟩)) (hg : w.heap[B]? = some (.cells cs t fr)) (hs : cs.size = 266)
    (h : R (.returned (.agg cs)) w) : bodyPost Try.prog fn R .ret a w :=
  bodyPost_ret (results_cell_row hr _ w B t cs fr _ hp hg Try.underlying30 rfl (by rw [Try.size30, hs])) hd h

set_option maxRecDepth 100000 in
set_option maxHeartbeats 400000 in
theorem clear_any (c : Nat) (L : Chunks) (w : World) (hG : Good c L) :
    Calls Try.prog 26 #[.agg (ringA c L)] w fun e w' => e = .returned (.agg (ringA c [])) ∧ Below w.heap.size w w' := by
  have h1 := ringA_0 c L
  have hz := Try.zero30
  have hb := fun W => run_build (P := Try.prog) W 30 #[(0, .int .i64 c)] _ (Try.built30 c)
  go_enter Try.func26, Try.ntmps26
  go_wp2_with (with_reducible refine wpList_store_at rfl 30 (.tmp 2) (.tmp 5) rfl (ringA c []) (ringA 0 []) 30 (w.heap.size + 1) (by simp) rfl rfl 266 Try.size30 (size_ringA hG.clear) size_zero (one_ringA _ _) ?_)
  exact ret_ring1 rfl rfl rfl (heap_alloc2_new w _ _) (size_ringA hG.clear) ⟨rfl, ((Below.refl _ _).alloc (Nat.le_refl _) _).alloc (by simp) _⟩

set_option maxRecDepth 100000 in
set_option maxHeartbeats 800000 in
theorem grow_any (c : Nat) (L : Chunks) (w : World) (hG : Good c L) :
    Calls Try.prog 14 #[.agg (ringA c L)] w fun e w' =>
      e = .returned (.tuple #[.agg (ringA (if c = 0 then c else if c = 8 then c else c + 1) L), .int .i64 (if c = 0 then 1 else if c = 8 then 2 else 0)]) ∧ Below w.heap.size w w' := by
  have h1 := ringA_0 c L
  have hz := Try.zero30
  have h8 := hG.cap
  have hs := ringA_set0 c L
  by_cases c0 : c = 0
  · have t0 : ((c : Int) == 0) = true := by simp [c0]
    rw [if_pos c0, if_pos c0]
    clear c0
    go_enter Try.func14, Try.ntmps14
    go_wp2_with (first
      | (with_reducible refine wpList_load_row rfl 30 (.tmp 1) rfl w.heap.size rfl 30 (ringA c L) (0, 0) _ (heap_alloc2_old w _ _) Try.underlying30 rfl (by rw [Try.size30, size_ringA hG]) ?_)
      | (with_reducible refine wpList_store_at rfl 30 (.tmp 2) (.tmp 7) rfl (ringA c L) (ringA 0 []) 30 (w.heap.size + 1) (by simp) rfl rfl 266 Try.size30 (size_ringA hG) size_zero (one_ringA _ _) ?_))
    exact ret_ring rfl rfl rfl (heap_alloc2_new w _ _) (size_ringA hG) ⟨rfl, ((Below.refl _ _).alloc (Nat.le_refl _) _).alloc (by simp) _⟩
  · by_cases c8 : c = 8
    · have t0 : ((c : Int) == 0) = false := by simp [c8]
      have t8 : ((c : Int) == 8) = true := by simp [c8]
      rw [if_neg c0, if_neg c0, if_pos c8, if_pos c8]
      clear c0 c8
      go_enter Try.func14, Try.ntmps14
      go_wp2_with (first
        | (with_reducible refine wpList_load_row rfl 30 (.tmp 1) rfl w.heap.size rfl 30 (ringA c L) (0, 0) _ (heap_alloc2_old w _ _) Try.underlying30 rfl (by rw [Try.size30, size_ringA hG]) ?_)
        | (with_reducible refine wpList_store_at rfl 30 (.tmp 2) (.tmp 11) rfl (ringA c L) (ringA 0 []) 30 (w.heap.size + 1) (by simp) rfl rfl 266 Try.size30 (size_ringA hG) size_zero (one_ringA _ _) ?_))
      exact ret_ring rfl rfl rfl (heap_alloc2_new w _ _) (size_ringA hG) ⟨rfl, ((Below.refl _ _).alloc (Nat.le_refl _) _).alloc (by simp) _⟩
    · have t0 : ((c : Int) == 0) = false := by simp [c0]
      have t8 : ((c : Int) == 8) = false := by simp; omega
      have hG' := hG.grow (by omega)
      rw [if_neg c0, if_neg c0, if_neg c8, if_neg c8]
      clear c0 c8
      go_enter Try.func14, Try.ntmps14
      go_wp2_with (first
        | (with_reducible refine wpList_load_row rfl 30 (.tmp 1) rfl w.heap.size rfl 30 (ringA (c + 1) L) (0, 0) _ (heap_alloc2_old w _ _) Try.underlying30 rfl (by rw [Try.size30, size_ringA hG']) ?_)
        | (with_reducible refine wpList_store_at rfl 30 (.tmp 2) (.tmp 16) rfl (ringA (c + 1) L) (ringA 0 []) 30 (w.heap.size + 1) (by simp) rfl rfl 266 Try.size30 (size_ringA hG') size_zero (one_ringA _ _) ?_))
      exact ret_ring rfl rfl rfl (heap_alloc2_new w _ _) (size_ringA hG') ⟨rfl, ((Below.refl _ _).alloc (Nat.le_refl _) _).alloc (by simp) _⟩

end Go.Proofs.Ytgipgeeiibkjjaa
