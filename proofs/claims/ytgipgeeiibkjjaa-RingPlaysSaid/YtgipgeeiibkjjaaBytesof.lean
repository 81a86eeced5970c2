/- What Bytes does, of every ring that may be: the sum of the chunks' lengths. -/
import Derived.Test.YtgipgeeiibkjjaaRefs
namespace Go.Proofs.Ytgipgeeiibkjjaa
open Go.RowKit Go.Shelf
attribute [local go_sem] Oper.semAt_some

set_option maxRecDepth 100000 in
set_option maxHeartbeats 1000000 in
theorem bytes_any (c : Nat) (L : Chunks) (w : World) (hG : Good c L) :
    Calls Try.prog 21 #[.agg (ringA c L)] w fun e w' => e = .returned (.int .i64 (sizeOfL L)) ∧ Below w.heap.size w w' := by
  refine (callsIn_wide (n := 3)).1 ?_
  have hsz := size_ringA hG
  refine callsIn_of_wp_marks Try.func21 rfl trivial ?_ rfl
  simp only [Try.ntmps21, List.size_toArray, List.length_cons, List.length_nil, Nat.reduceAdd, Nat.reduceSub, Array.replicate_succ, Array.replicate_zero, List.push_toArray, List.append_toArray, List.nil_append, List.cons_append]
  have E2 := Lib.hid (heap_alloc2_old w (.cells (ringA c L) 30) (.cells #[.int .i64 0] 3))
  gi_wp2_with ((with_reducible refine wpListIn_load_row rfl 30 (.tmp 1) rfl w.heap.size rfl 30 (ringA c L) (0, 0) _ E2.out Try.underlying30 rfl (by rw [Try.size30, hsz]) ?_))
  refine ⟨trivial, (callsIn_wide.2 (all_any c L _)).mono ?_⟩
  rintro e w' ⟨rfl, rfl⟩
  gi_wp2_with fail
  obtain ⟨W0, hW0⟩ : ∃ W0, W0 = (((w.alloc (.cells (ringA c L) 30)).alloc (.cells #[.int .i64 0] 3)).alloc (.cells (ringA c L) 30)) := ⟨_, rfl⟩
  have hs0 : W0.heap.size = w.heap.size + 3 := by rw [hW0]; simp
  have hbx : Boxed W0 (w.heap.size + 1) 3 (.int .i64 0) := by
    rw [hW0]
    refine Boxed.alloc ?_ _
    have := Boxed.new (w.alloc (.cells (ringA c L) 30)) 3 (.int .i64 0)
    rwa [World.size_alloc] at this
  have hrg : W0.heap[w.heap.size + 1 + 1]? = some (.cells (ringA c L) 30 (0, 0)) := by rw [hW0]; exact heap_at (by simp)
  have hbl : Below w.heap.size w W0 := by
    rw [hW0]
    exact (((Below.refl _ _).alloc (Nat.le_refl _) _).alloc (by simp) _).alloc (by simp; omega) _
  rw [← hW0]
  clear E2 hW0
  refine range_ring hG (Br := w.heap.size + 1 + 1) rfl rfl
    (fun k W => Boxed W (w.heap.size + 1) 3 (.int .i64 (sizeOfL (L.take k))) ∧ W.heap[w.heap.size + 1 + 1]? = some (.cells (ringA c L) 30 (0, 0)) ∧ Below w.heap.size w W)
    (fun _ _ => False) (fun k => (stays_block _ _ _ _ _).and ((stays_block _ _ _ _ _).and (stays_below _ _ _ (by omega) (Nat.le_refl _)))) (fun _ => stays_pure _ _)
    ⟨hbx, hrg, hbl⟩ (fun k W h => h.2.1)
    (fun k v => { tmps := #[Value.agg (ringA c L), Value.pointer (some { block := w.heap.size, off := 0 }), Value.int IntKind.i64 0, Value.pointer (some { block := w.heap.size + 1, off := 0 }), undef, v, Value.agg (ringA c L),
          Value.func (Fn.func 28) #[] #[Value.pointer (some { block := w.heap.size + 1 + 1, off := 0 })], .int .i64 k, v, undef, undef, undef, undef, undef], defers := [] }) ?assign ?body ?done ?stop
  case assign =>
    intro l k v W K hK
    gi_wp2
    exact hK
  case body =>
    rintro l k b v W hk ⟨hv, hrg1, hB⟩ ho
    have hkL : k < L.length := (List.getElem?_eq_some_iff.1 hk).1
    have hl8 : L.length ≤ 8 := Nat.le_trans hG.len hG.cap
    have hb1 := (hG.each b (List.mem_of_getElem? hk)).1
    have hb32 := hG.le b (List.mem_of_getElem? hk)
    have hle := sizeOfL_le hG.le k (by omega)
    obtain ⟨g, cap, rfl, _⟩ := owns_cells ho hb1
    obtain ⟨T, hT⟩ : ∃ T, T = sizeOfL (L.take k) := ⟨_, rfl⟩
    have hs := sizeOfL_take hk
    rw [← hT] at hs hle hv
    have hc := hv.cell
    have hf := hv.frozen
    have HS := Lib.hid hs
    have HV := Lib.hid hv
    have HR := Lib.hid hrg1
    clear hs hT hk ho hv hrg1 hbx hrg
    gi_wp2
    refine ⟨(KeepsOthers.setCell _ _ _).from _, ?_, ?_, hB.setCell (p := ⟨w.heap.size + 1, 0, none⟩) (Nat.le_succ _) _⟩
    · rw [HS.out]
      have := HV.out.set (.int .i64 ((T : Int) + (b.length : Int)))
      simpa using this
    · rw [Below.heap_setCell _ _ _ _ (by simp)]
      exact HR.out
  case done =>
    rintro D W hD ⟨hv, _, hB⟩ hK
    have hc := hv.cell
    gi_wp2
    refine ⟨by simp, .inl ⟨_, _, rfl, run_takeDeferred hK, ?_⟩⟩
    exact ⟨_, results_tmp rfl _ _ _, by simp, hB.trans (belowK_b (w := w) (Nat.le_refl _) W D _ _ (by omega) hK rfl rfl)⟩
  case stop =>
    rintro D x W _ h _
    exact h.elim

end Go.Proofs.Ytgipgeeiibkjjaa
