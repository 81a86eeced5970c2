/- What after does: it answers a ring that may be. -/
import Derived.Test.YtgipgeeiibkjjaaFew
namespace Go.Proofs.Ytgipgeeiibkjjaa
open Go.RowKit

def SomeRing (w : World) (e : Ending) (w' : World) : Prop := ∃ c L, e = .returned (.agg (ringA c L)) ∧ Good c L ∧ Below w.heap.size w w'

theorem Good.grown {c : Nat} {L : Chunks} (h : Good c L) : Good (if c = 0 then c else if c = 8 then c else c + 1) L := by
  by_cases h0 : c = 0
  · rw [if_pos h0]; exact h
  · rw [if_neg h0]
    by_cases h8 : c = 8
    · rw [if_pos h8]; exact h
    · rw [if_neg h8]; exact h.grow (by have := h.cap; omega)

/-- Where a call has answered a ring: it is laid into a variable, and from there into the result. -/
theorem third_block {w w1 : World} {o1 o2 o3 : Obj} (hb : Below (w.heap.size + 3) (((w.alloc o1).alloc o2).alloc o3) w1) : w1.heap[w.heap.size + 2]? = some o3 ∧ Below w.heap.size w w1 ∧ w.heap.size + 3 ≤ w1.heap.size := by
  refine ⟨(hb.block _ (by omega)).trans (heap_at (by simp)), ?_, ?_⟩
  · exact ((((Below.refl _ _).alloc (Nat.le_refl _) _).alloc (by simp) _).alloc (by simp; omega) _).trans (hb.mono (by omega))
  · have := hb.size
    simp at this
    omega

theorem grow_some (c : Nat) (L : Chunks) (w : World) (hG : Good c L) :
    Calls Try.prog 14 #[.agg (ringA c L)] w fun e w' => ∃ d k, e = .returned (.tuple #[.agg (ringA d L), .int .i64 k]) ∧ Good d L ∧ Below w.heap.size w w' :=
  (grow_any c L w hG).mono fun _ _ ⟨he, hb⟩ => ⟨_, _, he, hG.grown, hb⟩

theorem pop_some (c : Nat) (L : Chunks) (w : World) (hG : Good c L) :
    Calls Try.prog 13 #[.agg (ringA c L)] w fun e w' => ∃ M v k, e = .returned (.tuple #[.agg (ringA c M), v, .int .i64 k]) ∧ Good c M ∧ Below w.heap.size w w' := by
  refine (pop_any c L w hG).mono ?_
  rintro e w' (⟨rfl, rfl, hb⟩ | ⟨b, M, rfl, v, rfl, _, hb⟩)
  · exact ⟨[], _, _, rfl, hG, hb⟩
  · exact ⟨M, v, _, rfl, hG.tail, hb⟩

set_option maxRecDepth 100000 in
set_option maxHeartbeats 800000 in
theorem after_push (c : Nat) (L : Chunks) (bv : Value) (bs : List UInt8) (w : World) (hG : Good c L) (hB : IsBytes w bv bs) :
    Calls Try.prog 19 #[.agg (ringA c L), .agg #[.int .i64 0, bv]] w (SomeRing w) := by
  have hz := Try.zero30
  have hB3 : ∀ o1 o2 o3, IsBytes (((w.alloc o1).alloc o2).alloc o3) bv bs := fun o1 o2 o3 => hB.below ((((Below.refl _ _).alloc (Nat.le_refl _) _).alloc (by simp) _).alloc (by simp; omega) _)
  obtain ⟨a, cap, rfl, _⟩ := hB
  have HB := Lib.hid hB3
  clear hB3
  go_enter Try.func19, Try.ntmps19
  go_wp2_with ((with_reducible refine wpList_load_row rfl 30 (.tmp 2) rfl w.heap.size rfl 30 (ringA c L) (0, 0) _ (heap_first3 w _ _ _) Try.underlying30 rfl (by rw [Try.size30, size_ringA hG]) ?_))
  refine (push_any c L _ bs _ hG (HB.out _ _ _)).mono ?_
  rintro e w1 ⟨rfl, hb⟩
  simp only [World.size_alloc] at hb
  obtain ⟨h3, hbel, hsz⟩ := third_block hb
  have H3 := Lib.hid h3
  have hgood := hG.pushed bs
  obtain ⟨R, hR⟩ : ∃ R, R = ringA c (pushL c L bs) := ⟨_, rfl⟩
  have hRs : R.size = 266 := by rw [hR]; exact size_ringA hgood
  have hR1 : R.all (·.oneCell') = true := by rw [hR]; exact one_ringA _ _
  rw [← hR]
  have HR := Lib.hid hR
  clear h3 hR hb
  go_wp2_with (first
    | (with_reducible refine wpList_store_last rfl 30 (.tmp 5) (.tmp 21) rfl R (ringA 0 []) 30 rfl rfl 266 Try.size30 hRs size_zero hR1 ?_)
    | (with_reducible refine wpList_load_row rfl 30 (.tmp 5) rfl w1.heap.size rfl 30 R (0, 0) _ (heap_alloc_last w1 _) Try.underlying30 rfl (by rw [Try.size30, hRs]) ?_)
    | (with_reducible refine wpList_store_row rfl 30 (.tmp 4) (.tmp 23) rfl (w.heap.size + 1 + 1) R rfl rfl 30 (ringA 0 []) ((Below.heap_alloc _ _ _ (by omega)).trans H3.out) (by rw [Try.size30, hRs]) (by rw [size_zero, hRs]) hR1 ?_))
  refine ret_ring1 rfl rfl rfl (setRow_heap _ _ _ _ 30 _ ((Below.heap_alloc _ _ _ (by omega)).trans H3.out)) hRs ⟨_, _, by rw [HR.out], hgood, ?_⟩
  exact below_setRow (hbel.alloc (by omega) _) (by omega) _

set_option maxRecDepth 100000 in
set_option maxHeartbeats 800000 in
theorem after_pop (c : Nat) (L : Chunks) (bv : Value) (w : World) (hG : Good c L) :
    Calls Try.prog 19 #[.agg (ringA c L), .agg #[.int .i64 1, bv]] w (SomeRing w) := by
  have hz := Try.zero30
  go_enter Try.func19, Try.ntmps19
  go_wp2_with ((with_reducible refine wpList_load_row rfl 30 (.tmp 2) rfl w.heap.size rfl 30 (ringA c L) (0, 0) _ (heap_first3 w _ _ _) Try.underlying30 rfl (by rw [Try.size30, size_ringA hG]) ?_))
  refine (pop_some c L _ hG).mono ?_
  rintro e w1 ⟨M, v, k, rfl, hM, hb⟩
  simp only [World.size_alloc] at hb
  obtain ⟨h3, hbel, hsz⟩ := third_block hb
  have H3 := Lib.hid h3
  have hgood := hM
  obtain ⟨R, hR⟩ : ∃ R, R = ringA c M := ⟨_, rfl⟩
  have hRs : R.size = 266 := by rw [hR]; exact size_ringA hgood
  have hR1 : R.all (·.oneCell') = true := by rw [hR]; exact one_ringA _ _
  rw [← hR]
  have HR := Lib.hid hR
  clear h3 hR hb
  go_wp2_with (first
    | (with_reducible refine wpList_store_last rfl 30 (.tmp 7) (.tmp 29) rfl R (ringA 0 []) 30 rfl rfl 266 Try.size30 hRs size_zero hR1 ?_)
    | (with_reducible refine wpList_load_row rfl 30 (.tmp 7) rfl w1.heap.size rfl 30 R (0, 0) _ (heap_alloc_last w1 _) Try.underlying30 rfl (by rw [Try.size30, hRs]) ?_)
    | (with_reducible refine wpList_store_row rfl 30 (.tmp 4) (.tmp 32) rfl (w.heap.size + 1 + 1) R rfl rfl 30 (ringA 0 []) ((Below.heap_alloc _ _ _ (by omega)).trans H3.out) (by rw [Try.size30, hRs]) (by rw [size_zero, hRs]) hR1 ?_))
  refine ret_ring1 rfl rfl rfl (setRow_heap _ _ _ _ 30 _ ((Below.heap_alloc _ _ _ (by omega)).trans H3.out)) hRs ⟨_, _, by rw [HR.out], hgood, ?_⟩
  exact below_setRow (hbel.alloc (by omega) _) (by omega) _

set_option maxRecDepth 100000 in
set_option maxHeartbeats 800000 in
theorem after_grow (c : Nat) (L : Chunks) (bv : Value) (w : World) (hG : Good c L) :
    Calls Try.prog 19 #[.agg (ringA c L), .agg #[.int .i64 2, bv]] w (SomeRing w) := by
  have hz := Try.zero30
  go_enter Try.func19, Try.ntmps19
  go_wp2_with ((with_reducible refine wpList_load_row rfl 30 (.tmp 2) rfl w.heap.size rfl 30 (ringA c L) (0, 0) _ (heap_first3 w _ _ _) Try.underlying30 rfl (by rw [Try.size30, size_ringA hG]) ?_))
  refine (grow_some c L _ hG).mono ?_
  rintro e w1 ⟨d, k, rfl, hd, hb⟩
  simp only [World.size_alloc] at hb
  obtain ⟨h3, hbel, hsz⟩ := third_block hb
  have H3 := Lib.hid h3
  have hgood := hd
  obtain ⟨R, hR⟩ : ∃ R, R = ringA d L := ⟨_, rfl⟩
  have hRs : R.size = 266 := by rw [hR]; exact size_ringA hgood
  have hR1 : R.all (·.oneCell') = true := by rw [hR]; exact one_ringA _ _
  rw [← hR]
  have HR := Lib.hid hR
  clear h3 hR hb
  go_wp2_with (first
    | (with_reducible refine wpList_store_last rfl 30 (.tmp 10) (.tmp 38) rfl R (ringA 0 []) 30 rfl rfl 266 Try.size30 hRs size_zero hR1 ?_)
    | (with_reducible refine wpList_load_row rfl 30 (.tmp 10) rfl w1.heap.size rfl 30 R (0, 0) _ (heap_alloc_last w1 _) Try.underlying30 rfl (by rw [Try.size30, hRs]) ?_)
    | (with_reducible refine wpList_store_row rfl 30 (.tmp 4) (.tmp 40) rfl (w.heap.size + 1 + 1) R rfl rfl 30 (ringA 0 []) ((Below.heap_alloc _ _ _ (by omega)).trans H3.out) (by rw [Try.size30, hRs]) (by rw [size_zero, hRs]) hR1 ?_))
  refine ret_ring1 rfl rfl rfl (setRow_heap _ _ _ _ 30 _ ((Below.heap_alloc _ _ _ (by omega)).trans H3.out)) hRs ⟨_, _, by rw [HR.out], hgood, ?_⟩
  exact below_setRow (hbel.alloc (by omega) _) (by omega) _

set_option maxRecDepth 100000 in
set_option maxHeartbeats 800000 in
theorem after_clear (c : Nat) (L : Chunks) (bv : Value) (w : World) (hG : Good c L) :
    Calls Try.prog 19 #[.agg (ringA c L), .agg #[.int .i64 3, bv]] w (SomeRing w) := by
  have hz := Try.zero30
  go_enter Try.func19, Try.ntmps19
  go_wp2_with ((with_reducible refine wpList_load_row rfl 30 (.tmp 2) rfl w.heap.size rfl 30 (ringA c L) (0, 0) _ (heap_first3 w _ _ _) Try.underlying30 rfl (by rw [Try.size30, size_ringA hG]) ?_))
  refine (clear_any c L _ hG).mono ?_
  rintro e w1 ⟨rfl, hb⟩
  simp only [World.size_alloc] at hb
  obtain ⟨h3, hbel, hsz⟩ := third_block hb
  have H3 := Lib.hid h3
  have hRs := size_ringA hG.clear
  clear h3 hb
  go_wp2_with ((with_reducible refine wpList_store_row rfl 30 (.tmp 4) (.tmp 44) rfl (w.heap.size + 1 + 1) (ringA c []) rfl rfl 30 (ringA 0 []) H3.out (by rw [Try.size30, hRs]) (by rw [size_zero, hRs]) (one_ringA _ _) ?_))
  exact ret_ring1 rfl rfl rfl (setRow_heap _ _ _ _ 30 _ H3.out) hRs ⟨_, _, rfl, hG.clear, below_setRow hbel (by omega) _⟩

set_option maxRecDepth 100000 in
set_option maxHeartbeats 800000 in
theorem after_else (c : Nat) (L : Chunks) (bv : Value) (q : Int) (w : World) (hG : Good c L) (h0 : q ≠ 0) (h1 : q ≠ 1) (h2 : q ≠ 2) (h3 : q ≠ 3) :
    Calls Try.prog 19 #[.agg (ringA c L), .agg #[.int .i64 q, bv]] w (SomeRing w) := by
  have hz := Try.zero30
  have t0 : (q == 0) = false := by simp [h0]
  have t1 : (q == 1) = false := by simp [h1]
  have t2 : (q == 2) = false := by simp [h2]
  have t3 : (q == 3) = false := by simp [h3]
  have hRs := size_ringA hG
  clear h0 h1 h2 h3
  go_enter Try.func19, Try.ntmps19
  go_wp2_with (first
    | (with_reducible refine wpList_load_row rfl 30 (.tmp 2) rfl w.heap.size rfl 30 (ringA c L) (0, 0) _ (heap_first3 w _ _ _) Try.underlying30 rfl (by rw [Try.size30, size_ringA hG]) ?_)
    | (with_reducible refine wpList_store_row rfl 30 (.tmp 4) (.tmp 45) rfl (w.heap.size + 1 + 1) (ringA c L) rfl rfl 30 (ringA 0 []) (heap_at (by simp)) (by rw [Try.size30, hRs]) (by rw [size_zero, hRs]) (one_ringA _ _) ?_))
  exact ret_ring1 rfl rfl rfl (setRow_heap _ _ _ _ 30 _ (heap_at (by simp))) hRs ⟨_, _, rfl, hG, below_setRow ((((Below.refl _ _).alloc (Nat.le_refl _) _).alloc (by simp) _).alloc (by simp; omega) _) (by omega) _⟩

/-- THE CONTRACT. -/
theorem after_any (c : Nat) (L : Chunks) (q : Int) (bv : Value) (bs : List UInt8) (w : World) (hG : Good c L) (hB : IsBytes w bv bs) :
    Calls Try.prog 19 #[.agg (ringA c L), .agg #[.int .i64 q, bv]] w (SomeRing w) := by
  by_cases h0 : q = 0
  · subst h0; exact after_push c L bv bs w hG hB
  by_cases h1 : q = 1
  · subst h1; exact after_pop c L bv w hG
  by_cases h2 : q = 2
  · subst h2; exact after_grow c L bv w hG
  by_cases h3 : q = 3
  · subst h3; exact after_clear c L bv w hG
  exact after_else c L bv q w hG h0 h1 h2 h3

end Go.Proofs.Ytgipgeeiibkjjaa
