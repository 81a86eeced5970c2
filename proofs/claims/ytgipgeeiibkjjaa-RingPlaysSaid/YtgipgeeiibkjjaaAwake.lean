/- The chapter's first examples hold: awake answers true. -/
import Derived.Test.YtgipgeeiibkjjaaAfter
import Derived.Lib.SlBytesConst
namespace Go.Proofs.Ytgipgeeiibkjjaa
open Go.RowKit

theorem good2 : Good 2 [] := good_empty (by omega)
theorem good2a : Good 2 [[97]] := good2.push (b := [97]) (by simp) (by simp) (by simp)
theorem good2ab : Good 2 [[97], [98]] := good2a.push (b := [98]) (by simp) (by simp) (by simp)
theorem good2b : Good 2 [[98]] := good2ab.tail

/-- A slice of one byte that was just made. -/
theorem bytes_one (w : World) (x : UInt8) : IsBytes (w.alloc (.cells #[.int .u8 x.toNat] 5 (1, 2))) (.slice (some ⟨w.heap.size, 0, none⟩) 1 1) [x] := by
  refine ⟨_, 1, rfl, fun j c hj => ⟨_, rfl, ?_⟩⟩
  have hj0 : j = 0 := by
    have := (List.getElem?_eq_some_iff.1 hj).1
    simp at this
    exact this
  subst hj0
  simp at hj
  subst hj
  rw [Addr.add_mid, cell_of_row _ _ _ _ _ _ (heap_alloc_last w _)]
  rfl

theorem push_a (w : World) (v : Value) (h : IsBytes w v [97]) : Calls Try.prog 12 #[.agg (ringA 2 []), v] w fun e w' => e = .returned (.tuple #[.agg (ringA 2 [[97]]), .int .i64 0]) ∧ Below w.heap.size w w' := push_any 2 [] v [97] w good2 h
theorem push_b (w : World) (v : Value) (h : IsBytes w v [98]) : Calls Try.prog 12 #[.agg (ringA 2 [[97]]), v] w fun e w' => e = .returned (.tuple #[.agg (ringA 2 [[97], [98]]), .int .i64 0]) ∧ Below w.heap.size w w' := push_any 2 [[97]] v [98] w good2a h
theorem push_c (w : World) (v : Value) (h : IsBytes w v [99]) : Calls Try.prog 12 #[.agg (ringA 2 [[97], [98]]), v] w fun e w' => e = .returned (.tuple #[.agg (ringA 2 [[97], [98]]), .int .i64 2]) ∧ Below w.heap.size w w' := push_any 2 [[97], [98]] v [99] w good2ab h
theorem new_2 (w : World) : Calls Try.prog 8 #[.int .i64 2] w fun e w' => e = .returned (.tuple #[.agg (ringA 2 []), .int .i64 0]) ∧ w' = w.alloc (.cells (ringA 2 []) 30) := new_ok 2 w (by omega) (by omega)

/-- Across a call: the ring's variable, and what lay before. -/
theorem step_ring {w W w2 : World} {n Br : Nat} {o ob : Obj} (hR : W.heap[Br]? = some o) (hB : Below n w W) (hn : n ≤ Br) (hb : Below (W.alloc ob).heap.size (W.alloc ob) w2) : w2.heap[Br]? = some o ∧ Below n w w2 := by
  have hlt : Br < W.heap.size := (Array.getElem?_eq_some_iff.1 hR).1
  have h1 : Below W.heap.size W w2 := ((Below.refl _ _).alloc (Nat.le_refl _) _).trans (hb.mono (by simp))
  exact ⟨(h1.block _ hlt).trans hR, hB.trans (h1.mono (by omega))⟩

theorem step_ring0 {w W w2 : World} {n Br : Nat} {o : Obj} (hR : W.heap[Br]? = some o) (hB : Below n w W) (hn : n ≤ Br) (hb : Below W.heap.size W w2) : w2.heap[Br]? = some o ∧ Below n w w2 := by
  have hlt : Br < W.heap.size := (Array.getElem?_eq_some_iff.1 hR).1
  exact ⟨(hb.block _ hlt).trans hR, hB.trans (hb.mono (by omega))⟩
theorem owns_setRow {W : World} {base : Nat} {e : TypeId} {size : Nat} {v : Value} {n : Nat} {xs : List Value} (h : W.ownsRow base e size v n xs) {g : Nat} (cs : Array Value) (hg : g < base) : (W.setRow g cs).ownsRow base e size v n xs := by
  obtain ⟨h1, h2⟩ := h
  refine ⟨h1, ?_⟩
  rcases h2 with h2 | ⟨k, cap, cur, h3, h4, h5, h6⟩
  · exact .inl h2
  · exact .inr ⟨k, cap, cur, h3, h4, (setRow_other _ _ _ _ (by omega)).trans h5, h6⟩
theorem owns_below {W W' : World} {base : Nat} {e : TypeId} {size : Nat} {v : Value} {n : Nat} {xs : List Value} (h : W.ownsRow base e size v n xs) (hb : Below W.heap.size W W') : W'.ownsRow base e size v n xs := by
  obtain ⟨h1, h2⟩ := h
  refine ⟨h1, ?_⟩
  rcases h2 with h2 | ⟨k, cap, cur, h3, h4, h5, h6⟩
  · exact .inl h2
  · exact .inr ⟨k, cap, cur, h3, h4, (hb.block _ (Array.getElem?_eq_some_iff.1 h5).1).trans h5, h6⟩

def TrueBelow (w : World) (e : Ending) (w' : World) : Prop := e = .returned (.bool true) ∧ Below w.heap.size w w'

set_option maxRecDepth 100000 in
set_option maxHeartbeats 1600000 in
theorem awake_true (w : World) : Calls Try.prog 7 #[] w (TrueBelow w) := by
  have hz := Try.zero30
  go_enter Try.func7, Try.ntmps7
  go_wp2_with fail
  refine (new_2 _).mono ?_
  rintro e w' ⟨rfl, rfl⟩
  go_upto_region 2 with (with_reducible refine wpList_store_at rfl 30 (.tmp 1) (.tmp 16) rfl (ringA 2 []) (ringA 0 []) 30 (w.heap.size + 1) (by simp) rfl rfl 266 Try.size30 (size_ringA good2) size_zero (one_ringA _ _) ?_)
  have q1 := good2
  have q2 := good2a
  have q3 := good2ab
  have q4 := good2b
  obtain ⟨W1, hW1⟩ : ∃ W1, W1 = (w.alloc (.cells (ringA 2 []) 30)).alloc (.cells (ringA 2 []) 30) := ⟨_, rfl⟩
  have hR1 : W1.heap[w.heap.size + 1]? = some (.cells (ringA 2 []) 30 (0, 0)) := by rw [hW1]; exact heap_alloc2_new w _ _
  have hB1 : Below w.heap.size w W1 := by rw [hW1]; exact ((Below.refl _ _).alloc (Nat.le_refl _) _).alloc (by simp) _
  rw [← hW1]
  clear hW1
  have HR1 := Lib.hid hR1
  clear hR1
  have kc1 := Lib.run_convert_bytes_const (P := Try.prog) W1 42 5 #[.int .u8 97] 1 1 Try.underlying42 Try.underlying5
  go_wp2_with (with_reducible refine wpList_load_row rfl 30 (.tmp 1) rfl (w.heap.size + 1) rfl 30 (ringA 2 []) (0, 0) _ HR1.out Try.underlying30 rfl (by rw [Try.size30, size_ringA good2]) ?_)
  refine (push_a _ _ (bytes_one W1 97)).mono ?_
  rintro e w1x ⟨rfl, hb⟩
  obtain ⟨hx, hBx⟩ := step_ring HR1.out hB1 (Nat.le_succ _) hb
  have HX1 := Lib.hid hx
  clear hx kc1 hb
  go_upto_region 3 with (with_reducible refine wpList_store_row rfl 30 (.tmp 1) (.tmp 23) rfl (w.heap.size + 1) (ringA 2 [[97]]) rfl rfl 30 _ HX1.out (by rw [Try.size30, size_ringA good2a]) (by rw [size_ringA, size_ringA good2a]; assumption) (one_ringA _ _) ?_)
  have hR2 := setRow_heap w1x _ _ (ringA 2 [[97]]) 30 _ HX1.out
  have hB2 := below_setRow (g := w.heap.size + 1) hBx (Nat.le_succ _) (ringA 2 [[97]])
  generalize w1x.setRow (w.heap.size + 1) (ringA 2 [[97]]) = W2 at hR2 hB2 ⊢
  clear HX1 hBx
  have HR2 := Lib.hid hR2
  clear hR2
  have kc2 := Lib.run_convert_bytes_const (P := Try.prog) W2 42 5 #[.int .u8 98] 1 1 Try.underlying42 Try.underlying5
  go_wp2_with (with_reducible refine wpList_load_row rfl 30 (.tmp 1) rfl (w.heap.size + 1) rfl 30 (ringA 2 [[97]]) (0, 0) _ HR2.out Try.underlying30 rfl (by rw [Try.size30, size_ringA good2a]) ?_)
  refine (push_b _ _ (bytes_one W2 98)).mono ?_
  rintro e w2x ⟨rfl, hb⟩
  obtain ⟨hx, hBx⟩ := step_ring HR2.out hB2 (Nat.le_succ _) hb
  have HX2 := Lib.hid hx
  clear hx kc2 hb
  go_upto_region 4 with (with_reducible refine wpList_store_row rfl 30 (.tmp 1) (.tmp 30) rfl (w.heap.size + 1) (ringA 2 [[97], [98]]) rfl rfl 30 _ HX2.out (by rw [Try.size30, size_ringA good2ab]) (by rw [size_ringA, size_ringA good2ab]; assumption) (one_ringA _ _) ?_)
  have hR3 := setRow_heap w2x _ _ (ringA 2 [[97], [98]]) 30 _ HX2.out
  have hB3 := below_setRow (g := w.heap.size + 1) hBx (Nat.le_succ _) (ringA 2 [[97], [98]])
  generalize w2x.setRow (w.heap.size + 1) (ringA 2 [[97], [98]]) = W3 at hR3 hB3 ⊢
  clear HX2 hBx
  have HR3 := Lib.hid hR3
  clear hR3
  have kc3 := Lib.run_convert_bytes_const (P := Try.prog) W3 42 5 #[.int .u8 99] 1 1 Try.underlying42 Try.underlying5
  go_wp2_with (with_reducible refine wpList_load_row rfl 30 (.tmp 1) rfl (w.heap.size + 1) rfl 30 (ringA 2 [[97], [98]]) (0, 0) _ HR3.out Try.underlying30 rfl (by rw [Try.size30, size_ringA good2ab]) ?_)
  refine (push_c _ _ (bytes_one W3 99)).mono ?_
  rintro e w3x ⟨rfl, hb⟩
  obtain ⟨hx, hBx⟩ := step_ring HR3.out hB3 (Nat.le_succ _) hb
  have HX3 := Lib.hid hx
  clear hx kc3 hb
  go_upto_region 5 with (with_reducible refine wpList_store_last rfl 30 (.tmp 5) (.tmp 37) rfl (ringA 2 [[97], [98]]) (ringA 0 []) 30 rfl rfl 266 Try.size30 (size_ringA good2ab) size_zero (one_ringA _ _) ?_)
  have hR4 : (w3x.alloc (.cells (ringA 2 [[97], [98]]) 30)).heap[w.heap.size + 1]? = _ := (Below.heap_alloc _ _ _ (Array.getElem?_eq_some_iff.1 HX3.out).1).trans HX3.out
  have hB4 := hBx.alloc hBx.size (.cells (ringA 2 [[97], [98]]) 30)
  generalize w3x.alloc (.cells (ringA 2 [[97], [98]]) 30) = W4 at hR4 hB4 ⊢
  clear HX3 hBx
  have HR4 := Lib.hid hR4
  clear hR4
  go_wp2_with (with_reducible refine wpList_load_row rfl 30 (.tmp 1) rfl (w.heap.size + 1) rfl 30 (ringA 2 [[97], [98]]) (0, 0) _ HR4.out Try.underlying30 rfl (by rw [Try.size30, size_ringA good2ab]) ?_)
  refine (pop_yes 2 [97] [[98]] _ good2ab).mono ?_
  rintro e w4x ⟨va, rfl, hoa, hb⟩
  obtain ⟨hx, hBx⟩ := step_ring0 HR4.out hB4 (Nat.le_succ _) hb
  have hlt4 : w.heap.size + 1 < W4.heap.size := (Array.getElem?_eq_some_iff.1 HR4.out).1
  have HX4 := Lib.hid hx
  clear hx hb
  go_upto_region 6 with (with_reducible refine wpList_store_row rfl 30 (.tmp 1) (.tmp 42) rfl (w.heap.size + 1) (ringA 2 [[98]]) rfl rfl 30 _ HX4.out (by rw [Try.size30, size_ringA good2b]) (by rw [size_ringA, size_ringA good2b]; assumption) (one_ringA _ _) ?_)
  have hR5 := setRow_heap w4x _ _ (ringA 2 [[98]]) 30 _ HX4.out
  have hB5 := below_setRow (g := w.heap.size + 1) hBx (Nat.le_succ _) (ringA 2 [[98]])
  have hoa5 := owns_setRow hoa (ringA 2 [[98]]) hlt4
  generalize w4x.setRow (w.heap.size + 1) (ringA 2 [[98]]) = W5 at hR5 hB5 hoa5 ⊢
  have HR5 := Lib.hid hR5
  clear HX4 hBx hoa hR5
  go_wp2_with (with_reducible refine wpList_load_row rfl 30 (.tmp 1) rfl (w.heap.size + 1) rfl 30 (ringA 2 [[98]]) (0, 0) _ HR5.out Try.underlying30 rfl (by rw [Try.size30, size_ringA good2b]) ?_)
  refine (pop_yes 2 [98] [] _ good2b).mono ?_
  rintro e w5x ⟨vb, rfl, hob, hb⟩
  obtain ⟨hx, hBx⟩ := step_ring0 HR5.out hB5 (Nat.le_succ _) hb
  have hlt5 : w.heap.size + 1 < W5.heap.size := (Array.getElem?_eq_some_iff.1 HR5.out).1
  have hoa5x := owns_below hoa5 hb
  have HX5 := Lib.hid hx
  clear hx hb
  go_upto_region 7 with (with_reducible refine wpList_store_row rfl 30 (.tmp 1) (.tmp 48) rfl (w.heap.size + 1) (ringA 2 []) rfl rfl 30 _ HX5.out (by rw [Try.size30, size_ringA good2]) (by rw [size_ringA, size_ringA good2]; assumption) (one_ringA _ _) ?_)
  have hR6 := setRow_heap w5x _ _ (ringA 2 []) 30 _ HX5.out
  have hB6 := below_setRow (g := w.heap.size + 1) hBx (Nat.le_succ _) (ringA 2 [])
  have hoa6 := owns_setRow hoa5x (ringA 2 []) hlt4
  have hob6 := owns_setRow hob (ringA 2 []) hlt5
  generalize w5x.setRow (w.heap.size + 1) (ringA 2 []) = W6 at hR6 hB6 hoa6 hob6 ⊢
  have HR6 := Lib.hid hR6
  clear HX5 hBx hoa5x hoa5 hob hR6
  go_wp2_with (with_reducible refine wpList_load_row rfl 30 (.tmp 1) rfl (w.heap.size + 1) rfl 30 (ringA 2 []) (0, 0) _ HR6.out Try.underlying30 rfl (by rw [Try.size30, size_ringA good2]) ?_)
  refine (pop_no 2 _ good2).mono ?_
  rintro e w6x ⟨rfl, hb⟩
  obtain ⟨hx, hBx⟩ := step_ring0 HR6.out hB6 (Nat.le_succ _) hb
  have hoa6x := owns_below hoa6 hb
  have hob6x := owns_below hob6 hb
  have HX6 := Lib.hid hx
  clear hx hb
  go_upto_region 8 with (with_reducible refine wpList_store_last rfl 30 (.tmp 11) (.tmp 54) rfl (ringA 2 []) (ringA 0 []) 30 rfl rfl 266 Try.size30 (size_ringA good2) size_zero (one_ringA _ _) ?_)
  have hR7 : (w6x.alloc (.cells (ringA 2 []) 30)).heap[w.heap.size + 1]? = _ := (Below.heap_alloc _ _ _ (Array.getElem?_eq_some_iff.1 HX6.out).1).trans HX6.out
  have hB7 := hBx.alloc hBx.size (.cells (ringA 2 []) 30)
  have hoa7 := hoa6x.alloc (.cells (ringA 2 []) 30)
  have hob7 := hob6x.alloc (.cells (ringA 2 []) 30)
  generalize w6x.alloc (.cells (ringA 2 []) 30) = W7 at hR7 hB7 hoa7 hob7 ⊢
  have HR7 := Lib.hid hR7
  clear HX6 hBx hoa6x hob6x hoa6 hob6 hR7
  obtain ⟨ga, capa, rfl, hca⟩ := owns_cells hoa7 (by simp)
  obtain ⟨gb, capb, rfl, hcb⟩ := owns_cells hob7 (by simp)
  have ka := run_convert_bytes_back (P := Try.prog) W7 42 9 5 ⟨ga, 0, none⟩ capa [97] Try.underlying42 Try.underlying5 Try.underlying9 hca
  have kb := run_convert_bytes_back (P := Try.prog) W7 42 9 5 ⟨gb, 0, none⟩ capb [98] Try.underlying42 Try.underlying5 Try.underlying9 hcb
  clear hca hcb hoa7 hob7
  simp only [List.length_cons, List.length_nil, Nat.zero_add] at ka kb ⊢
  go_wp2_with fail
  refine wp_load_row 30 (.tmp 1) rfl (w.heap.size + 1) rfl 30 (ringA 2 []) (0, 0) _ HR7.out Try.underlying30 rfl (by rw [Try.size30, size_ringA good2]) ?_
  go_wp2_with fail
  refine (cap_any 2 [] _).mono ?_
  rintro e w' ⟨rfl, rfl⟩
  go_wp2_with fail
  go_ret
  exact ⟨rfl, hB7.alloc hB7.size _⟩

end Go.Proofs.Ytgipgeeiibkjjaa
