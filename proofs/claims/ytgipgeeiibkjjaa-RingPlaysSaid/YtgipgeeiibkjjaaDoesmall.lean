/- What does does: Grow, Clear, and no call. -/
import Derived.Test.YtgipgeeiibkjjaaDoes
namespace Go.Proofs.Ytgipgeeiibkjjaa
open Go.RowKit

theorem Doing.set1 {w : World} {c : Nat} {L : Chunks} {v : Value} {q : Int} {bv : Value} {W : World} (h : Doing w c L v q bv W) (cs : Array Value) (hs : cs.size = 266) : Doing w c L v q bv (W.setRow (w.heap.size + 3) cs) := by
  obtain ⟨old, _, h2⟩ := h.r1
  obtain ⟨o2, h3, h4⟩ := h.r2
  exact ⟨(setRow_other _ _ _ _ (by omega)).trans h.ring, (setRow_other _ _ _ _ (by omega)).trans h.ref, (setRow_other _ _ _ _ (by omega)).trans h.act, ⟨cs, hs, setRow_heap _ _ _ _ 30 _ h2⟩, ⟨o2, h3, (setRow_other _ _ _ _ (by omega)).trans h4⟩, owns_setRow_type h.txt h2 (by decide) cs, below_setRow h.bel (by omega) cs⟩
theorem Doing.set2 {w : World} {c : Nat} {L : Chunks} {v : Value} {q : Int} {bv : Value} {W : World} (h : Doing w c L v q bv W) (cs : Array Value) (hs : cs.size = 2) : Doing w c L v q bv (W.setRow (w.heap.size + 4) cs) := by
  obtain ⟨old, h1, h2⟩ := h.r1
  obtain ⟨o2, h3, h4⟩ := h.r2
  exact ⟨(setRow_other _ _ _ _ (by omega)).trans h.ring, (setRow_other _ _ _ _ (by omega)).trans h.ref, (setRow_other _ _ _ _ (by omega)).trans h.act, ⟨old, h1, (setRow_other _ _ _ _ (by omega)).trans h2⟩, ⟨cs, hs, setRow_heap _ _ _ _ 36 _ h4⟩, owns_setRow_type h.txt h4 (by decide) cs, below_setRow h.bel (by omega) cs⟩
theorem text_set1 {w : World} {c : Nat} {L : Chunks} {v : Value} {q : Int} {bv : Value} {W : World} (h : Doing w c L v q bv W) {x : Value} {M : Chunks} (hx : IsTexts W x M) (cs : Array Value) : IsTexts (W.setRow (w.heap.size + 3) cs) x M := by
  obtain ⟨old, _, h2⟩ := h.r1
  exact owns_setRow_type hx h2 (by decide) cs
theorem text_set2 {w : World} {c : Nat} {L : Chunks} {v : Value} {q : Int} {bv : Value} {W : World} (h : Doing w c L v q bv W) {x : Value} {M : Chunks} (hx : IsTexts W x M) (cs : Array Value) : IsTexts (W.setRow (w.heap.size + 4) cs) x M := by
  obtain ⟨old, _, h2⟩ := h.r2
  exact owns_setRow_type hx h2 (by decide) cs
/-- A call's two answers, in variables of their own. -/
structure Got2 (w : World) (c : Nat) (L : Chunks) (v : Value) (q : Int) (bv : Value) (X Y d : Nat) (M : Chunks) (x : Value) (W : World) : Prop where
  doing : Doing w c L v q bv W
  one : W.heap[X]? = some (.cells (ringA d M) 30 (0, 0))
  two : W.heap[Y]? = some (.cells #[.int .i64 d, x] 36 (0, 0))
  txts : IsTexts W x M
theorem Got2.below {w : World} {c : Nat} {L : Chunks} {v : Value} {q : Int} {bv : Value} {X Y d : Nat} {M : Chunks} {x : Value} {W W' : World} (h : Got2 w c L v q bv X Y d M x W) (hb : Below W.heap.size W W') : Got2 w c L v q bv X Y d M x W' :=
  ⟨h.doing.below hb, (hb.block _ (Array.getElem?_eq_some_iff.1 h.one).1).trans h.one, (hb.block _ (Array.getElem?_eq_some_iff.1 h.two).1).trans h.two, h.txts.below hb⟩
theorem Got2.set1 {w : World} {c : Nat} {L : Chunks} {v : Value} {q : Int} {bv : Value} {X Y d : Nat} {M : Chunks} {x : Value} {W : World} (h : Got2 w c L v q bv X Y d M x W) (cs : Array Value) (hs : cs.size = 266) (hX : X ≠ w.heap.size + 3) (hY : Y ≠ w.heap.size + 3) : Got2 w c L v q bv X Y d M x (W.setRow (w.heap.size + 3) cs) :=
  ⟨h.doing.set1 cs hs, (setRow_other _ _ _ _ hX).trans h.one, (setRow_other _ _ _ _ hY).trans h.two, text_set1 h.doing h.txts cs⟩
theorem Got2.set2 {w : World} {c : Nat} {L : Chunks} {v : Value} {q : Int} {bv : Value} {X Y d : Nat} {M : Chunks} {x : Value} {W : World} (h : Got2 w c L v q bv X Y d M x W) (cs : Array Value) (hs : cs.size = 2) (hX : X ≠ w.heap.size + 4) (hY : Y ≠ w.heap.size + 4) : Got2 w c L v q bv X Y d M x (W.setRow (w.heap.size + 4) cs) :=
  ⟨h.doing.set2 cs hs, (setRow_other _ _ _ _ hX).trans h.one, (setRow_other _ _ _ _ hY).trans h.two, text_set2 h.doing h.txts cs⟩
theorem Got2.cell0 {w : World} {c : Nat} {L : Chunks} {v : Value} {q : Int} {bv : Value} {X Y d : Nat} {M : Chunks} {x : Value} {W : World} (h : Got2 w c L v q bv X Y d M x W) : W.cell? ⟨Y, 0, none⟩ = some (.int .i64 d) := by rw [cell_of_row _ _ _ _ _ _ h.two]; rfl
theorem Got2.cell1 {w : World} {c : Nat} {L : Chunks} {v : Value} {q : Int} {bv : Value} {X Y d : Nat} {M : Chunks} {x : Value} {W : World} (h : Got2 w c L v q bv X Y d M x W) : W.cell? ⟨Y, 1, none⟩ = some x := by rw [cell_of_row _ _ _ _ _ _ h.two]; rfl

theorem texts_shape {W : World} {v : Value} {L : Chunks} (hT : IsTexts W v L) : ∃ a cap, v = .slice a L.length cap := by
  rcases hT.slice with ⟨g, cap, rfl, _⟩ | ⟨rfl, rfl⟩
  · exact ⟨_, _, rfl⟩
  · exact ⟨_, _, rfl⟩

set_option maxRecDepth 100000 in
set_option maxHeartbeats 4000000 in
theorem does_else (c : Nat) (L : Chunks) (v bv : Value) (q : Int) (w : World) (hG : Good c L) (hT : IsTexts w v L) (h0 : q ≠ 0) (h1 : q ≠ 1) (h2 : q ≠ 2) (h3 : q ≠ 3) :
    Calls Try.prog 11 #[.agg (ringA c L), refV c v, .agg #[.int .i64 q, bv]] w (BothAre w) := by
  have hz := Try.zero30
  have hM : Doing w c L v q bv _ := doing_start w c L v q bv hT
  obtain ⟨a, cap, rfl⟩ := texts_shape hT
  have hop := hM.op
  have HM := Lib.hid hM
  clear hM hT
  have t0 : (q == 0) = false := by simp [h0]
  have t1 : (q == 1) = false := by simp [h1]
  have t2 : (q == 2) = false := by simp [h2]
  have t3 : (q == 3) = false := by simp [h3]
  clear h0 h1 h2 h3
  go_enter Try.func11, Try.ntmps11
  go_upto_region 27 with (fail)
  have hM := HM.out
  clear HM hop
  generalize (((((w.alloc (.cells (ringA c L) 30)).alloc (.cells #[.int .i64 c, .slice a L.length cap] 36)).alloc (.cells #[.int .i64 q, bv] 44)).alloc (.cells (ringA 0 []) 30)).alloc (.cells #[.int .i64 0, .slice none 0 0] 36)) = W1 at hM ⊢
  have hM1 : Got2 w c L (.slice a L.length cap) q bv w.heap.size (w.heap.size + 1) c L (.slice a L.length cap) W1 := ⟨hM, hM.ring, hM.ref, hM.txt⟩
  refine wp_region_noPanic ?_
  refine wp_region_held (S := Got2 w c L (.slice a L.length cap) q bv w.heap.size (w.heap.size + 1) c L (.slice a L.length cap)) (by kernel_rfl) ?_
  change wpAnyH _ _ _ _ _ _ _ _ W1.drew
  have hM2 := hM1.below (Below.drew (Below.refl _ _))
  clear hM hM1
  generalize W1.drew = W2 at hM2 ⊢
  refine take_now (i := 0) ((.agg (ringA c L))) rfl (by kernel_rfl) (by kernel_rfl) (by kernel_rfl) rfl (fun W h => run_load30 hG rfl rfl h.one) hM2 ?_
  simp only [Act.put]
  refine take_now (i := 1) (refV c (.slice a L.length cap)) rfl (by kernel_rfl) (by kernel_rfl) (by kernel_rfl) rfl (fun W h => by have e0 := h.cell0; have e1 := h.cell1; go_simp) hM2 ?_
  simp only [Act.put]
  refine one_now (i := 2) rfl (by kernel_rfl) rfl ?_
  obtain ⟨o1, ho1, hr1⟩ := hM2.doing.r1
  refine wp_store_row 30 (.tmp 6) (.tmp 137) rfl (w.heap.size + 3) (ringA c L) rfl rfl 30 o1 hr1 (by rw [Try.size30, size_ringA hG]) (by rw [ho1, size_ringA hG]) (one_ringA _ _) ?_
  have hM3 := hM2.set1 (ringA c L) (size_ringA hG) (by omega) (by omega)
  have hr1' := setRow_heap _ (w.heap.size + 3) _ (ringA c L) 30 _ hr1
  refine ⟨hM3, ?_⟩
  simp only [Act.put]
  refine one_now (i := 3) rfl (by kernel_rfl) rfl ?_
  obtain ⟨o2, ho2, hr2⟩ := hM3.doing.r2
  refine wp_store_row 36 (.tmp 7) (.tmp 138) rfl (w.heap.size + 4) #[.int .i64 c, (.slice a L.length cap)] rfl rfl 36 o2 hr2 (by rw [Try.size36]; rfl) ho2 (by simp [Value.oneCell']) ?_
  have hM4 := hM3.set2 #[.int .i64 c, (.slice a L.length cap)] rfl (by omega) (by omega)
  have hr2' := setRow_heap _ (w.heap.size + 4) _ #[.int .i64 c, (.slice a L.length cap)] 36 _ hr2
  have hr1'' := (setRow_other (W2.setRow (w.heap.size + 3) (ringA c L)) (w.heap.size + 4) (w.heap.size + 3) #[.int .i64 c, (.slice a L.length cap)] (by omega)).trans hr1'
  refine ⟨hM4, ?_⟩
  simp only [Act.put]
  refine one_now (i := 4) rfl (by kernel_rfl) rfl ?_
  have HM4 := Lib.hid hM4
  have HR1 := Lib.hid hr1''
  have HR2 := Lib.hid hr2'
  clear hM4 hr1'' hr2' hr1' hr1 hr2 hM3 hM2
  go_wp2_with fail
  refine ⟨HM4.out, ?_⟩
  refine wpAnyH_done (by kernel_rfl) (NoPanic.normal ?_) _
  go_wp2_with fail
  exact ret_both rfl rfl rfl rfl HR1.out (size_ringA hG) HR2.out rfl ⟨c, L, (.slice a L.length cap), rfl, hG, HM4.out.txts, HM4.out.doing.bel⟩

end Go.Proofs.Ytgipgeeiibkjjaa
