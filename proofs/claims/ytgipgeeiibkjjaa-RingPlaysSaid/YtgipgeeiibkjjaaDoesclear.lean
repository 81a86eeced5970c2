/- What does does: Clear. -/
import Derived.Test.YtgipgeeiibkjjaaDoesmall
namespace Go.Proofs.Ytgipgeeiibkjjaa
open Go.RowKit

set_option maxRecDepth 100000 in
set_option maxHeartbeats 4000000 in
theorem does_clear (c : Nat) (L : Chunks) (v bv : Value) (w : World) (hG : Good c L) (hT : IsTexts w v L) :
    Calls Try.prog 11 #[.agg (ringA c L), refV c v, .agg #[.int .i64 3, bv]] w (BothAre w) := by
  have hz := Try.zero30
  have hM : Doing w c L v 3 bv _ := doing_start w c L v 3 bv hT
  obtain ⟨a, cap, rfl⟩ := texts_shape hT
  have hop := hM.op
  have HM := Lib.hid hM
  clear hM hT
  go_enter Try.func11, Try.ntmps11
  go_upto_region 26 with (fail)
  have hM := HM.out
  clear HM hop
  generalize (((((w.alloc (.cells (ringA c L) 30)).alloc (.cells #[.int .i64 c, .slice a L.length cap] 36)).alloc (.cells #[.int .i64 3, bv] 44)).alloc (.cells (ringA 0 []) 30)).alloc (.cells #[.int .i64 0, .slice none 0 0] 36)) = W1 at hM ⊢
  refine wp_region_noPanic ?_
  refine wp_region_held (S := Doing w c L (.slice a L.length cap) 3 bv) (by kernel_rfl) ?_
  change wpAnyH _ _ _ _ _ _ _ _ W1.drew
  have hM2 := hM.below (Below.drew (Below.refl _ _))
  clear hM
  generalize W1.drew = W2 at hM2 ⊢
  refine take_now (i := 0) ((.agg (ringA c L))) rfl (by kernel_rfl) (by kernel_rfl) (by kernel_rfl) rfl (fun W h => run_load30 hG rfl rfl h.ring) hM2 ?_
  simp only [Act.put]
  refine take_now (i := 2) (.pointer (some ⟨w.heap.size + 1, 0, none⟩)) rfl (by kernel_rfl) (by kernel_rfl) (by kernel_rfl) rfl (fun _ _ => by go_simp) hM2 ?_
  simp only [Act.put]
  refine take_now (i := 3) (.int .i64 c) rfl (by kernel_rfl) (by kernel_rfl) (by kernel_rfl) rfl (fun W h => by have e0 := h.cell0; go_simp) hM2 ?_
  simp only [Act.put]
  refine take_now (i := 4) (refV c (.slice none 0 0)) rfl (by kernel_rfl) (by kernel_rfl) (by kernel_rfl) rfl (fun _ _ => by go_simp) hM2 ?_
  simp only [Act.put]
  refine one_now (i := 1) rfl (by kernel_rfl) rfl ?_
  have HM2 := Lib.hid hM2
  clear hM2
  go_wp2_with fail
  refine (clear_any c L _ hG).mono ?_
  rintro e W3 ⟨rfl, hb⟩
  have hM3 := HM2.out.below hb
  clear HM2 hb
  refine ⟨hM3, ?_⟩
  refine one_now (i := 5) rfl (by kernel_rfl) rfl ?_
  obtain ⟨o1, ho1, hr1⟩ := hM3.r1
  refine wp_store_row 30 (.tmp 6) (.tmp 133) rfl (w.heap.size + 3) (ringA c []) rfl rfl 30 o1 hr1 (by rw [Try.size30, size_ringA hG.clear]) (by rw [ho1, size_ringA hG.clear]) (one_ringA _ _) ?_
  have hM4 := hM3.set1 (ringA c []) (size_ringA hG.clear)
  have hr1' := setRow_heap _ (w.heap.size + 3) _ (ringA c []) 30 _ hr1
  refine ⟨hM4, ?_⟩
  simp only [Act.put]
  refine one_now (i := 6) rfl (by kernel_rfl) rfl ?_
  obtain ⟨o2, ho2, hr2⟩ := hM4.r2
  refine wp_store_row 36 (.tmp 7) (.tmp 136) rfl (w.heap.size + 4) #[.int .i64 c, .slice none 0 0] rfl rfl 36 o2 hr2 (by rw [Try.size36]; rfl) ho2 (by simp [Value.oneCell']) ?_
  have hM5 := hM4.set2 #[.int .i64 c, .slice none 0 0] rfl
  have hr2' := setRow_heap _ (w.heap.size + 4) _ #[.int .i64 c, .slice none 0 0] 36 _ hr2
  have hr1'' := (setRow_other (W3.setRow (w.heap.size + 3) (ringA c [])) (w.heap.size + 4) (w.heap.size + 3) #[.int .i64 c, .slice none 0 0] (by omega)).trans hr1'
  refine ⟨hM5, ?_⟩
  simp only [Act.put]
  refine one_now (i := 7) rfl (by kernel_rfl) rfl ?_
  have HM5 := Lib.hid hM5
  have HR1 := Lib.hid hr1''
  have HR2 := Lib.hid hr2'
  clear hM5 hr1'' hr2' hr1' hr1 hr2 hM4 hM3
  go_wp2_with fail
  refine ⟨HM5.out, ?_⟩
  refine wpAnyH_done (by kernel_rfl) (NoPanic.normal ?_) _
  go_wp2_with fail
  exact ret_both rfl rfl rfl rfl HR1.out (size_ringA hG.clear) HR2.out rfl ⟨c, [], .slice none 0 0, rfl, hG.clear, isTexts_nil _, HM5.out.bel⟩

end Go.Proofs.Ytgipgeeiibkjjaa
