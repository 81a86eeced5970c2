/- What does does: Grow. -/
import Derived.Test.YtgipgeeiibkjjaaDoesmall
namespace Go.Proofs.Ytgipgeeiibkjjaa
open Go.RowKit

theorem grow_c (c : Nat) (L : Chunks) (w : World) (hG : Good c L) :
    Calls Try.prog 14 #[.agg (ringA c L)] w fun e w' => e = .returned (.tuple #[.agg (ringA (growC c) L), .int .i64 (growE c)]) ∧ Below w.heap.size w w' :=
  (grow_any c L w hG).mono fun _ _ ⟨he, hb⟩ => ⟨by
    rw [he]
    unfold growC growE
    by_cases h0 : c = 0
    · simp [h0]
    · by_cases h8 : c = 8 <;> simp [h0, h8], hb⟩
theorem Good.growC {c : Nat} {L : Chunks} (h : Good c L) : Good (growC c) L := h.grown

/-- take_now, where the operation's variable is named. -/
theorem take_d {P : Program} {md : Region.Mode} {ops : Array Oper} {Q : Exit → Act → World → Prop} {S : World → Prop} {i : Nat} {oi : Oper} {fuel : Nat} {listed : Array Bool} {a : Act} {w : World} (d : Tmp) (v : Value) (hi : ops[i]? = some oi) (hd : oi.dst = some d)
    (hs : Region.noSelect ops = true) (hf : Region.free md ops listed i = true) (hr : (Region.ready md ops listed).contains i = true)
    (hw : Region.wanted oi (yielded ops a.tmps) = true) (hrun : ∀ W, S W → (execOp a.eval oi).run P W = .ok (.value v) W) (hS : S w)
    (h : wpAnyH P md ops (NoPanic Q) S fuel (listed.setIfInBounds i true) (a.put (some d) v) w) : wpAnyH P md ops (NoPanic Q) S (fuel + 1) listed a w :=
  take_now v hi hs hf hr hw hrun hS (by rw [hd]; exact h)

set_option maxRecDepth 100000 in
set_option maxHeartbeats 1600000 in
theorem does_grow (c : Nat) (L : Chunks) (v bv : Value) (w : World) (hG : Good c L) (hT : IsTexts w v L) :
    Calls Try.prog 11 #[.agg (ringA c L), refV c v, .agg #[.int .i64 2, bv]] w (BothAre w) := by
  have hz := Try.zero30
  have hM : Doing w c L v 2 bv _ := doing_start w c L v 2 bv hT
  obtain ⟨a, cap, rfl⟩ := texts_shape hT
  have hop := hM.op
  have HM := Lib.hid hM
  clear hM hT
  go_enter Try.func11, Try.ntmps11
  have hG2 := hG.growC
  go_wp2_with (with_reducible refine wpList_load_row rfl 30 (.tmp 3) rfl w.heap.size rfl 30 (ringA c L) (0, 0) _ HM.out.ring Try.underlying30 rfl (by rw [Try.size30, size_ringA hG]) ?_)
  refine (grow_c c L _ hG).mono ?_
  rintro e W3 ⟨rfl, hb⟩
  have hD3 := HM.out.below hb
  clear HM hb hop
  obtain ⟨d, hd⟩ : ∃ d, d = growC c := ⟨_, rfl⟩
  obtain ⟨ee, hee⟩ : ∃ ee, ee = growE c := ⟨_, rfl⟩
  have hrg := refGrow c a L.length cap
  rw [← hd] at hG2
  rw [← hd, ← hee]
  rw [← hd, ← hee] at hrg
  have e0 := (hD3.below ((Below.refl _ _).alloc (Nat.le_refl _) (.cells (ringA d L) 30))).cell0
  have e1 := (hD3.below ((Below.refl _ _).alloc (Nat.le_refl _) (.cells (ringA d L) 30))).cell1
  have HD3 := Lib.hid hD3
  have HRG := Lib.hid hrg
  clear hD3 hd hee hrg
  go_wp2_with (with_reducible refine wpList_store_last rfl 30 (.tmp 24) (.tmp 118) rfl (ringA d L) (ringA 0 []) 30 rfl rfl 266 Try.size30 (size_ringA hG2) size_zero (one_ringA _ _) ?_)
  refine (HRG.out _ hG.cap).mono ?_
  rintro e W5 ⟨rfl, hb⟩
  have hD4 := HD3.out.alloc (.cells (ringA d L) 30)
  have hX4 := heap_alloc_last W3 (.cells (ringA d L) 30)
  have hD5 := hD4.below hb
  have hX5 := (hb.block _ (Array.getElem?_eq_some_iff.1 hX4).1).trans hX4
  have hXlow : w.heap.size + 4 < W3.heap.size := by obtain ⟨_, _, h⟩ := HD3.out.r2; exact (Array.getElem?_eq_some_iff.1 h).1
  have hXY : W3.heap.size < W5.heap.size := (Array.getElem?_eq_some_iff.1 hX5).1
  have HD5 := Lib.hid hD5
  have HX5 := Lib.hid hX5
  clear HD3 HRG e0 e1 hD4 hX4 hb hD5 hX5
  go_upto_region 24 with (fail)
  have hM1 : Got2 w c L (.slice a L.length cap) 2 bv W3.heap.size W5.heap.size d L (.slice a L.length cap) (W5.alloc (.cells #[.int .i64 d, .slice a L.length cap] 36)) :=
    ⟨HD5.out.alloc _, (Below.heap_alloc _ _ _ hXY).trans HX5.out, heap_alloc_last _ _, (HD5.out.alloc _).txt⟩
  generalize W5.alloc (.cells #[.int .i64 d, .slice a L.length cap] 36) = W1 at hM1 ⊢
  obtain ⟨X, hX⟩ : ∃ X, X = W3.heap.size := ⟨_, rfl⟩
  obtain ⟨Y, hY⟩ : ∃ Y, Y = W5.heap.size := ⟨_, rfl⟩
  rw [← hX] at hM1 hXlow hXY ⊢
  rw [← hY] at hM1 hXY ⊢
  clear hX hY HD5 HX5
  have tee : ((ee : Int) == (ee : Int)) = true := by simp
  refine wp_region_noPanic ?_
  refine wp_region_held (S := Got2 w c L (.slice a L.length cap) 2 bv X Y d L (.slice a L.length cap)) (by kernel_rfl) ?_
  change wpAnyH _ _ _ _ _ _ _ _ W1.drew
  have hM2 := hM1.below (Below.drew (Below.refl _ _))
  clear hM1
  generalize W1.drew = W2 at hM2 ⊢
  refine take_d (i := 0) 125 ((.agg (ringA d L))) rfl rfl (by kernel_rfl) (by kernel_rfl) (by kernel_rfl) rfl (fun W h => run_load30 hG2 rfl rfl h.one) hM2 ?_
  simp only [Act.put, List.setIfInBounds_toArray, List.set_cons_succ, List.set_cons_zero]
  refine take_d (i := 1) 126 (refV d (.slice a L.length cap)) rfl rfl (by kernel_rfl) (by kernel_rfl) (by kernel_rfl) rfl (fun W h => by have e0 := h.cell0; have e1 := h.cell1; go_simp) hM2 ?_
  simp only [Act.put, List.setIfInBounds_toArray, List.set_cons_succ, List.set_cons_zero]
  refine take_d (i := 2) 127 (.int .i64 ee) rfl rfl (by kernel_rfl) (by kernel_rfl) (by kernel_rfl) rfl (fun _ _ => rfl) hM2 ?_
  simp only [Act.put, List.setIfInBounds_toArray, List.set_cons_succ, List.set_cons_zero]
  refine take_d (i := 3) 128 (.int .i64 ee) rfl rfl (by kernel_rfl) (by kernel_rfl) (by kernel_rfl) rfl (fun _ _ => rfl) hM2 ?_
  simp only [Act.put, List.setIfInBounds_toArray, List.set_cons_succ, List.set_cons_zero]
  refine take_d (i := 4) 129 (.bool true) rfl rfl (by kernel_rfl) (by kernel_rfl) (by kernel_rfl) rfl (fun _ _ => by go_simp) hM2 ?_
  simp only [Act.put, List.setIfInBounds_toArray, List.set_cons_succ, List.set_cons_zero]
  refine one_now (i := 5) rfl (by kernel_rfl) rfl ?_
  obtain ⟨o1, ho1, hr1⟩ := hM2.doing.r1
  refine wp_store_row 30 (.tmp 6) (.tmp 125) rfl (w.heap.size + 3) (ringA d L) rfl rfl 30 o1 hr1 (by rw [Try.size30, size_ringA hG2]) (by rw [ho1, size_ringA hG2]) (one_ringA _ _) ?_
  have hM3 := hM2.set1 (ringA d L) (size_ringA hG2) (by omega) (by omega)
  have hr1' := setRow_heap _ (w.heap.size + 3) _ (ringA d L) 30 _ hr1
  refine ⟨hM3, ?_⟩
  simp only [Act.put, List.setIfInBounds_toArray]
  refine one_now (i := 6) rfl (by kernel_rfl) rfl ?_
  obtain ⟨o2, ho2, hr2⟩ := hM3.doing.r2
  refine wp_store_row 36 (.tmp 7) (.tmp 126) rfl (w.heap.size + 4) #[.int .i64 d, (.slice a L.length cap)] rfl rfl 36 o2 hr2 (by rw [Try.size36]; rfl) ho2 (by simp [Value.oneCell']) ?_
  have hM4 := hM3.set2 #[.int .i64 d, (.slice a L.length cap)] rfl (by omega) (by omega)
  have hr2' := setRow_heap _ (w.heap.size + 4) _ #[.int .i64 d, (.slice a L.length cap)] 36 _ hr2
  have hr1'' := (setRow_other (W2.setRow (w.heap.size + 3) (ringA d L)) (w.heap.size + 4) (w.heap.size + 3) #[.int .i64 d, (.slice a L.length cap)] (by omega)).trans hr1'
  refine ⟨hM4, ?_⟩
  simp only [Act.put]
  refine one_now (i := 7) rfl (by kernel_rfl) rfl ?_
  have HM4 := Lib.hid hM4
  have HR1 := Lib.hid hr1''
  have HR2 := Lib.hid hr2'
  clear hM4 hr1'' hr2' hr1' hr1 hr2 hM3 hM2
  go_wp2_with fail
  refine ⟨HM4.out, ?_⟩
  refine wpAnyH_done (by kernel_rfl) (NoPanic.normal ?_) _
  go_wp2_with fail
  exact ret_both rfl rfl rfl rfl HR1.out (size_ringA hG2) HR2.out rfl ⟨d, L, (.slice a L.length cap), rfl, hG2, HM4.out.txts, HM4.out.doing.bel⟩

end Go.Proofs.Ytgipgeeiibkjjaa
