/- What does does: Pop. -/
import Derived.Test.YtgipgeeiibkjjaaDoespush
namespace Go.Proofs.Ytgipgeeiibkjjaa
open Go.RowKit

def popB (L : Chunks) : List UInt8 := L.headD []
def popE (L : Chunks) : Nat := if L = [] then 3 else 0
theorem Good.popped {c : Nat} {L : Chunks} (h : Good c L) : Good c L.tail := by
  cases L with
  | nil => exact h
  | cons b M => exact h.tail
theorem pop_one (c : Nat) (L : Chunks) (w : World) (hG : Good c L) :
    Calls Try.prog 13 #[.agg (ringA c L)] w fun e w' => ∃ v, e = .returned (.tuple #[.agg (ringA c L.tail), v, .int .i64 (popE L)]) ∧ w'.ownsRow w.heap.size 5 1 v (popB L).length (bytesL (popB L)) ∧ Below w.heap.size w w' := by
  cases L with
  | nil => exact (pop_no c w hG).mono fun e w' ⟨he, hb⟩ => ⟨_, he, World.ownsRow_nil _ _ 5 1, hb⟩
  | cons b M => exact (pop_yes c b M w hG).mono fun e w' ⟨v, he, ho, hb⟩ => ⟨v, he, ho, hb⟩
theorem refPop_one (c : Nat) (L : Chunks) (v : Value) (w : World) (hG : Good c L) (hT : IsTexts w v L) :
    Calls Try.prog 24 #[refV c v] w fun e w' => ∃ v', e = .returned (.tuple #[refV c v', strV (popB L), .int .i64 (popE L)]) ∧ IsTexts w' v' L.tail ∧ Below w.heap.size w w' := by
  have hl : L.length ≤ 8 := Nat.le_trans hG.len hG.cap
  cases L with
  | nil => exact (refPop_no c v w hT).mono fun e w' ⟨v', he, ht, hb⟩ => ⟨v', he, ht, hb⟩
  | cons b M => exact (refPop_yes c v b M w (by simp at hl; omega) hT).mono fun e w' ⟨v', he, ht, hb⟩ => ⟨v', he, ht, hb⟩

set_option maxRecDepth 100000 in
set_option maxHeartbeats 2000000 in
theorem does_pop (c : Nat) (L : Chunks) (v bv : Value) (w : World) (hG : Good c L) (hT : IsTexts w v L) :
    Calls Try.prog 11 #[.agg (ringA c L), refV c v, .agg #[.int .i64 1, bv]] w (BothAre w) := by
  have hz := Try.zero30
  have hM : Doing w c L v 1 bv _ := doing_start w c L v 1 bv hT
  obtain ⟨a, cap, rfl⟩ := texts_shape hT
  have hop := hM.op
  have HM := Lib.hid hM
  clear hM hT
  have hG2 := hG.popped
  have hle : (popB L).length ≤ 32 := by
    cases L with
    | nil => simp [popB]
    | cons b M => exact hG.headLe.2
  obtain ⟨ee, hee⟩ : ∃ ee, ee = popE L := ⟨_, rfl⟩
  obtain ⟨P, hP⟩ : ∃ P, P = L.tail := ⟨_, rfl⟩
  obtain ⟨bs, hbs⟩ : ∃ bs, bs = popB L := ⟨_, rfl⟩
  have hpop := fun W => pop_one c L W hG
  have href := fun W (h1 : IsTexts W (.slice a L.length cap) L) => refPop_one c L (.slice a L.length cap) W hG h1
  rw [← hP] at hG2
  rw [← hbs] at hle
  simp only [← hP, ← hee, ← hbs] at hpop href
  have HPO := Lib.hid hpop
  have HRE := Lib.hid href
  clear hpop href hee hP hbs
  go_enter Try.func11, Try.ntmps11
  go_upto_region 13 with (fail)
  have hM := HM.out
  clear HM hop
  generalize (((((w.alloc (.cells (ringA c L) 30)).alloc (.cells #[.int .i64 c, .slice a L.length cap] 36)).alloc (.cells #[.int .i64 1, bv] 44)).alloc (.cells (ringA 0 []) 30)).alloc (.cells #[.int .i64 0, .slice none 0 0] 36)) = W1 at hM ⊢
  have HM2 := Lib.hid hM
  clear hM
  go_wp2_with (with_reducible refine wpList_load_row rfl 30 (.tmp 3) rfl w.heap.size rfl 30 (ringA c L) (0, 0) _ HM2.out.ring Try.underlying30 rfl (by rw [Try.size30, size_ringA hG]) ?_)
  refine (HPO.out W1).mono ?_
  rintro e w3 ⟨v3, rfl, ho3, hb3⟩
  obtain ⟨a2, c2, rfl⟩ := owns_slice ho3
  have HM3 := Lib.hid (HM2.out.below hb3)
  have HC3 := Lib.hid (copied_of ho3 HM2.out.bel.size)
  have HB3 := Lib.hid (isBytes_of_owns ho3)
  clear HM2 HPO hb3 ho3
  go_upto_region 14 with (with_reducible refine wpList_store_last rfl 30 (.tmp 16) (.tmp 80) rfl (ringA c P) (ringA 0 []) 30 rfl rfl 266 Try.size30 (size_ringA hG2) size_zero (one_ringA _ _) ?_)
  have hX4 := heap_alloc_last w3 (.cells (ringA c P) 30)
  have hb4 : Below w3.heap.size w3 (w3.alloc (.cells (ringA c P) 30)) := (Below.refl _ _).alloc (Nat.le_refl _) _
  have hM4 := HM3.out.below hb4
  have hC4 := HC3.out.below hb4
  have hB4 := HB3.out.below hb4
  have hXlow : w.heap.size + 4 < w3.heap.size := by obtain ⟨_, _, h⟩ := HM3.out.r2; exact (Array.getElem?_eq_some_iff.1 h).1
  obtain ⟨X, hX⟩ : ∃ X, X = w3.heap.size := ⟨_, rfl⟩
  rw [← hX] at hX4 hXlow ⊢
  clear hb4 HM3 HC3 HB3 hX
  generalize w3.alloc (.cells (ringA c P) 30) = W4 at hX4 hM4 hC4 hB4 ⊢
  have e0 := hM4.cell0
  have e1 := hM4.cell1
  have HX4 := Lib.hid hX4
  have HM4 := Lib.hid hM4
  have HC4 := Lib.hid hC4
  have HB4 := Lib.hid hB4
  clear hX4 hM4 hC4 hB4
  go_wp2_with fail
  refine (HRE.out _ HM4.out.txt).mono ?_
  rintro e w5 ⟨x5, rfl, hT5, hb5⟩
  obtain ⟨ax, capx, rfl⟩ := texts_shape hT5
  obtain ⟨S, hS⟩ : ∃ S : ByteArray, strV bs = .string S := ⟨_, rfl⟩
  rw [hS]
  have HSS := Lib.hid hS
  clear hS
  have hXY : X < w5.heap.size := Nat.lt_of_lt_of_le (Array.getElem?_eq_some_iff.1 HX4.out).1 hb5.size
  have HM5 := Lib.hid (HM4.out.below hb5)
  have HX5 := Lib.hid ((hb5.block _ (Array.getElem?_eq_some_iff.1 HX4.out).1).trans HX4.out)
  have HC5 := Lib.hid (HC4.out.below hb5)
  have HB5 := Lib.hid (HB4.out.below hb5)
  have HT5 := Lib.hid hT5
  clear HM4 HX4 HC4 HB4 hT5 hb5 HRE e0 e1
  go_upto_region 15 with fail
  have hb6 : Below w5.heap.size w5 (w5.alloc (.cells #[.int .i64 c, .slice ax P.length capx] 36)) := (Below.refl _ _).alloc (Nat.le_refl _) _
  have hM6 : Got2 w c L (.slice a L.length cap) 1 bv X w5.heap.size c P (.slice ax P.length capx) (w5.alloc (.cells #[.int .i64 c, .slice ax P.length capx] 36)) :=
    ⟨HM5.out.alloc _, (Below.heap_alloc _ _ _ hXY).trans HX5.out, heap_alloc_last _ _, HT5.out.below hb6⟩
  have hC6 := HC5.out.below hb6
  have hB6 := HB5.out.below hb6
  obtain ⟨Y, hY⟩ : ∃ Y, Y = w5.heap.size := ⟨_, rfl⟩
  rw [← hY] at hM6 hXY ⊢
  clear hY hb6 HM5 HX5 HC5 HB5 HT5
  generalize w5.alloc (.cells #[.int .i64 c, .slice ax P.length capx] 36) = W6 at hM6 hC6 hB6 ⊢
  have k1 := conv_any hB6
  rw [HSS.out] at k1
  have HM6 := Lib.hid hM6
  have HC6 := Lib.hid hC6
  clear hM6 hC6 hB6 HSS
  go_wp2
  clear k1
  go_loopw [23] (fun j W => ∃ q : Nat, q ≤ bs.length ∧ j = .int .i64 q ∧ Got2 w c L (.slice a L.length cap) 1 bv X Y c P (.slice ax P.length capx) W ∧ Copied w a2 bs.length W) (fun j _ => bs.length - (intOf j).toNat)
  case atStart => exact ⟨0, Nat.zero_le _, rfl, HM6.out, HC6.out⟩
  case round =>
    clear HM6 HC6
    obtain ⟨q, hq, rfl, hM7, hC7⟩ := hrel
    by_cases hql : q < bs.length
    · rcases hC7 with h0 | ⟨g, rfl, hg, hU⟩
      · omega
      obtain ⟨cur, hh, hcur⟩ := hU
      obtain ⟨m, hm⟩ := hcur q hql
      have hc7 : wr.cell? ⟨g, q, none⟩ = some (.int .u8 m) := by rw [cell_of_row _ _ _ _ _ _ hh]; exact hm
      have hf7 : wr.frozen? ⟨g, q, none⟩ = false := frozen_of_row _ _ _ _ _ hh
      have HU := Lib.hid (show RowU8 wr g bs.length from ⟨cur, hh, hcur⟩)
      have HM7 := Lib.hid hM7
      have q1 : (0 : Int) ≤ (q : Int) := by omega
      have q2 : (q : Int) < (bs.length : Int) := by omega
      clear hh hcur hm hM7
      go_wp2
      exact ⟨⟨q + 1, by omega, by go_num, HM7.out.wrote HU.out hg q _, .inr ⟨g, rfl, hg, HU.out.set _⟩⟩, by simp [intOf]; omega⟩
    · have q2 : ¬ (q : Int) < (bs.length : Int) := by omega
      clear hql
      go_upto_region 20 with fail
      have hlY : w.heap.size + 4 < Y := by omega
      refine wp_region_noPanic ?_
      refine wp_region_held (S := Got2 w c L (.slice a L.length cap) 1 bv X Y c P (.slice ax P.length capx)) (by kernel_rfl) ?_
      change wpAnyH _ _ _ _ _ _ _ _ wr.drew
      have hM2 := hM7.below (Below.drew (Below.refl _ _))
      clear hM7 hC7
      generalize wr.drew = W2 at hM2 ⊢
      refine take_d (i := 0) 110 ((.agg (ringA c P))) rfl rfl (by kernel_rfl) (by kernel_rfl) (by kernel_rfl) rfl (fun W h => run_load30 hG2 rfl rfl h.one) hM2 ?_
      simp only [Act.put, List.setIfInBounds_toArray, List.set_cons_succ, List.set_cons_zero]
      refine take_d (i := 1) 111 (refV c (.slice ax P.length capx)) rfl rfl (by kernel_rfl) (by kernel_rfl) (by kernel_rfl) rfl (fun W h => by have e0 := h.cell0; have e1 := h.cell1; go_simp) hM2 ?_
      simp only [Act.put, List.setIfInBounds_toArray, List.set_cons_succ, List.set_cons_zero]
      refine take_d (i := 2) 112 (.bool true) rfl rfl (by kernel_rfl) (by kernel_rfl) (by kernel_rfl) rfl (fun _ _ => rfl) hM2 ?_
      simp only [Act.put, List.setIfInBounds_toArray, List.set_cons_succ, List.set_cons_zero]
      refine one_now (i := 3) rfl (by kernel_rfl) rfl ?_
      obtain ⟨o1, ho1, hr1⟩ := hM2.doing.r1
      refine wp_store_row 30 (.tmp 6) (.tmp 110) rfl (w.heap.size + 3) (ringA c P) rfl rfl 30 o1 hr1 (by rw [Try.size30, size_ringA hG2]) (by rw [ho1, size_ringA hG2]) (one_ringA _ _) ?_
      have hM3 := hM2.set1 (ringA c P) (size_ringA hG2) (by omega) (by omega)
      have hr1' := setRow_heap _ (w.heap.size + 3) _ (ringA c P) 30 _ hr1
      refine ⟨hM3, ?_⟩
      simp only [Act.put]
      refine one_now (i := 4) rfl (by kernel_rfl) rfl ?_
      obtain ⟨o2, ho2, hr2⟩ := hM3.doing.r2
      refine wp_store_row 36 (.tmp 7) (.tmp 111) rfl (w.heap.size + 4) #[.int .i64 c, (.slice ax P.length capx)] rfl rfl 36 o2 hr2 (by rw [Try.size36]; rfl) ho2 (by simp [Value.oneCell']) ?_
      have hM4 := hM3.set2 #[.int .i64 c, (.slice ax P.length capx)] rfl (by omega) (by omega)
      have hr2' := setRow_heap _ (w.heap.size + 4) _ #[.int .i64 c, (.slice ax P.length capx)] 36 _ hr2
      have hr1'' := (setRow_other (W2.setRow (w.heap.size + 3) (ringA c P)) (w.heap.size + 4) (w.heap.size + 3) #[.int .i64 c, (.slice ax P.length capx)] (by omega)).trans hr1'
      refine ⟨hM4, ?_⟩
      simp only [Act.put]
      refine one_now (i := 5) rfl (by kernel_rfl) rfl ?_
      have HM4 := Lib.hid hM4
      have HR1 := Lib.hid hr1''
      have HR2 := Lib.hid hr2'
      clear hM4 hr1'' hr2' hr1' hr1 hr2 hM3 hM2
      go_wp2_with fail
      refine ⟨HM4.out, ?_⟩
      refine wpAnyH_done (by kernel_rfl) (NoPanic.normal ?_) _
      go_wp2_with fail
      exact ret_both rfl rfl rfl rfl HR1.out (size_ringA hG2) HR2.out rfl ⟨c, P, (.slice ax P.length capx), rfl, hG2, HM4.out.txts, HM4.out.doing.bel⟩

end Go.Proofs.Ytgipgeeiibkjjaa
