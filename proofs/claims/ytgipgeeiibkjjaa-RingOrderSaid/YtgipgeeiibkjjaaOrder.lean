/- RingOrder: the walk. -/
import Derived.Test.YtgipgeeiibkjjaaOrderparts
import Derived.Deep.CutBlock
import Derived.Maps.AppendAt
namespace Go.Proofs.Ytgipgeeiibkjjaa
open Go.RowKit

set_option maxRecDepth 100000 in
set_option maxHeartbeats 1600000 in
theorem order_no (c : Int) (va : Value) (la : List Call) (w : World) (hc : c < 1 ∨ 8 < c) (hA : IsCalls w va la) (sA : Sized la) :
    Calls Try.prog 4 #[.int .i64 c, va] w (TrueBelow w) := by
  have hz := Try.zero30
  have HA := Lib.hid (hA.below (below2 w (.cells (ringA 0 []) 30) (.cells (ringA 0 []) 30)))
  have HC := Lib.hid hc
  clear hA hc
  go_enter Try.func4, Try.ntmps4
  go_wp2_with fail
  refine (new_no c _ HC.out).mono ?_
  rintro e w' ⟨rfl, rfl⟩
  go_wp2_with (with_reducible refine wpList_store_at rfl 30 (.tmp 5) (.tmp 16) rfl (ringA 0 []) (ringA 0 []) 30 (w.heap.size + 1) (by simp) rfl rfl 266 Try.size30 size_zero size_zero (one_ringA _ _) ?_)
  refine (few_any va la _ HA.out sA.len sA.each).mono ?_
  rintro e w' ⟨b1, rfl, _, rfl⟩
  cases b1
  all_goals
    go_wp2_with fail
    refine (awake_true _).mono ?_
    rintro e w' ⟨rfl, hb⟩
    go_wp2_with fail
    go_ret
    exact ⟨rfl, (below2 w _ _).trans (hb.mono (by simp; omega))⟩

set_option maxRecDepth 100000 in
set_option maxHeartbeats 16000000 in
theorem order_yes (c : Nat) (va : Value) (la : List Call) (w : World) (h1 : 1 ≤ c) (h8 : c ≤ 8) (hA : IsCalls w va la) (sA : Sized la) :
    Calls Try.prog 4 #[.int .i64 c, va] w (TrueBelow w) := by
  have hz := Try.zero30
  have hG := good_empty h8
  have HA0 := Lib.hid hA.parts
  have HA := Lib.hid (hA.below (below2 w (.cells (ringA c []) 30) (.cells (ringA c []) 30)))
  clear hA
  go_enter Try.func4, Try.ntmps4
  go_wp2_with fail
  refine (new_ok c _ h1 h8).mono ?_
  rintro e w' ⟨rfl, rfl⟩
  go_wp2_with (with_reducible refine wpList_store_at rfl 30 (.tmp 5) (.tmp 16) rfl (ringA c []) (ringA 0 []) 30 (w.heap.size + 1) (by simp) rfl rfl 266 Try.size30 (size_ringA hG) size_zero (one_ringA _ _) ?_)
  refine (few_any va la _ HA.out sA.len sA.each).mono ?_
  rintro e w' ⟨b1, rfl, hs1, rfl⟩
  cases b1
  · go_wp2_with fail
    refine (awake_true _).mono ?_
    rintro e w' ⟨rfl, hb⟩
    go_wp2_with fail
    go_ret
    exact ⟨rfl, (below2 w _ _).trans (hb.mono (by simp; omega))⟩
  have hS1 := hs1 rfl
  clear hs1 HA
  have hInv : ∀ k, OrderInv w k (.slice none 0 0) (.slice none 0 0) ((w.alloc (.cells (ringA c []) 30)).alloc (.cells (ringA c []) 30)) := fun k =>
    ⟨c, [], [], [], hG, heap_alloc2_new w _ _, ⟨World.ownsRow_nil _ _ _ _, World.ownsRow_nil _ _ _ _, .inl rfl⟩, rfl, Nat.zero_le _, below2 w _ _⟩
  generalize (w.alloc (.cells (ringA c []) 30)).alloc (.cells (ringA c []) 30) = W1 at hInv ⊢
  obtain ⟨aa, capa, rfl, hCA⟩ := HA0.out
  have HCA := Lib.hid hCA
  have hlA := hS1.1
  clear HA0 hCA
  go_wp2_with fail
  go_loopw [7, 8, 9] (fun vi vo i wr => ∃ k : Nat, k ≤ la.length ∧ i = .int .i64 k ∧ OrderInv w k vi vo wr) (fun _ _ i _ => la.length - (intOf i).toNat)
  case atStart => exact ⟨0, Nat.zero_le _, rfl, hInv 0⟩
  case round =>
    clear hInv
    obtain ⟨k, hk, rfl, c1, L1, I1, O1, hG1, hR1, hT1, hIO, hIk, hB1⟩ := hrel
    by_cases hlt : k < la.length
    · obtain ⟨x, hx⟩ : ∃ x, la[k]? = some x := ⟨la[k], by simp [hlt]⟩
      obtain ⟨b, off, rfl, hca⟩ := HCA.out (by rintro rfl; simp at hlt)
      have g1 : (0 : Int) ≤ (k : Int) := by omega
      have g2 : (k : Int) < (la.length : Int) := by omega
      have hlt1 : w.heap.size + 1 < wr.heap.size := (Array.getElem?_eq_some_iff.1 hR1).1
      have HR1 := Lib.hid hR1
      have HT1 := Lib.hid hT1
      have HIO := Lib.hid hIO
      clear hR1 hT1 hIO
      go_upto_region 10 with (first
        | (with_reducible refine wpList_load_row rfl 30 (.tmp 5) rfl (w.heap.size + 1) rfl 30 (ringA c1 L1) (0, 0) _ HR1.out Try.underlying30 rfl (by rw [Try.size30, size_ringA hG1]) ?_)
        | (with_reducible refine wpList_store_last rfl 30 (.tmp 10) (.tmp 40) rfl (ringA c1 L1) (ringA 0 []) 30 rfl rfl 266 Try.size30 (size_ringA hG1) size_zero (one_ringA _ _) ?_))
      have hb2 : Below wr.heap.size wr (wr.alloc (.cells (ringA c1 L1) 30)) := (Below.refl _ _).alloc (Nat.le_refl _) _
      have hR2 := (hb2.block _ hlt1).trans HR1.out
      have hS2 := heap_alloc_last wr (.cells (ringA c1 L1) 30)
      have hT2 := HT1.out.below hb2
      have hB2 := hB1.trans (hb2.mono hB1.size)
      obtain ⟨bv, hcw1, hcw2, hbv⟩ := hca k x hx
      have hc1 := cell_below hB2 hcw1
      obtain ⟨Bs, hBs⟩ : ∃ Bs, Bs = wr.heap.size := ⟨_, rfl⟩
      have hBlt : w.heap.size + 1 < Bs := by omega
      rw [← hBs] at hS2 ⊢
      clear hb2 HR1 HT1 hB1 hca hx hlt1 hBs
      generalize wr.alloc (.cells (ringA c1 L1) 30) = W2 at hR2 hS2 hT2 hB2 hc1 ⊢
      have HR2 := Lib.hid hR2
      have HS2 := Lib.hid hS2
      have HT2 := Lib.hid hT2
      obtain ⟨a3, c3, rfl⟩ := hbv.slice
      have HBV := Lib.hid hbv
      have HC2 := Lib.hid hcw2
      clear hR2 hS2 hT2 hbv hcw1 hcw2
      go_upto_block 2 with (fail)
      go_cut [7, 8, 11, 12] (fun vi vo f _b W => Switched w k Bs c1 L1 vi vo f W)
      case first =>
        by_cases e0 : x.op = 0
        · have t0 : (x.op == 0) = true := by simp [e0]
          clear e0 hc1
          have hc2 := cell_below hB2 HC2.out
          go_upto_region 12 with (fail)
          refine wp_region_noPanic ?_
          refine wp_region_held (S := fun W => W.heap[w.heap.size + 1]? = some (.cells (ringA c1 L1) 30 (0, 0)) ∧ W.cell? ⟨b, off + k * 2 + 1, none⟩ = some (.slice a3 x.bytes.length c3)) (by kernel_rfl) ?_
          have hS : (W2.drew).heap[w.heap.size + 1]? = some (.cells (ringA c1 L1) 30 (0, 0)) ∧ (W2.drew).cell? ⟨b, off + k * 2 + 1, none⟩ = some (.slice a3 x.bytes.length c3) := ⟨HR2.out, hc2⟩
          change wpAnyH _ _ _ _ _ _ _ _ W2.drew
          refine take_now (i := 0) (.agg (ringA c1 L1)) rfl (by kernel_rfl) (by kernel_rfl) (by kernel_rfl) rfl (fun W h => run_load30 hG1 rfl rfl h.1) hS ?_
          refine take_now (i := 1) (.slice (some ⟨b, off, none⟩) la.length capa) rfl (by kernel_rfl) (by kernel_rfl) (by kernel_rfl) rfl (fun _ _ => rfl) hS ?_
          refine take_now (i := 2) (.int .i64 k) rfl (by kernel_rfl) (by kernel_rfl) (by kernel_rfl) rfl (fun _ _ => rfl) hS ?_
          refine take_now (i := 3) (.pointer (some ⟨b, off + k * 2, none⟩)) rfl (by kernel_rfl) (by kernel_rfl) (by kernel_rfl) rfl (fun _ _ => by go_simp) hS ?_
          refine take_now (i := 4) (.pointer (some ⟨b, off + k * 2 + 1, none⟩)) rfl (by kernel_rfl) (by kernel_rfl) (by kernel_rfl) rfl (fun _ _ => by go_simp) hS ?_
          refine take_now (i := 5) (.slice a3 x.bytes.length c3) rfl (by kernel_rfl) (by kernel_rfl) (by kernel_rfl) rfl (fun W h => by have h2 := h.2; go_simp) hS ?_
          refine one_now (i := 6) rfl (by kernel_rfl) rfl ?_
          have hb3 : Below W2.heap.size W2 W2.drew := (Below.refl _ _).drew
          have hR3 := (hS.1)
          have hS3 := (hb3.block _ (Array.getElem?_eq_some_iff.1 HS2.out).1).trans HS2.out
          have hT3 := HT2.out.below hb3
          have hB3 := hB2.drew
          clear hS hb3 hc2 HR2 HS2 HT2 hB2
          generalize W2.drew = W3 at hR3 hS3 hT3 hB3 ⊢
          go_wp2_with fail
          refine (push_any c1 L1 _ x.bytes _ hG1 (HBV.out.below hB3)).mono ?_
          rintro e W4 ⟨rfl, hb4⟩
          have hG4 := hG1.pushed x.bytes
          have hR4 := (hb4.block _ (Array.getElem?_eq_some_iff.1 hR3).1).trans hR3
          have hS4 := (hb4.block _ (Array.getElem?_eq_some_iff.1 hS3).1).trans hS3
          have hT4 := hT3.below hb4
          have hB4 := hB3.trans (hb4.mono hB3.size)
          clear hb4 hR3 hS3 hT3 hB3
          obtain ⟨E, hE⟩ : ∃ E, E = pushE c1 L1 x.bytes := ⟨_, rfl⟩
          obtain ⟨LP, hLP⟩ : ∃ LP, LP = pushL c1 L1 x.bytes := ⟨_, rfl⟩
          rw [← hE, ← hLP]
          rw [← hLP] at hG4
          have hc4 := cell_below hB4 HC2.out
          refine ⟨⟨hR4, hc4⟩, ?_⟩
          have hEL := push_cases c1 L1 x.bytes
          rw [← hE, ← hLP] at hEL
          have HEL := Lib.hid hEL
          clear hE hLP hEL
          refine take_now (i := 7) (.tuple #[.agg (ringA c1 LP), .int .i64 E]) rfl (by kernel_rfl) (by kernel_rfl) (by kernel_rfl) rfl (fun _ _ => rfl) ⟨hR4, hc4⟩ ?_
          refine take_now (i := 8) (.agg (ringA c1 LP)) rfl (by kernel_rfl) (by kernel_rfl) (by kernel_rfl) rfl (fun _ _ => by go_simp) ⟨hR4, hc4⟩ ?_
          refine take_now (i := 9) (.int .i64 E) rfl (by kernel_rfl) (by kernel_rfl) (by kernel_rfl) rfl (fun _ _ => by go_simp) ⟨hR4, hc4⟩ ?_
          refine one_now (i := 10) rfl (by kernel_rfl) rfl ?_
          refine wp_store_row 30 (.tmp 10) (.tmp 56) rfl Bs (ringA c1 LP) rfl rfl 30 (ringA c1 L1) hS4 (by rw [Try.size30, size_ringA hG4]) (by rw [size_ringA hG1, size_ringA hG4]) (one_ringA _ _) ?_
          have hR5 := (setRow_other W4 Bs (w.heap.size + 1) (ringA c1 LP) (by omega)).trans hR4
          have hS5 := setRow_heap W4 Bs _ (ringA c1 LP) 30 _ hS4
          have hT5 := hT4.ring hS4 (ringA c1 LP)
          have hB5 := below_setRow hB4 (by omega : w.heap.size ≤ Bs) (ringA c1 LP)
          clear hR4 hS4 hT4 hB4 hc4
          generalize W4.setRow Bs (ringA c1 LP) = W5 at hR5 hS5 hT5 hB5 ⊢
          have hc5 := cell_below hB5 HC2.out
          refine ⟨⟨hR5, hc5⟩, ?_⟩
          refine one_now (i := 11) rfl (by kernel_rfl) rfl ?_
          go_wp2_with fail
          refine wpAnyH_done (by kernel_rfl) (NoPanic.normal ?_) _
          have HR5 := Lib.hid hR5
          have HS5 := Lib.hid hS5
          have HT5 := Lib.hid hT5
          clear hR5 hS5 hT5
          by_cases hE0 : E = 0
          · have t1 : ((E : Int) == 0) = true := by simp [hE0]
            obtain ⟨rfl, hx1⟩ := (HEL.out).1 hE0
            have hconv := conv_bytes (HBV.out.below hB5) hx1
            obtain ⟨St, hSt⟩ : ∃ St : ByteArray, St = ⟨x.bytes.toArray⟩ := ⟨_, rfl⟩
            rw [strV, ← hSt] at hconv
            have HSt := Lib.hid hSt
            have HE0 := Lib.hid hE0
            clear hSt hE0 HEL
            obtain ⟨i0, hi, hz0, hz1, hz2⟩ := info_parts Try.info9
            go_wp2_with (at_builtin; refine wpList_append_own_at _ rfl (.tmp 60) (.tmp 67) 34 rfl w.heap.size 9 i0 (.string ByteArray.empty) 1 16 Try.underlying34 hi hz0 hz1 hz2 rfl (by decide) _ _ _ rfl (HT5.out.ins.alloc _) ⟨W5.heap.size, 0, none⟩ 1 1 [.string St] rfl rfl (cell_one_new _ _ _) (by simp [Value.oneCell']) (by unfold maxLen; omega) (by omega) (by have := hB5.size; simp; omega) ?_; intro v' w1 hown' hgrow _ hblk)
            go_meet
            case rel => exact ⟨c1, L1 ++ [x.bytes], I1 ++ [x.bytes], O1, E, rfl, hG4, grown_block HT5.out.ins hgrow HR5.out, grown_block HT5.out.ins hgrow HS5.out, HT5.out.add (by rw [strV, ← HSt.out]; exact hown') hgrow (by rcases hblk with hk1 | hk1; exact .inl hk1; exact .inr (by rw [hk1]; simp)), by rw [HIO.out, List.append_assoc], by simp; omega, fun h => absurd HE0.out h, grown_below hB5 HT5.out.ins hgrow⟩
          · have t1 : ((E : Int) == 0) = false := by simp [hE0]
            have hLL : L1 = LP := ((HEL.out).2 hE0).symm
            subst hLL
            clear hE0 HEL
            go_wp2_with fail
            go_meet
            case rel => exact ⟨c1, L1, I1, O1, E, rfl, hG4, HR5.out, HS5.out, HT5.out, HIO.out, by omega, fun _ => rfl, hB5⟩
        by_cases e1 : x.op = 1
        · have t0 : (x.op == 0) = false := by simp [e1]
          have t1 : (x.op == 1) = true := by simp [e1]
          clear e0 e1 hc1
          go_wp2_with (with_reducible refine wpList_load_row rfl 30 (.tmp 5) rfl (w.heap.size + 1) rfl 30 (ringA c1 L1) (0, 0) _ HR2.out Try.underlying30 rfl (by rw [Try.size30, size_ringA hG1]) ?_)
          refine (pop_any c1 L1 _ hG1).mono ?_
          rintro e W4 (⟨rfl, rfl, hb4⟩ | ⟨bb, M, rfl, v, rfl, hov, hb4⟩)
          · have hR4 := (hb4.block _ (Array.getElem?_eq_some_iff.1 HR2.out).1).trans HR2.out
            have hS4 := (hb4.block _ (Array.getElem?_eq_some_iff.1 HS2.out).1).trans HS2.out
            have hT4 := HT2.out.below hb4
            have hB4 := hB2.trans (hb4.mono hB2.size)
            have HR4 := Lib.hid hR4
            have HS4 := Lib.hid hS4
            have HT4 := Lib.hid hT4
            clear hb4 hR4 hS4 hT4 HR2 HS2 HT2 hB2
            go_wp2_with (with_reducible refine wpList_store_row rfl 30 (.tmp 10) (.tmp 74) rfl Bs (ringA c1 []) rfl rfl 30 (ringA c1 []) HS4.out (by rw [Try.size30, size_ringA hG1]) rfl (one_ringA _ _) ?_)
            go_meet
            case rel => exact ⟨c1, [], I1, O1, 3, rfl, hG1, (setRow_other _ _ _ _ (by omega)).trans HR4.out, setRow_heap _ _ _ _ 30 _ HS4.out, HT4.out.ring HS4.out _, HIO.out, by omega, fun _ => rfl, below_setRow hB4 (by omega) _⟩
          · have hR4 := (hb4.block _ (Array.getElem?_eq_some_iff.1 HR2.out).1).trans HR2.out
            have hS4 := (hb4.block _ (Array.getElem?_eq_some_iff.1 HS2.out).1).trans HS2.out
            have hT4 := HT2.out.below hb4
            have hB4 := hB2.trans (hb4.mono hB2.size)
            have hlts : Bs < W2.heap.size := (Array.getElem?_eq_some_iff.1 HS2.out).1
            have HR4 := Lib.hid hR4
            have HS4 := Lib.hid hS4
            have HT4 := Lib.hid hT4
            have HOV := Lib.hid hov
            clear hb4 hR4 hS4 hT4 HR2 HS2 HT2 hB2 hov
            go_upto_region 17 with (with_reducible refine wpList_store_row rfl 30 (.tmp 10) (.tmp 74) rfl Bs (ringA c1 M) rfl rfl 30 (ringA c1 (bb :: M)) HS4.out (by rw [Try.size30, size_ringA hG1.tail]) (by rw [size_ringA hG1, size_ringA hG1.tail]) (one_ringA _ _) ?_)
            have hR5 := (setRow_other W4 Bs (w.heap.size + 1) (ringA c1 M) (by omega)).trans HR4.out
            have hS5 := setRow_heap W4 Bs _ (ringA c1 M) 30 _ HS4.out
            have hT5 := HT4.out.ring HS4.out (ringA c1 M)
            have hB5 := below_setRow hB4 (by omega : w.heap.size ≤ Bs) (ringA c1 M)
            have ho5 := owns_setRow HOV.out (ringA c1 M) hlts
            clear HR4 HS4 HT4 hB4 HOV hlts
            generalize W4.setRow Bs (ringA c1 M) = W5 at hR5 hS5 hT5 hB5 ho5 ⊢
            obtain ⟨g, capv, rfl, hcells⟩ := owns_cells ho5 hG1.headLe.1
            have hconv := run_convert_bytes_back (P := Try.prog) W5 42 9 5 ⟨g, 0, none⟩ capv bb Try.underlying42 Try.underlying5 Try.underlying9 hcells
            obtain ⟨St, hSt⟩ : ∃ St : ByteArray, St = ⟨bb.toArray⟩ := ⟨_, rfl⟩
            rw [← hSt] at hconv
            have HSt := Lib.hid hSt
            have HR5 := Lib.hid hR5
            have HS5 := Lib.hid hS5
            have HT5 := Lib.hid hT5.swap
            clear hSt hcells ho5 hR5 hS5 hT5
            have hOk : O1.length ≤ k := by have := congrArg List.length HIO.out; simp at this; omega
            obtain ⟨i0, hi, hz0, hz1, hz2⟩ := info_parts Try.info9
            go_wp2_with (at_builtin; refine wpList_append_own_at _ rfl (.tmp 79) (.tmp 82) 34 rfl w.heap.size 9 i0 (.string ByteArray.empty) 1 16 Try.underlying34 hi hz0 hz1 hz2 rfl (by decide) _ _ _ rfl (HT5.out.ins.alloc _) ⟨W5.heap.size, 0, none⟩ 1 1 [.string St] rfl rfl (cell_one_new _ _ _) (by simp [Value.oneCell']) (by unfold maxLen; omega) (by omega) (by have := hB5.size; simp; omega) ?_; intro v' w1 hown' hgrow _ hblk)
            go_meet
            case rel => exact ⟨c1, M, I1, O1 ++ [bb], 0, rfl, hG1.tail, grown_block HT5.out.ins hgrow HR5.out, grown_block HT5.out.ins hgrow HS5.out, (HT5.out.add (by rw [strV, ← HSt.out]; exact hown') hgrow (by rcases hblk with hk1 | hk1; exact .inl hk1; exact .inr (by rw [hk1]; simp))).swap, by rw [HIO.out]; simp, by omega, fun h => absurd rfl h, grown_below hB5 HT5.out.ins hgrow⟩
        by_cases e2 : x.op = 2
        · have t0 : (x.op == 0) = false := by simp [e2]
          have t1 : (x.op == 1) = false := by simp [e2]
          have t2 : (x.op == 2) = true := by simp [e2]
          clear e0 e1 e2 hc1
          go_wp2_with (with_reducible refine wpList_load_row rfl 30 (.tmp 5) rfl (w.heap.size + 1) rfl 30 (ringA c1 L1) (0, 0) _ HR2.out Try.underlying30 rfl (by rw [Try.size30, size_ringA hG1]) ?_)
          refine (grow_nat c1 L1 _ hG1).mono ?_
          rintro e W4 ⟨d, q, rfl, hGd, hb4⟩
          have hR4 := (hb4.block _ (Array.getElem?_eq_some_iff.1 HR2.out).1).trans HR2.out
          have hS4 := (hb4.block _ (Array.getElem?_eq_some_iff.1 HS2.out).1).trans HS2.out
          have hT4 := HT2.out.below hb4
          have hB4 := hB2.trans (hb4.mono hB2.size)
          have HR4 := Lib.hid hR4
          have HS4 := Lib.hid hS4
          have HT4 := Lib.hid hT4
          clear hb4 hR4 hS4 hT4 HR2 HS2 HT2 hB2
          go_wp2_with (with_reducible refine wpList_store_row rfl 30 (.tmp 10) (.tmp 89) rfl Bs (ringA d L1) rfl rfl 30 (ringA c1 L1) HS4.out (by rw [Try.size30, size_ringA hGd]) (by rw [size_ringA hG1, size_ringA hGd]) (one_ringA _ _) ?_)
          go_meet
          case rel => exact ⟨d, L1, I1, O1, q, rfl, hGd, (setRow_other _ _ _ _ (by omega)).trans HR4.out, setRow_heap _ _ _ _ 30 _ HS4.out, HT4.out.ring HS4.out _, HIO.out, by omega, fun _ => rfl, below_setRow hB4 (by omega) _⟩
        · have t0 : (x.op == 0) = false := by simp [e0]
          have t1 : (x.op == 1) = false := by simp [e1]
          have t2 : (x.op == 2) = false := by simp [e2]
          clear e0 e1 e2 hc1
          go_wp2_with fail
          go_meet
          case rel => exact ⟨c1, L1, I1, O1, 0, rfl, hG1, HR2.out, HS2.out, HT2.out, HIO.out, by omega, fun _ => rfl, hB2⟩
      case rest =>
        clear HR2 HS2 HT2 hB2 HC2 HBV hc1 HIO
        obtain ⟨c2, L2, I2, O2, q, rfl, hG2, hR, hS, hT, hIO2, hI2, hq, hBw⟩ := hcut
        have HQ := Lib.hid hq
        have HIO2 := Lib.hid hIO2
        clear hq hIO2
        go_upto_region 21 with (fail)
        go_cut [100] (fun s W => s = .bool false ∧ W.heap[w.heap.size + 1]? = some (.cells (ringA c1 L1) 30 (0, 0)) ∧ W.heap[Bs]? = some (.cells (ringA c2 L2) 30 (0, 0)) ∧ TwoRows w u7 u8 I2 O2 W ∧ Below w.heap.size w W)
        case first =>
          by_cases hq0 : q = 0
          · have tq : ((q : Int) != 0) = false := by simp [hq0]
            have HR := Lib.hid hR
            have HS := Lib.hid hS
            have HT := Lib.hid hT
            have HBw := Lib.hid hBw
            clear hq0 HQ hR hS hT hBw
            go_quiet (fail)
            go_wp2_with fail
            go_meet
            case rel => exact ⟨rfl, HR.out, HS.out, HT.out.below (Quiet.below ⟨_, rfl⟩ _), HBw.out.trans (Quiet.below ⟨_, rfl⟩ _)⟩
          · have tq : ((q : Int) != 0) = true := by simp [hq0]
            obtain rfl : L2 = L1 := HQ.out hq0
            refine wp_region_noPanic ?_
            refine wp_region_held (S := fun W => W.heap[w.heap.size + 1]? = some (.cells (ringA c1 L2) 30 (0, 0)) ∧ W.heap[Bs]? = some (.cells (ringA c2 L2) 30 (0, 0))) (by kernel_rfl) ?_
            have hb3 : Below wc.heap.size wc wc.drew := (Below.refl _ _).drew
            have hR3 : wc.drew.heap[w.heap.size + 1]? = _ := hR
            have hS3 : wc.drew.heap[Bs]? = _ := hS
            have hT3 := hT.below hb3
            have hB3 := hBw.drew
            change wpAnyH _ _ _ _ _ _ _ _ wc.drew
            clear hR hS hT hBw hb3 HQ hq0
            generalize wc.drew = W3 at hR3 hS3 hT3 hB3 ⊢
            refine take_now (i := 0) (.int .i64 q) rfl (by kernel_rfl) (by kernel_rfl) (by kernel_rfl) rfl (fun _ _ => rfl) ⟨hR3, hS3⟩ ?_
            refine take_now (i := 1) (.bool true) rfl (by kernel_rfl) (by kernel_rfl) (by kernel_rfl) rfl (fun _ _ => by go_simp) ⟨hR3, hS3⟩ ?_
            refine take_now (i := 2) (.bool true) rfl (by kernel_rfl) (by kernel_rfl) (by kernel_rfl) rfl (fun _ _ => rfl) ⟨hR3, hS3⟩ ?_
            refine take_now (i := 3) (.agg (ringA c2 L2)) rfl (by kernel_rfl) (by kernel_rfl) (by kernel_rfl) rfl (fun W h => run_load30 hG2 rfl rfl h.2) ⟨hR3, hS3⟩ ?_
            refine take_now (i := 5) (.agg (ringA c1 L2)) rfl (by kernel_rfl) (by kernel_rfl) (by kernel_rfl) rfl (fun W h => run_load30 hG1 rfl rfl h.1) ⟨hR3, hS3⟩ ?_
            refine one_now (i := 4) rfl (by kernel_rfl) rfl ?_
            have HR3 := Lib.hid hR3
            have HS3 := Lib.hid hS3
            clear hR3 hS3
            go_wp2_with fail
            refine (told_any c2 L2 _ hG2).mono ?_
            rintro e W4 ⟨v4, rfl, ho4, hb4⟩
            have hR4 := (hb4.block _ (Array.getElem?_eq_some_iff.1 HR3.out).1).trans HR3.out
            have hS4 := (hb4.block _ (Array.getElem?_eq_some_iff.1 HS3.out).1).trans HS3.out
            have hT4 := hT3.below hb4
            have hB4 := hB3.trans (hb4.mono hB3.size)
            clear hb4 HR3 HS3 hT3 hB3
            refine ⟨⟨hR4, hS4⟩, ?_⟩
            refine one_now (i := 6) rfl (by kernel_rfl) rfl ?_
            have HR4 := Lib.hid hR4
            have HS4 := Lib.hid hS4
            clear hR4 hS4
            go_wp2_with fail
            refine (told_any c1 L2 _ hG1).mono ?_
            rintro e W5 ⟨v5, rfl, ho5, hb5⟩
            have hR5 := (hb5.block _ (Array.getElem?_eq_some_iff.1 HR4.out).1).trans HR4.out
            have hS5 := (hb5.block _ (Array.getElem?_eq_some_iff.1 HS4.out).1).trans HS4.out
            have hT5 := hT4.below hb5
            have hB5 := hB4.trans (hb5.mono hB4.size)
            have ho4' := owns_below ho4 hb5
            clear hb5 HR4 HS4 hT4 hB4 ho4
            refine ⟨⟨hR5, hS5⟩, ?_⟩
            refine one_now (i := 7) rfl (by kernel_rfl) rfl ?_
            have HR5 := Lib.hid hR5
            have HS5 := Lib.hid hS5
            clear hR5 hS5
            go_wp2_with fail
            refine (same_true v4 v5 L2.length _ _ (L2.map fun b => ⟨b.toArray⟩) _ (by have := hG1.len; have := hG1.cap; omega) (by rw [map_strV]; exact ho4') (by rw [map_strV]; exact ho5)).mono ?_
            rintro e w6 ⟨rfl, n6, rfl⟩
            refine ⟨⟨HR5.out, HS5.out⟩, ?_⟩
            refine take_now (i := 8) (.bool false) rfl (by kernel_rfl) (by kernel_rfl) (by kernel_rfl) rfl (fun _ _ => by go_simp) ⟨HR5.out, HS5.out⟩ ?_
            refine take_now (i := 9) (.bool false) rfl (by kernel_rfl) (by kernel_rfl) (by kernel_rfl) rfl (fun _ _ => by go_simp) ⟨HR5.out, HS5.out⟩ ?_
            refine wpAnyH_done (by kernel_rfl) (NoPanic.normal ?_) _
            have HT5 := Lib.hid hT5
            clear hT5 ho4' ho5
            go_wp2_with fail
            go_meet
            case rel => exact ⟨rfl, HR5.out, HS5.out, HT5.out.below (Quiet.below ⟨_, rfl⟩ _), hB5.trans (Quiet.below ⟨_, rfl⟩ _)⟩
        case rest =>
          obtain ⟨rfl, hR, hS, hT, hBw⟩ := hcut
          have HR := Lib.hid hR
          have HS := Lib.hid hS
          have HT := Lib.hid hT
          clear hR hS hT
          go_upto_region 24 with (first
            | (with_reducible refine wpList_load_row rfl 30 (.tmp 10) rfl Bs rfl 30 (ringA c2 L2) (0, 0) _ HS.out Try.underlying30 rfl (by rw [Try.size30, size_ringA hG2]) ?_)
            | (with_reducible refine wpList_store_row rfl 30 (.tmp 5) (.tmp 101) rfl (w.heap.size + 1) (ringA c2 L2) rfl rfl 30 (ringA c1 L1) HR.out (by rw [Try.size30, size_ringA hG2]) (by rw [size_ringA hG1, size_ringA hG2]) (one_ringA _ _) ?_))
          have hR5 := setRow_heap wc (w.heap.size + 1) _ (ringA c2 L2) 30 _ HR.out
          have hT5 := HT.out.ring HR.out (ringA c2 L2)
          have hB5 := below_setRow hBw (Nat.le_succ _) (ringA c2 L2)
          clear HR HS HT hBw
          generalize wc.setRow (w.heap.size + 1) (ringA c2 L2) = W5 at hR5 hT5 hB5 ⊢
          go_frame
          go_cut [122] (fun s W => s = .bool false ∧ W.heap[w.heap.size + 1]? = some (.cells (ringA c2 L2) 30 (0, 0)) ∧ TwoRows w u7 u8 I2 O2 W ∧ Below w.heap.size w W)
          case first =>
            refine wp_region_noPanic ?_
            refine wp_region_held (S := fun W => W.heap[w.heap.size + 1]? = some (.cells (ringA c2 L2) 30 (0, 0))) (by kernel_rfl) ?_
            have hb6 : Below W5.heap.size W5 W5.drew := (Below.refl _ _).drew
            have hR6 : W5.drew.heap[w.heap.size + 1]? = _ := hR5
            have hT6 := hT5.below hb6
            have hB6 := hB5.drew
            change wpAnyH _ _ _ _ _ _ _ _ W5.drew
            clear hR5 hT5 hB5 hb6
            generalize W5.drew = W6 at hR6 hT6 hB6 ⊢
            have hcL := hG2.len
            have hc8 := hG2.cap
            have d1 : decide (c2 < L2.length) = false := by simp; omega
            have d2 : decide ((8 : Int) < (c2 : Int)) = false := by simp; omega
            refine take_now (i := 0) (.agg (ringA c2 L2)) rfl (by kernel_rfl) (by kernel_rfl) (by kernel_rfl) rfl (fun W h => run_load30 hG2 rfl rfl h) hR6 ?_
            simp only [Act.put]
            refine take_now (i := 2) (.agg (ringA c2 L2)) rfl (by kernel_rfl) (by kernel_rfl) (by kernel_rfl) rfl (fun W h => run_load30 hG2 rfl rfl h) hR6 ?_
            simp only [Act.put]
            refine one_now (i := 1) rfl (by kernel_rfl) rfl ?_
            have HR6 := Lib.hid hR6
            clear hR6
            go_wp2_with fail
            refine (len_any c2 L2 _).mono ?_
            rintro e w' ⟨rfl, rfl⟩
            have hb7 : Below W6.heap.size W6 (W6.alloc (.cells (ringA c2 L2) 30)) := (Below.refl _ _).alloc (Nat.le_refl _) _
            have hR7 := (hb7.block _ (Array.getElem?_eq_some_iff.1 HR6.out).1).trans HR6.out
            have hT7 := hT6.below hb7
            have hB7 := hB6.trans (hb7.mono hB6.size)
            clear HR6 hT6 hB6 hb7
            generalize W6.alloc (.cells (ringA c2 L2) 30) = W7 at hR7 hT7 hB7 ⊢
            refine ⟨hR7, ?_⟩
            refine one_now (i := 3) rfl (by kernel_rfl) rfl ?_
            have HR7 := Lib.hid hR7
            clear hR7
            go_wp2_with fail
            refine (cap_any c2 L2 _).mono ?_
            rintro e w' ⟨rfl, rfl⟩
            have hb8 : Below W7.heap.size W7 (W7.alloc (.cells (ringA c2 L2) 30)) := (Below.refl _ _).alloc (Nat.le_refl _) _
            have hR8 := (hb8.block _ (Array.getElem?_eq_some_iff.1 HR7.out).1).trans HR7.out
            have hT8 := hT7.below hb8
            have hB8 := hB7.trans (hb8.mono hB7.size)
            clear HR7 hT7 hB7 hb8
            generalize W7.alloc (.cells (ringA c2 L2) 30) = W8 at hR8 hT8 hB8 ⊢
            refine ⟨hR8, ?_⟩
            refine take_now (i := 4) (.bool false) rfl (by kernel_rfl) (by kernel_rfl) (by kernel_rfl) rfl (fun _ _ => by go_simp) hR8 ?_
            simp only [Act.put]
            refine take_now (i := 5) (.bool false) rfl (by kernel_rfl) (by kernel_rfl) (by kernel_rfl) rfl (fun _ _ => rfl) hR8 ?_
            simp only [Act.put]
            refine take_now (i := 6) (.agg (ringA c2 L2)) rfl (by kernel_rfl) (by kernel_rfl) (by kernel_rfl) rfl (fun W h => run_load30 hG2 rfl rfl h) hR8 ?_
            simp only [Act.put]
            refine one_now (i := 7) rfl (by kernel_rfl) rfl ?_
            have HR8 := Lib.hid hR8
            clear hR8
            go_wp2_with fail
            refine (cap_any c2 L2 _).mono ?_
            rintro e w' ⟨rfl, rfl⟩
            have hb9 : Below W8.heap.size W8 (W8.alloc (.cells (ringA c2 L2) 30)) := (Below.refl _ _).alloc (Nat.le_refl _) _
            have hR9 := (hb9.block _ (Array.getElem?_eq_some_iff.1 HR8.out).1).trans HR8.out
            have hT9 := hT8.below hb9
            have hB9 := hB8.trans (hb9.mono hB8.size)
            clear HR8 hT8 hB8 hb9
            generalize W8.alloc (.cells (ringA c2 L2) 30) = W9 at hR9 hT9 hB9 ⊢
            refine ⟨hR9, ?_⟩
            refine take_now (i := 8) (.bool false) rfl (by kernel_rfl) (by kernel_rfl) (by kernel_rfl) rfl (fun _ _ => by go_simp) hR9 ?_
            simp only [Act.put]
            refine take_now (i := 9) (.bool false) rfl (by kernel_rfl) (by kernel_rfl) (by kernel_rfl) rfl (fun _ _ => by go_simp) hR9 ?_
            simp only [Act.put]
            refine take_now (i := 10) (.bool false) rfl (by kernel_rfl) (by kernel_rfl) (by kernel_rfl) rfl (fun _ _ => rfl) hR9 ?_
            simp only [Act.put]
            refine take_now (i := 12) u8 rfl (by kernel_rfl) (by kernel_rfl) (by kernel_rfl) rfl (fun _ _ => rfl) hR9 ?_
            simp only [Act.put]
            refine take_now (i := 14) (.agg (ringA c2 L2)) rfl (by kernel_rfl) (by kernel_rfl) (by kernel_rfl) rfl (fun W h => run_load30 hG2 rfl rfl h) hR9 ?_
            simp only [Act.put]
            refine take_now (i := 17) u7 rfl (by kernel_rfl) (by kernel_rfl) (by kernel_rfl) rfl (fun _ _ => rfl) hR9 ?_
            simp only [Act.put]
            refine one_now (i := 11) rfl (by kernel_rfl) rfl ?_
            have HR9 := Lib.hid hR9
            clear hR9
            go_wp2_with fail
            have hb10 : Below W9.heap.size W9 (W9.alloc (.cells #[] 9)) := (Below.refl _ _).alloc (Nat.le_refl _) _
            have hR10 := (hb10.block _ (Array.getElem?_eq_some_iff.1 HR9.out).1).trans HR9.out
            have hT10 := hT9.below hb10
            have hB10 := hB9.trans (hb10.mono hB9.size)
            have ho10 := World.ownsRow_made (base := W9.heap.size) (e := 9) (size := 1) W9 #[] 0 (Nat.le_refl _) (by decide) rfl
            obtain ⟨n9, hn9⟩ : ∃ n9, n9 = W9.heap.size := ⟨_, rfl⟩
            have hn9w : w.heap.size ≤ n9 := by rw [hn9]; exact hB9.size
            have hR9lt : w.heap.size + 1 < n9 := by rw [hn9]; exact (Array.getElem?_eq_some_iff.1 HR9.out).1
            have hz10 : n9 ≤ (W9.alloc (.cells #[] 9)).heap.size := by rw [hn9]; simp
            have hins9 : ∀ g, u7.ownBlock = some g → g < n9 := fun g hg => by rw [hn9]; exact (hT9.ins.lt g hg).2
            have houts9 : ∀ g, u8.ownBlock = some g → g < n9 := fun g hg => by rw [hn9]; exact (hT9.outs.lt g hg).2
            rw [← hn9] at ho10 ⊢
            clear HR9 hT9 hB9 hb10 hn9
            generalize W9.alloc (.cells #[] 9) = W10 at hR10 hT10 hB10 ho10 hz10 ⊢
            refine ⟨hR10, ?_⟩
            refine one_now (i := 13) rfl (by kernel_rfl) rfl ?_
            have hOI := congrArg List.length HIO2.out
            simp at hOI
            refine wp_append_texts (.tmp 113) (.tmp 114) rfl n9 w.heap.size _ u8 [] O2 rfl ho10 rfl hT10.outs (by simp; omega) hz10 ?_
            intro v13 W13 ho13 hb13
            have hR13 := (hb13.block _ hR9lt).trans hR10
            have hT13 : TwoRows w u7 u8 I2 O2 W13 := ⟨owns_upto hT10.ins hins9 hb13, owns_upto hT10.outs houts9 hb13, hT10.apart⟩
            have hB13 := hB10.trans (hb13.mono hn9w)
            have hz13 := Nat.le_trans hz10 hb13.size
            simp only [List.length_nil, Nat.zero_add, List.nil_append] at ho13
            clear hb13 hR10 hT10 hB10 hz10 ho10
            refine ⟨hR13, ?_⟩
            simp only [Act.put]
            refine one_now (i := 15) rfl (by kernel_rfl) rfl ?_
            have HR13 := Lib.hid hR13
            clear hR13
            go_wp2_with fail
            refine (told_any c2 L2 _ hG2).mono ?_
            rintro e W15 ⟨v15, rfl, ho15, hb15⟩
            have hR15 := (hb15.block _ (Array.getElem?_eq_some_iff.1 HR13.out).1).trans HR13.out
            have hT15 := hT13.below hb15
            have hB15 := hB13.trans (hb15.mono hB13.size)
            have ho13' := owns_below ho13 hb15
            have hz15 := Nat.le_trans hz13 hb15.size
            clear hb15 HR13 hT13 hB13 ho13 hz13
            refine ⟨hR15, ?_⟩
            refine one_now (i := 16) rfl (by kernel_rfl) rfl ?_
            refine wp_append_texts (.tmp 115) (.tmp 117) rfl n9 _ v13 v15 O2 L2 rfl ho13' rfl ho15 (by omega) hz15 ?_
            intro v16 W16 ho16 hb16
            have hR16 := (hb16.block _ hR9lt).trans hR15
            have hT16 : TwoRows w u7 u8 I2 O2 W16 := ⟨owns_upto hT15.ins hins9 hb16, owns_upto hT15.outs houts9 hb16, hT15.apart⟩
            have hB16 := hB15.trans (hb16.mono hn9w)
            clear hb16 hR15 hT15 hB15 ho13' ho15 hz15
            refine ⟨hR16, ?_⟩
            simp only [Act.put]
            refine one_now (i := 18) rfl (by kernel_rfl) rfl ?_
            have HR16 := Lib.hid hR16
            clear hR16
            go_wp2_with fail
            refine (same_true v16 u7 I2.length _ _ (I2.map fun b => ⟨b.toArray⟩) _ (by omega) (by rw [map_strV, HIO2.out, List.length_append]; exact ho16) (by rw [map_strV]; exact hT16.ins)).mono ?_
            rintro e w18 ⟨rfl, n18, rfl⟩
            refine ⟨HR16.out, ?_⟩
            refine take_now (i := 19) (.bool false) rfl (by kernel_rfl) (by kernel_rfl) (by kernel_rfl) rfl (fun _ _ => by go_simp) HR16.out ?_
            refine take_now (i := 20) (.bool false) rfl (by kernel_rfl) (by kernel_rfl) (by kernel_rfl) rfl (fun _ _ => by go_simp) HR16.out ?_
            refine wpAnyH_done (by kernel_rfl) (NoPanic.normal ?_) _
            have HT16 := Lib.hid hT16
            clear hT16 ho16 hins9 houts9
            go_wp2_with fail
            go_meet
            case rel => exact ⟨rfl, HR16.out, HT16.out.below (Quiet.below ⟨_, rfl⟩ _), hB16.trans (Quiet.below ⟨_, rfl⟩ _)⟩
          case rest =>
            obtain ⟨rfl, hR, hT, hBw⟩ := hcut
            have HR := Lib.hid hR
            have HT := Lib.hid hT
            clear hR hT
            go_wp2_with fail
            go_roundw
            case rel => exact ⟨k + 1, by omega, by go_num, c2, L2, I2, O2, hG2, HR.out, HT.out, HIO2.out, hI2, hBw⟩
            case measure => simp [intOf]; omega
    · have g2 : ¬ (k : Int) < (la.length : Int) := by omega
      clear hlt HCA
      go_wp2_with fail
      refine (awake_true _).mono ?_
      rintro e w7 ⟨rfl, hb7⟩
      go_wp2_with fail
      go_ret
      exact ⟨rfl, hB1.trans (hb7.mono hB1.size)⟩

end Go.Proofs.Ytgipgeeiibkjjaa
