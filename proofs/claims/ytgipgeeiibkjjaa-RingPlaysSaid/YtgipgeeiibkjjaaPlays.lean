/- RingPlays: the walk. -/
import Derived.Test.YtgipgeeiibkjjaaDoespop
import Derived.Test.YtgipgeeiibkjjaaDoesclear
namespace Go.Proofs.Ytgipgeeiibkjjaa
open Go.RowKit

theorem does_any (c : Nat) (L : Chunks) (v bv : Value) (q : Int) (bs : List UInt8) (w : World) (hG : Good c L) (hT : IsTexts w v L) (hB : IsBytes w bv bs) (hlen : bs.length ≤ 100000) :
    Calls Try.prog 11 #[.agg (ringA c L), refV c v, .agg #[.int .i64 q, bv]] w (BothAre w) := by
  by_cases h0 : q = 0
  · subst h0; exact does_push c L v bv bs w hG hT hB hlen
  by_cases h1 : q = 1
  · subst h1; exact does_pop c L v bv w hG hT
  by_cases h2 : q = 2
  · subst h2; exact does_grow c L v bv w hG hT
  by_cases h3 : q = 3
  · subst h3; exact does_clear c L v bv w hG hT
  exact does_else c L v bv q w hG hT h0 h1 h2 h3

/-- A ring of any capacity, or the zero ring, of both makes. -/
theorem news (n : Int) : ∃ c q : Nat, Good c [] ∧ (∀ w, Calls Try.prog 8 #[.int .i64 n] w fun e w' => e = .returned (.tuple #[.agg (ringA c []), .int .i64 q]) ∧ Below w.heap.size w w') ∧
    ∀ w, Calls Try.prog 9 #[.int .i64 n] w fun e w' => e = .returned (.tuple #[refV c (.slice none 0 0), .int .i64 q]) ∧ Below w.heap.size w w' := by
  by_cases h : 1 ≤ n ∧ n ≤ 8
  · obtain ⟨c, rfl⟩ := Int.eq_ofNat_of_zero_le (by omega : 0 ≤ n)
    exact ⟨c, 0, good_empty (by omega), fun w => (new_ok c w (by omega) (by omega)).mono fun e w' ⟨he, hw⟩ => ⟨he, by rw [hw]; exact (Below.refl _ _).alloc (Nat.le_refl _) _⟩, fun w => refNew_ok c w (by omega) (by omega)⟩
  · exact ⟨0, 16, good_empty (by omega), fun w => (new_no n w (by omega)).mono fun e w' ⟨he, hw⟩ => ⟨he, by rw [hw]; exact (Below.refl _ _).alloc (Nat.le_refl _) _⟩, fun w => refNew_no n w (by omega)⟩

/-- Two operations that only read, one behind the other, in either order. -/
theorem two_now {P : Program} {md : Region.Mode} {ops : Array Oper} {Q : Exit → Act → World → Prop} {S : World → Prop} {i j : Nat} {oi oj : Oper} {fuel : Nat} {listed : Array Bool} {a : Act} {w : World} (di dj : Tmp) (vi vj : Value)
    (hi : ops[i]? = some oi) (hj : ops[j]? = some oj) (ei : oi.dst = some di) (ej : oj.dst = some dj) (hd : di ≠ dj) (hr : Region.ready md ops listed = [i, j]) (hri : Region.ready md ops (listed.setIfInBounds i true) = [j]) (hrj : Region.ready md ops (listed.setIfInBounds j true) = [i])
    (hij : i ≠ j) (wi : Region.wanted oi (yielded ops a.tmps) = true) (wj : Region.wanted oj (yielded ops a.tmps) = true)
    (wi' : Region.wanted oi (yielded ops (a.put (some dj) vj).tmps) = true) (wj' : Region.wanted oj (yielded ops (a.put (some di) vi).tmps) = true)
    (run1 : (execOp a.eval oi).run P w = .ok (.value vi) w) (run2 : (execOp (a.put (some di) vi).eval oj).run P w = .ok (.value vj) w)
    (run3 : (execOp a.eval oj).run P w = .ok (.value vj) w) (run4 : (execOp (a.put (some dj) vj).eval oi).run P w = .ok (.value vi) w) (hS : S w)
    (h : wpAnyH P md ops Q S fuel ((listed.setIfInBounds i true).setIfInBounds j true) ((a.put (some di) vi).put (some dj) vj) w) : wpAnyH P md ops Q S (fuel + 2) listed a w := by
  have hcomm : (a.put (some dj) vj).put (some di) vi = (a.put (some di) vi).put (some dj) vj := by
    simp only [Act.put]
    congr 1
    exact Array.setIfInBounds_comm _ _ (Ne.symm hd)
  have hcl : (listed.setIfInBounds j true).setIfInBounds i true = (listed.setIfInBounds i true).setIfInBounds j true := Array.setIfInBounds_comm _ _ (Ne.symm hij)
  refine wpAnyH_all hr (by simp) ?_
  intro k hk
  rcases List.mem_cons.1 hk with rfl | hk
  · unfold wpOp
    simp only [hi, wi, if_true, Oper.wp, run1, Oper.upon, ei]
    refine .inl ⟨hS, one_now hj hri wj' ?_⟩
    simp only [Oper.wp, run2, Oper.upon, ej]
    exact ⟨hS, h⟩
  · obtain rfl : k = j := by simpa using hk
    unfold wpOp
    simp only [hj, wj, if_true, Oper.wp, run3, Oper.upon, ej]
    refine .inl ⟨hS, one_now hi hrj wi' ?_⟩
    simp only [Oper.wp, run4, Oper.upon, ei]
    exact ⟨hS, by rw [hcl, hcomm]; exact h⟩

theorem le_total : ∀ (l : List Call) (x : Call), x ∈ l → x.bytes.length ≤ total l
  | y :: r, x, h => by
    have e : total (y :: r) = y.bytes.length + total r := by simp [total]
    rw [e]
    rcases List.mem_cons.1 h with rfl | h
    · omega
    · have := le_total r x h
      omega
theorem total_mem {l : List Call} {k : Nat} {x : Call} (h : l[k]? = some x) : x.bytes.length ≤ total l := le_total l x (List.mem_of_getElem? h)
theorem acts_below {b off k : Nat} {q : Int} {bv : Value} {w W W' : World} (h : W.cell? ⟨b, off + k * 2, none⟩ = some (.int .i64 q) ∧ W.cell? ⟨b, off + k * 2 + 1, none⟩ = some bv) (hb : b < w.heap.size) (hB : Below w.heap.size w W) (hB' : Below w.heap.size w W') :
    W'.cell? ⟨b, off + k * 2, none⟩ = some (.int .i64 q) ∧ W'.cell? ⟨b, off + k * 2 + 1, none⟩ = some bv := by
  refine ⟨?_, ?_⟩
  · rw [hB'.cell hb, ← hB.cell (p := ⟨b, off + k * 2, none⟩) hb]; exact h.1
  · rw [hB'.cell hb, ← hB.cell (p := ⟨b, off + k * 2 + 1, none⟩) hb]; exact h.2
/-- What holds between the calls. -/
structure Playing (w : World) (X Y : Nat) (W : World) : Prop where
  ex : ∃ c L x, Good c L ∧ W.heap[X]? = some (.cells (ringA c L) 30 (0, 0)) ∧ W.heap[Y]? = some (.cells #[.int .i64 c, x] 36 (0, 0)) ∧ IsTexts W x L
  bel : Below w.heap.size w W

set_option maxRecDepth 100000 in
set_option maxHeartbeats 2000000 in
theorem plays_any (n : Int) (va : Value) (la : List Call) (w : World) (hA : IsCalls w va la) (sA : Sized la) : Calls Try.prog 3 #[.int .i64 n, va] w (TrueBelow w) := by
  have hz := Try.zero30
  have HA0 := Lib.hid hA.parts
  have HA := Lib.hid hA
  obtain ⟨c, q, hG, hnew, href⟩ := news n
  have HN := Lib.hid hnew
  have HR := Lib.hid href
  clear hA hnew href
  go_enter Try.func3, Try.ntmps3
  go_wp2_with fail
  refine (few_any va la _ HA.out sA.len sA.each).mono ?_
  rintro e w' ⟨b1, rfl, hs1, rfl⟩
  cases b1
  · go_wp2_with fail
    refine (awake_true _).mono ?_
    rintro e w' ⟨rfl, hb⟩
    go_wp2_with fail
    go_ret
    exact ⟨rfl, hb⟩
  have hS1 := hs1 rfl
  clear hs1 HA
  go_wp2_with fail
  refine (HN.out _).mono ?_
  rintro e w1 ⟨rfl, hb1⟩
  go_upto_region 4 with (with_reducible refine wpList_store_last rfl 30 (.tmp 5) (.tmp 18) rfl (ringA c []) (ringA 0 []) 30 rfl rfl 266 Try.size30 (size_ringA hG) size_zero (one_ringA _ _) ?_)
  have hX2 := heap_alloc_last w1 (.cells (ringA c []) 30)
  have hb2 := hb1.alloc hb1.size (.cells (ringA c []) 30)
  have hXlow := hb1.size
  obtain ⟨X, hX⟩ : ∃ X, X = w1.heap.size := ⟨_, rfl⟩
  rw [← hX] at hX2 hXlow ⊢
  clear hX hb1 HN
  generalize w1.alloc (.cells (ringA c []) 30) = W2 at hX2 hb2 ⊢
  have HX2 := Lib.hid hX2
  clear hX2
  go_wp2_with fail
  refine (HR.out _).mono ?_
  rintro e w3 ⟨rfl, hb3⟩
  have HX3 := Lib.hid ((hb3.block _ (Array.getElem?_eq_some_iff.1 HX2.out).1).trans HX2.out)
  have hXY : X < w3.heap.size := Nat.lt_of_lt_of_le (Array.getElem?_eq_some_iff.1 HX2.out).1 hb3.size
  have hbel3 := hb2.trans (hb3.mono hb2.size)
  clear HX2 hb2 hb3 HR
  go_upto_region 5 with fail
  have hX4 := (Below.heap_alloc w3 (.cells #[.int .i64 c, .slice none 0 0] 36) _ hXY).trans HX3.out
  have hY4 := heap_alloc_last w3 (.cells #[.int .i64 c, .slice none 0 0] 36)
  have hbel4 := hbel3.alloc hbel3.size (.cells #[.int .i64 c, .slice none 0 0] 36)
  obtain ⟨Y, hY⟩ : ∃ Y, Y = w3.heap.size := ⟨_, rfl⟩
  rw [← hY] at hY4 hXY ⊢
  clear hY HX3 hbel3
  generalize w3.alloc (.cells #[.int .i64 c, .slice none 0 0] 36) = W4 at hX4 hY4 hbel4 ⊢
  have e0 : W4.cell? ⟨Y, 0, none⟩ = some (.int .i64 c) := by rw [cell_of_row _ _ _ _ _ _ hY4]; rfl
  have e1 : W4.cell? ⟨Y, 1, none⟩ = some (.slice none 0 0) := by rw [cell_of_row _ _ _ _ _ _ hY4]; rfl
  have HX4 := Lib.hid hX4
  have HY4 := Lib.hid hY4
  clear hX4 hY4
  go_wp2_with fail
  refine wp_load_row 30 (.tmp 5) rfl X rfl 30 (ringA c []) (0, 0) _ HX4.out Try.underlying30 rfl (by rw [Try.size30, size_ringA hG]) ?_
  go_wp2_with fail
  refine (stands_true c [] (.slice none 0 0) _ hG (isTexts_nil _)).mono ?_
  rintro e w5 ⟨rfl, hb5⟩
  have hP5 : Playing w X Y w5 := ⟨⟨c, [], .slice none 0 0, hG, (hb5.block _ (Array.getElem?_eq_some_iff.1 HX4.out).1).trans HX4.out, (hb5.block _ (Array.getElem?_eq_some_iff.1 HY4.out).1).trans HY4.out, isTexts_nil _⟩, hbel4.trans (hb5.mono hbel4.size)⟩
  clear HX4 HY4 hbel4 hb5 e0 e1
  obtain ⟨aa, capa, rfl, hCA⟩ := HA0.out
  have HCA := Lib.hid hCA
  have hlA := hS1.1
  have htA := hS1.2
  clear HA0 hCA
  go_wp2_with fail
  go_loopw [9] (fun i wr => ∃ k : Nat, k ≤ la.length ∧ i = .int .i64 k ∧ Playing w X Y wr) (fun i _ => la.length - (intOf i).toNat)
  case atStart => exact ⟨0, Nat.zero_le _, rfl, hP5⟩
  case round =>
    clear hP5
    obtain ⟨k, hk, rfl, ⟨c1, L1, x1, hG1, hX1, hY1, hT1⟩, hB1⟩ := hrel
    by_cases hlt : k < la.length
    · obtain ⟨x, hx⟩ : ∃ x, la[k]? = some x := ⟨la[k], by simp [hlt]⟩
      obtain ⟨b, off, rfl, hca⟩ := HCA.out (by rintro rfl; simp at hlt)
      obtain ⟨bv, hcw1, hcw2, hbv⟩ := hca k x hx
      have hxl : x.bytes.length ≤ 100000 := by
        have := total_mem hx
        omega
      have g1 : (0 : Int) ≤ (k : Int) := by omega
      have g2 : (k : Int) < (la.length : Int) := by omega
      have HX1 := Lib.hid hX1
      have HY1 := Lib.hid hY1
      have HT1 := Lib.hid hT1
      have hc1 := cell_below hB1 hcw1
      have hc2 := cell_below hB1 hcw2
      have hblk : b < w.heap.size := block_lt_of_cell hcw1
      obtain ⟨ax, capx, rfl⟩ := texts_shape hT1
      have HBV := Lib.hid hbv
      clear hX1 hY1 hT1 hbv hx hca
      go_upto_region 11 with fail
      refine wp_region_noPanic ?_
      refine wp_region_held (S := fun W => W.cell? ⟨b, off + k * 2, none⟩ = some (.int .i64 x.op) ∧ W.cell? ⟨b, off + k * 2 + 1, none⟩ = some bv) (by kernel_rfl) ?_
      have hS : (fun W : World => W.cell? ⟨b, off + k * 2, none⟩ = some (.int .i64 x.op) ∧ W.cell? ⟨b, off + k * 2 + 1, none⟩ = some bv) wr.drew := ⟨hc1, hc2⟩
      have hX2 : (wr.drew).heap[X]? = some (.cells (ringA c1 L1) 30 (0, 0)) := HX1.out
      have hY2 : (wr.drew).heap[Y]? = some (.cells #[.int .i64 c1, .slice ax L1.length capx] 36 (0, 0)) := HY1.out
      have hT2 : IsTexts wr.drew (.slice ax L1.length capx) L1 := HT1.out.below (Below.drew (Below.refl _ _))
      have hB2 : Below w.heap.size w wr.drew := hB1.drew
      change wpAnyH _ _ _ _ _ _ _ _ wr.drew
      clear HX1 HY1 HT1 hB1 hc1 hc2
      generalize wr.drew = W2 at hS hX2 hY2 hT2 hB2 ⊢
      refine take_d (i := 2) 43 (.slice (some ⟨b, off, none⟩) la.length capa) rfl rfl (by kernel_rfl) (by kernel_rfl) (by kernel_rfl) rfl (fun _ _ => rfl) hS ?_
      simp only [Act.put, List.setIfInBounds_toArray, List.set_cons_succ, List.set_cons_zero]
      refine take_d (i := 3) 44 (.int .i64 k) rfl rfl (by kernel_rfl) (by kernel_rfl) (by kernel_rfl) rfl (fun _ _ => rfl) hS ?_
      simp only [Act.put, List.setIfInBounds_toArray, List.set_cons_succ, List.set_cons_zero]
      refine take_d (i := 4) 45 (.pointer (some ⟨b, off + k * 2, none⟩)) rfl rfl (by kernel_rfl) (by kernel_rfl) (by kernel_rfl) rfl (fun _ _ => by go_simp) hS ?_
      simp only [Act.put, List.setIfInBounds_toArray, List.set_cons_succ, List.set_cons_zero]
      refine take_d (i := 5) 46 (.agg #[.int .i64 x.op, bv]) rfl rfl (by kernel_rfl) (by kernel_rfl) (by kernel_rfl) rfl (fun W h => by have h1 := h.1; have h2 := h.2; go_simp) hS ?_
      simp only [Act.put, List.setIfInBounds_toArray, List.set_cons_succ, List.set_cons_zero]
      have e0 : W2.cell? ⟨Y, 0, none⟩ = some (.int .i64 c1) := by rw [cell_of_row _ _ _ _ _ _ hY2]; rfl
      have e1 : W2.cell? ⟨Y, 1, none⟩ = some (.slice ax L1.length capx) := by rw [cell_of_row _ _ _ _ _ _ hY2]; rfl
      refine two_now (i := 0) (j := 1) 41 42 (.agg (ringA c1 L1)) (refV c1 (.slice ax L1.length capx)) rfl rfl rfl rfl (by decide) (by kernel_rfl) (by kernel_rfl) (by kernel_rfl) (by decide) rfl rfl rfl rfl (run_load30 hG1 rfl rfl hX2) (by go_simp) (by go_simp) (run_load30 hG1 rfl rfl hX2) hS ?_
      simp only [Act.put, List.setIfInBounds_toArray, List.set_cons_succ, List.set_cons_zero]
      clear e0 e1
      refine one_now (i := 6) rfl (by kernel_rfl) rfl ?_
      have HX2 := Lib.hid hX2
      have HY2 := Lib.hid hY2
      have HT2 := Lib.hid hT2
      have HS := Lib.hid hS
      clear hX2 hY2 hT2 hS
      go_wp2_with fail
      refine (does_any c1 L1 _ _ x.op x.bytes W2 hG1 HT2.out (HBV.out.below hB2) hxl).mono ?_
      rintro e W3 ⟨c3, L3, v3, rfl, hG3, hT3, hb3⟩
      have hB3 := hB2.trans (hb3.mono hB2.size)
      have hX3 := (hb3.block _ (Array.getElem?_eq_some_iff.1 HX2.out).1).trans HX2.out
      have hY3 := (hb3.block _ (Array.getElem?_eq_some_iff.1 HY2.out).1).trans HY2.out
      have hS3 := acts_below HS.out hblk hB2 hB3
      obtain ⟨a3, cap3, rfl⟩ := texts_shape hT3
      clear HX2 HY2 HT2 HS hb3 hB2
      refine ⟨hS3, ?_⟩
      refine take_d (i := 7) 40 (.tuple #[.agg (ringA c3 L3), refV c3 (.slice a3 L3.length cap3), .bool true]) rfl rfl (by kernel_rfl) (by kernel_rfl) (by kernel_rfl) rfl (fun _ _ => rfl) hS3 ?_
      simp only [Act.put, List.setIfInBounds_toArray, List.set_cons_succ, List.set_cons_zero]
      refine take_d (i := 8) 48 (.agg (ringA c3 L3)) rfl rfl (by kernel_rfl) (by kernel_rfl) (by kernel_rfl) rfl (fun _ _ => by go_simp) hS3 ?_
      simp only [Act.put, List.setIfInBounds_toArray, List.set_cons_succ, List.set_cons_zero]
      refine take_d (i := 9) 49 (refV c3 (.slice a3 L3.length cap3)) rfl rfl (by kernel_rfl) (by kernel_rfl) (by kernel_rfl) rfl (fun _ _ => by go_simp) hS3 ?_
      simp only [Act.put, List.setIfInBounds_toArray, List.set_cons_succ, List.set_cons_zero]
      refine take_d (i := 10) 50 (.bool true) rfl rfl (by kernel_rfl) (by kernel_rfl) (by kernel_rfl) rfl (fun _ _ => by go_simp) hS3 ?_
      simp only [Act.put, List.setIfInBounds_toArray, List.set_cons_succ, List.set_cons_zero]
      refine one_now (i := 11) rfl (by kernel_rfl) rfl ?_
      refine wp_store_row 30 (.tmp 5) (.tmp 48) rfl X (ringA c3 L3) rfl rfl 30 _ hX3 (by rw [Try.size30, size_ringA hG3]) (by rw [size_ringA hG1, size_ringA hG3]) (one_ringA _ _) ?_
      have hB4 := below_setRow hB3 hXlow (ringA c3 L3)
      have hX4 := setRow_heap _ X _ (ringA c3 L3) 30 _ hX3
      have hY4 := (setRow_other W3 X Y (ringA c3 L3) (by omega)).trans hY3
      have hT4 := owns_setRow_type hT3 hX3 (by decide) (ringA c3 L3)
      have hS4 := acts_below hS3 hblk hB3 hB4
      refine ⟨hS4, ?_⟩
      simp only [Act.put]
      refine one_now (i := 12) rfl (by kernel_rfl) rfl ?_
      refine wp_store_row 36 (.tmp 7) (.tmp 49) rfl Y #[.int .i64 c3, (.slice a3 L3.length cap3)] rfl rfl 36 _ hY4 (by rw [Try.size36]; rfl) rfl (by simp [Value.oneCell']) ?_
      have hB5 := below_setRow hB4 (g := Y) (by omega) #[.int .i64 c3, (.slice a3 L3.length cap3)]
      have hX5 := (setRow_other (W3.setRow X (ringA c3 L3)) Y X #[.int .i64 c3, (.slice a3 L3.length cap3)] (by omega)).trans hX4
      have hY5 := setRow_heap _ Y _ #[.int .i64 c3, (.slice a3 L3.length cap3)] 36 _ hY4
      have hT5 := owns_setRow_type hT4 hY4 (by decide) #[.int .i64 c3, (.slice a3 L3.length cap3)]
      have hS5 := acts_below hS4 hblk hB4 hB5
      refine ⟨hS5, ?_⟩
      simp only [Act.put]
      refine one_now (i := 13) rfl (by kernel_rfl) rfl ?_
      clear hX4 hY4 hT4 hB4 hS4 hX3 hY3 hT3 hB3 hS3
      generalize (W3.setRow X (ringA c3 L3)).setRow Y #[.int .i64 c3, (.slice a3 L3.length cap3)] = W5 at hX5 hY5 hT5 hB5 hS5 ⊢
      have HX5 := Lib.hid hX5
      have HY5 := Lib.hid hY5
      have HT5 := Lib.hid hT5
      have HS5 := Lib.hid hS5
      have e0 : W5.cell? ⟨Y, 0, none⟩ = some (.int .i64 c3) := by rw [cell_of_row _ _ _ _ _ _ hY5]; rfl
      have e1 : W5.cell? ⟨Y, 1, none⟩ = some (.slice a3 L3.length cap3) := by rw [cell_of_row _ _ _ _ _ _ hY5]; rfl
      clear hX5 hY5 hT5 hS5
      go_wp2_with fail
      refine ⟨HS5.out, ?_⟩
      refine wpAnyH_done (by kernel_rfl) (NoPanic.normal ?_) _
      go_wp2_with fail
      refine wp_load_row 30 (.tmp 5) rfl X rfl 30 (ringA c3 L3) (0, 0) _ HX5.out Try.underlying30 rfl (by rw [Try.size30, size_ringA hG3]) ?_
      go_wp2_with fail
      refine (stands_true c3 L3 _ _ hG3 HT5.out).mono ?_
      rintro e w6 ⟨rfl, hb6⟩
      go_wp2_with fail
      refine ⟨⟨k + 1, by omega, by go_num, ⟨c3, L3, _, hG3, (hb6.block _ (Array.getElem?_eq_some_iff.1 HX5.out).1).trans HX5.out, (hb6.block _ (Array.getElem?_eq_some_iff.1 HY5.out).1).trans HY5.out, IsTexts.below HT5.out hb6⟩, hB5.trans (hb6.mono hB5.size)⟩, by simp [intOf]; omega⟩
    · have g2 : ¬ (k : Int) < (la.length : Int) := by omega
      clear hlt HCA hX1 hY1 hT1
      go_wp2_with fail
      refine (awake_true _).mono ?_
      rintro e w' ⟨rfl, hb⟩
      go_wp2_with fail
      go_ret
      exact ⟨rfl, hB1.trans (hb.mono hB1.size)⟩

end Go.Proofs.Ytgipgeeiibkjjaa
