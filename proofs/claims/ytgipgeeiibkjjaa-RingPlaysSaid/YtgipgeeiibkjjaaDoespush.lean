/- What does does: Push. -/
import Derived.Test.YtgipgeeiibkjjaaDoesgrow
import Derived.Test.YtgipgeeiibkjjaaDoeskit
namespace Go.Proofs.Ytgipgeeiibkjjaa
open Go.RowKit

theorem run_append_owned_none' {P : Program} {w : World} (base : Nat) (t ty e : TypeId) (i : TypeInfo) (size c : Nat) (ht : P.underlying t = some (.slice e)) (hi : P.info? e = some i)
    (v : Value) (n : Nat) (xs : List Value) (hown : w.ownsRow base e size v n xs) : (Builtin.append_ #[t, t] ty #[v, .slice none 0 c]).run P w = .ok v w := by
  rcases hown.2 with ⟨rfl, rfl⟩ | ⟨g, cap, cur, rfl, _, _, hnc, _⟩
  · simp [Builtin.append_, run_underlying ht, sizeOf, typeInfo, hi, Builtin.lenOf, Builtin.firstCells]
  · simp [Builtin.append_, run_underlying ht, sizeOf, typeInfo, hi, Builtin.lenOf, Builtin.firstCells, hnc, storeCells]
theorem bytesL_append (a b : List UInt8) : bytesL (a ++ b) = bytesL a ++ bytesL b := by simp [bytesL]

/-- Bytes behind a row of bytes that is the call's own, nil or not. -/
theorem wpList_append_bytes {ops : Array Oper} {rest : List Oper} {o : Oper} {a : Act} {w : World} {Q : Exit → Act → World → Prop} (hgd : o.guard = none) (s x : Operand) (ho : o.op = .call { callee := .builtin .append, args := #[s, x], argTypes := #[42, 42] })
    (base : Nat) (v vs : Value) (xs bs : List UInt8) (hs : a.eval s = v) (hown : w.ownsRow base 5 1 v xs.length (bytesL xs)) (hx : a.eval x = vs) (hsrc : IsBytes w vs bs)
    (hlen : xs.length + bs.length ≤ 10000000) (hbase : base ≤ w.heap.size)
    (h : ∀ v' w', w'.ownsRow base 5 1 v' (xs ++ bs).length (bytesL (xs ++ bs)) → w.grownBy w' v.ownBlock → wpList Try.prog ops Q rest (a.put o.dst v') w') : wpList Try.prog ops Q (o :: rest) a w := by
  obtain ⟨i0, hi, hz0, hz1, hz2⟩ := info_parts Try.info5
  obtain ⟨ad, cap, rfl, hc⟩ := hsrc
  cases ad with
  | none =>
    have hb : bs = [] := by
      cases bs with
      | nil => rfl
      | cons x r =>
        obtain ⟨_, e, _⟩ := hc 0 x rfl
        cases e
    subst hb
    refine wpList_plain hgd fun K hK => ?_
    have hrun := run_append_owned_none' (P := Try.prog) (w := w) base 42 o.type 5 i0 1 cap Try.underlying42 hi v xs.length _ hown
    unfold Oper.wp
    simp [execOp, ho, resolve, invoke, builtin, hs, hx, hrun, Result.andThen]
    exact hK _ _ (h v w (by simpa using hown) ⟨rfl, rfl, rfl, Nat.le_refl _, fun _ _ _ => rfl⟩)
  | some ad =>
    refine wpList_append_own w hgd s x 42 ho base 5 i0 (.int .u8 0) 1 1 Try.underlying42 hi hz0 hz1 hz2 rfl (by decide) v xs.length _ hs hown ad bs.length cap (bytesL bs) hx (by rw [length_bytesL]; omega)
      (fun j u hu => ?_) (one_bytesL bs) (by unfold maxLen; omega) (by omega) hbase ?_
    · obtain ⟨c, hj, rfl⟩ := bytesL_get hu
      obtain ⟨ad', e, h⟩ := hc j c hj
      cases e
      exact h
    · intro v' w' ho' hg' _
      exact h v' w' (by rw [bytesL_append, List.length_append]; exact ho') hg'
theorem owns_shape {w : World} {base : Nat} {e : TypeId} {size : Nat} {v : Value} {n : Nat} {xs : List Value} (h : w.ownsRow base e size v n xs) : (v = .slice none 0 0 ∧ n = 0) ∨ ∃ g c, v = .slice (some ⟨g, 0, none⟩) n c ∧ base ≤ g := by
  rcases h.2 with ⟨rfl, rfl⟩ | ⟨g, cap, cur, rfl, hb, _⟩
  · exact .inl ⟨rfl, rfl⟩
  · exact .inr ⟨_, _, rfl, hb⟩
theorem owns_slice {w : World} {base : Nat} {e : TypeId} {size : Nat} {v : Value} {n : Nat} {xs : List Value} (h : w.ownsRow base e size v n xs) : ∃ a c, v = .slice a n c := by
  rcases h.2 with ⟨rfl, rfl⟩ | ⟨g, cap, cur, rfl, _⟩
  · exact ⟨_, _, rfl⟩
  · exact ⟨_, _, rfl⟩

/-- A copy of bytes that may be turned. -/
def Copied (w : World) (a1 : Option Addr) (n : Nat) (W : World) : Prop := n = 0 ∨ ∃ g, a1 = some ⟨g, 0, none⟩ ∧ w.heap.size ≤ g ∧ RowU8 W g n
theorem Copied.below {w : World} {a1 : Option Addr} {n : Nat} {W W' : World} (h : Copied w a1 n W) (hb : Below W.heap.size W W') : Copied w a1 n W' := by
  rcases h with h | ⟨g, h1, h2, h3⟩
  · exact .inl h
  · exact .inr ⟨g, h1, h2, h3.below hb⟩
theorem copied_of {w W : World} {base : Nat} {a1 : Option Addr} {c1 : Nat} {bs : List UInt8} (h : W.ownsRow base 5 1 (.slice a1 bs.length c1) bs.length (bytesL bs)) (hb : w.heap.size ≤ base) : Copied w a1 bs.length W := by
  rcases owns_shape h with ⟨_, h0⟩ | ⟨g, c, e, hg⟩
  · exact .inl h0
  · simp only [Value.slice.injEq] at e
    obtain ⟨rfl, _, rfl⟩ := e
    exact .inr ⟨g, rfl, Nat.le_trans hb hg, rowU8_any h⟩

set_option maxRecDepth 100000 in
set_option maxHeartbeats 2000000 in
theorem does_push (c : Nat) (L : Chunks) (v bv : Value) (bs : List UInt8) (w : World) (hG : Good c L) (hT : IsTexts w v L) (hB : IsBytes w bv bs) (hlen : bs.length ≤ 100000) :
    Calls Try.prog 11 #[.agg (ringA c L), refV c v, .agg #[.int .i64 0, bv]] w (BothAre w) := by
  have hz := Try.zero30
  have hM : Doing w c L v 0 bv _ := doing_start w c L v 0 bv hT
  obtain ⟨a, cap, rfl⟩ := texts_shape hT
  have hop := hM.op
  have HM := Lib.hid hM
  clear hM hT
  have HB := Lib.hid (show ∀ W, Below w.heap.size w W → IsBytes W bv bs from fun W hb => hB.below hb)
  obtain ⟨ab, capb, rfl⟩ := hB.slice
  clear hB
  go_enter Try.func11, Try.ntmps11
  go_upto_region 3 with (fail)
  have hM := HM.out
  clear HM hop
  generalize (((((w.alloc (.cells (ringA c L) 30)).alloc (.cells #[.int .i64 c, .slice a L.length cap] 36)).alloc (.cells #[.int .i64 0, .slice ab bs.length capb] 44)).alloc (.cells (ringA 0 []) 30)).alloc (.cells #[.int .i64 0, .slice none 0 0] 36)) = W1 at hM ⊢
  have e1 := (hM.alloc (.cells #[] 5)).byt
  have HM1 := Lib.hid hM
  have HMk := Lib.hid (World.ownsRow_made (base := W1.heap.size) (e := 5) (size := 1) W1 #[] 0 (Nat.le_refl _) (by decide) rfl)
  clear hM
  go_upto_region 4 with (at_builtin; refine wpList_append_bytes rfl (.tmp 32) (.tmp 34) rfl W1.heap.size _ _ [] bs rfl HMk.out rfl (HB.out _ (HM1.out.alloc _).bel) (by simp; omega) (by simp) ?_; intro v2 w2 hown2 hgrow2)
  simp only [List.nil_append] at hown2
  obtain ⟨a2, c2, rfl⟩ := owns_slice hown2
  have hb2 : Below W1.heap.size W1 w2 := ((Below.refl _ _).alloc (Nat.le_refl _) _).grown hgrow2 (by simp) (fun k e => by cases e; exact Nat.le_refl _)
  have hM2 := HM1.out.below hb2
  have hC2 := copied_of hown2 HM1.out.bel.size
  have hB2 := isBytes_of_owns hown2
  have HM2 := Lib.hid hM2
  have HC2 := Lib.hid hC2
  have HB2 := Lib.hid hB2
  have hG2 := hG.pushed bs
  obtain ⟨ee, hee⟩ : ∃ ee, ee = pushE c L bs := ⟨_, rfl⟩
  obtain ⟨P, hP⟩ : ∃ P, P = pushL c L bs := ⟨_, rfl⟩
  have hpush := push_any c L _ bs w2 hG hB2
  have href := fun W (h1 : IsTexts W (.slice a L.length cap) L) (h2 : IsBytes W (.slice ab bs.length capb) bs) => refPush_any c (.slice a L.length cap) (.slice ab bs.length capb) L bs W hG h1 h2
  rw [← hP] at hG2
  rw [← hP, ← hee] at hpush
  simp only [← hP, ← hee] at href
  have HPU := Lib.hid hpush
  have HRE := Lib.hid href
  clear hM2 hC2 hB2 hown2 hgrow2 hb2 HM1 HMk e1 hpush href hee hP
  go_wp2_with (with_reducible refine wpList_load_row rfl 30 (.tmp 3) rfl w.heap.size rfl 30 (ringA c L) (0, 0) _ HM2.out.ring Try.underlying30 rfl (by rw [Try.size30, size_ringA hG]) ?_)
  refine HPU.out.mono ?_
  rintro e w3 ⟨rfl, hb3⟩
  have HM3 := Lib.hid (HM2.out.below hb3)
  have HC3 := Lib.hid (HC2.out.below hb3)
  have HB3 := Lib.hid (HB2.out.below hb3)
  clear HM2 HC2 HB2 HPU hb3
  go_upto_region 5 with (with_reducible refine wpList_store_last rfl 30 (.tmp 10) (.tmp 40) rfl (ringA c P) (ringA 0 []) 30 rfl rfl 266 Try.size30 (size_ringA hG2) size_zero (one_ringA _ _) ?_)
  have hX4 := heap_alloc_last w3 (.cells (ringA c P) 30)
  have hb4 : Below w3.heap.size w3 (w3.alloc (.cells (ringA c P) 30)) := (Below.refl _ _).alloc (Nat.le_refl _) _
  have hM4 := HM3.out.below hb4
  have hC4 := HC3.out.below hb4
  have hB4 := HB3.out.below hb4
  have hXlow : w.heap.size + 4 < w3.heap.size := by obtain ⟨_, _, h⟩ := HM3.out.r2; exact (Array.getElem?_eq_some_iff.1 h).1
  obtain ⟨X, hX⟩ : ∃ X, X = w3.heap.size := ⟨_, rfl⟩
  rw [← hX] at hX4 hXlow ⊢
  clear hb4 HM3 HC3 HB3 hX
  generalize w3.alloc (.cells (ringA c P) 30) = W4 at hX4 hM4 hC4 hB4 ⊢
  have e0 := hM4.cell0
  have e1 := hM4.cell1
  have e2 := hM4.byt
  have HX4 := Lib.hid hX4
  have HM4 := Lib.hid hM4
  have HC4 := Lib.hid hC4
  have HB4 := Lib.hid hB4
  clear hX4 hM4 hC4 hB4
  go_wp2_with fail
  refine (HRE.out _ HM4.out.txt (HB.out _ HM4.out.bel)).mono ?_
  rintro e w5 ⟨x5, rfl, hT5, hb5⟩
  obtain ⟨ax, capx, rfl⟩ := texts_shape hT5
  have hXY : X < w5.heap.size := Nat.lt_of_lt_of_le (Array.getElem?_eq_some_iff.1 HX4.out).1 hb5.size
  have HM5 := Lib.hid (HM4.out.below hb5)
  have HX5 := Lib.hid ((hb5.block _ (Array.getElem?_eq_some_iff.1 HX4.out).1).trans HX4.out)
  have HC5 := Lib.hid (HC4.out.below hb5)
  have HB5 := Lib.hid (HB4.out.below hb5)
  have HT5 := Lib.hid hT5
  clear HM4 HX4 HC4 HB4 hT5 hb5 HRE e0 e1 e2
  go_upto_region 6 with fail
  have hb6 : Below w5.heap.size w5 (w5.alloc (.cells #[.int .i64 c, .slice ax P.length capx] 36)) := (Below.refl _ _).alloc (Nat.le_refl _) _
  have hM6 : Got2 w c L (.slice a L.length cap) 0 (.slice ab bs.length capb) X w5.heap.size c P (.slice ax P.length capx) (w5.alloc (.cells #[.int .i64 c, .slice ax P.length capx] 36)) :=
    ⟨HM5.out.alloc _, (Below.heap_alloc _ _ _ hXY).trans HX5.out, heap_alloc_last _ _, HT5.out.below hb6⟩
  have hC6 := HC5.out.below hb6
  have hB6 := HB5.out.below hb6
  obtain ⟨Y, hY⟩ : ∃ Y, Y = w5.heap.size := ⟨_, rfl⟩
  rw [← hY] at hM6 hXY ⊢
  clear hY hb6 HM5 HX5 HC5 HB5 HT5
  generalize w5.alloc (.cells #[.int .i64 c, .slice ax P.length capx] 36) = W6 at hM6 hC6 hB6 ⊢
  have k1 := conv_any hB6
  have k2 := conv_any (HB.out W6 hM6.doing.bel)
  have e2 := hM6.doing.byt
  obtain ⟨S, hS⟩ : ∃ S : ByteArray, strV bs = .string S := ⟨_, rfl⟩
  rw [hS] at k1 k2
  have HM6 := Lib.hid hM6
  have HC6 := Lib.hid hC6
  clear hM6 hC6 hB6 hS HB
  go_wp2
  clear k1 k2 e2
  go_loopw [15] (fun j W => ∃ q : Nat, q ≤ bs.length ∧ j = .int .i64 q ∧ Got2 w c L (.slice a L.length cap) 0 (.slice ab bs.length capb) X Y c P (.slice ax P.length capx) W ∧ Copied w a2 bs.length W) (fun j _ => bs.length - (intOf j).toNat)
  case atStart => exact ⟨0, Nat.zero_le _, rfl, HM6.out, HC6.out⟩
  case round =>
    clear HM6 HC6
    obtain ⟨q, hq, rfl, hM7, hC7⟩ := hrel
    by_cases hql : q < bs.length
    · rcases hC7 with h0 | ⟨g, rfl, hg, hU⟩
      · omega
      obtain ⟨cur, hh, hcur⟩ := hU
      obtain ⟨m, hm⟩ := hcur q hql
      have hc7 : wr.cell? ⟨g, q, none⟩ = some (.int .u8 m) := by rw [cell_of_row _ _ _ _ _ _ hh]; exact hm
      have hf7 : wr.frozen? ⟨g, q, none⟩ = false := frozen_of_row _ _ _ _ _ hh
      have HU := Lib.hid (show RowU8 wr g bs.length from ⟨cur, hh, hcur⟩)
      have HM7 := Lib.hid hM7
      have q1 : (0 : Int) ≤ (q : Int) := by omega
      have q2 : (q : Int) < (bs.length : Int) := by omega
      clear hh hcur hm hM7
      go_wp2
      exact ⟨⟨q + 1, by omega, by go_num, HM7.out.wrote HU.out hg q _, .inr ⟨g, rfl, hg, HU.out.set _⟩⟩, by simp [intOf]; omega⟩
    · have q2 : ¬ (q : Int) < (bs.length : Int) := by omega
      clear hql
      go_upto_region 11 with fail
      have hlY : w.heap.size + 4 < Y := by omega
      refine wp_region_noPanic ?_
      refine wp_region_held (S := Got2 w c L (.slice a L.length cap) 0 (.slice ab bs.length capb) X Y c P (.slice ax P.length capx)) (by kernel_rfl) ?_
      change wpAnyH _ _ _ _ _ _ _ _ wr.drew
      have hM2 := hM7.below (Below.drew (Below.refl _ _))
      clear hM7 hC7
      generalize wr.drew = W2 at hM2 ⊢
      refine take_d (i := 0) 72 ((.agg (ringA c P))) rfl rfl (by kernel_rfl) (by kernel_rfl) (by kernel_rfl) rfl (fun W h => run_load30 hG2 rfl rfl h.one) hM2 ?_
      simp only [Act.put, List.setIfInBounds_toArray, List.set_cons_succ, List.set_cons_zero]
      refine take_d (i := 1) 73 (refV c (.slice ax P.length capx)) rfl rfl (by kernel_rfl) (by kernel_rfl) (by kernel_rfl) rfl (fun W h => by have e0 := h.cell0; have e1 := h.cell1; go_simp) hM2 ?_
      simp only [Act.put, List.setIfInBounds_toArray, List.set_cons_succ, List.set_cons_zero]
      refine take_d (i := 2) 74 (.bool true) rfl rfl (by kernel_rfl) (by kernel_rfl) (by kernel_rfl) rfl (fun _ _ => rfl) hM2 ?_
      simp only [Act.put, List.setIfInBounds_toArray, List.set_cons_succ, List.set_cons_zero]
      refine one_now (i := 3) rfl (by kernel_rfl) rfl ?_
      obtain ⟨o1, ho1, hr1⟩ := hM2.doing.r1
      refine wp_store_row 30 (.tmp 6) (.tmp 72) rfl (w.heap.size + 3) (ringA c P) rfl rfl 30 o1 hr1 (by rw [Try.size30, size_ringA hG2]) (by rw [ho1, size_ringA hG2]) (one_ringA _ _) ?_
      have hM3 := hM2.set1 (ringA c P) (size_ringA hG2) (by omega) (by omega)
      have hr1' := setRow_heap _ (w.heap.size + 3) _ (ringA c P) 30 _ hr1
      refine ⟨hM3, ?_⟩
      simp only [Act.put]
      refine one_now (i := 4) rfl (by kernel_rfl) rfl ?_
      obtain ⟨o2, ho2, hr2⟩ := hM3.doing.r2
      refine wp_store_row 36 (.tmp 7) (.tmp 73) rfl (w.heap.size + 4) #[.int .i64 c, (.slice ax P.length capx)] rfl rfl 36 o2 hr2 (by rw [Try.size36]; rfl) ho2 (by simp [Value.oneCell']) ?_
      have hM4 := hM3.set2 #[.int .i64 c, (.slice ax P.length capx)] rfl (by omega) (by omega)
      have hr2' := setRow_heap _ (w.heap.size + 4) _ #[.int .i64 c, (.slice ax P.length capx)] 36 _ hr2
      have hr1'' := (setRow_other (W2.setRow (w.heap.size + 3) (ringA c P)) (w.heap.size + 4) (w.heap.size + 3) #[.int .i64 c, (.slice ax P.length capx)] (by omega)).trans hr1'
      refine ⟨hM4, ?_⟩
      simp only [Act.put]
      refine one_now (i := 5) rfl (by kernel_rfl) rfl ?_
      have HM4 := Lib.hid hM4
      have HR1 := Lib.hid hr1''
      have HR2 := Lib.hid hr2'
      clear hM4 hr1'' hr2' hr1' hr1 hr2 hM3 hM2
      go_wp2_with fail
      refine ⟨HM4.out, ?_⟩
      refine wpAnyH_done (by kernel_rfl) (NoPanic.normal ?_) _
      go_wp2_with fail
      exact ret_both rfl rfl rfl rfl HR1.out (size_ringA hG2) HR2.out rfl ⟨c, P, (.slice ax P.length capx), rfl, hG2, HM4.out.txts, HM4.out.doing.bel⟩

end Go.Proofs.Ytgipgeeiibkjjaa
