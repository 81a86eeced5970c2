/- What the document's Cut does. -/
import Derived.Test.YtgpholcooabbfaaRefs
namespace Go.Proofs.Ytgpholcooabbfaa
open Go.RowKit

theorem run_append_owned_none' {P : Program} {w : World} (base : Nat) (t ty e : TypeId) (i : TypeInfo) (size c : Nat) (ht : P.underlying t = some (.slice e)) (hi : P.info? e = some i)
    (v : Value) (n : Nat) (xs : List Value) (hown : w.ownsRow base e size v n xs) : (Builtin.append_ #[t, t] ty #[v, .slice none 0 c]).run P w = .ok v w := by
  rcases hown.2 with ⟨rfl, rfl⟩ | ⟨g, cap, cur, rfl, _, _, hnc, _⟩
  · simp [Builtin.append_, run_underlying ht, sizeOf, typeInfo, hi, Builtin.lenOf, Builtin.firstCells]
  · simp [Builtin.append_, run_underlying ht, sizeOf, typeInfo, hi, Builtin.lenOf, Builtin.firstCells, hnc, storeCells]

/-- Bytes behind a row of bytes that is the call's own, nil or not. -/
theorem wpList_append_bytes {p : Nat → Prop} {ops : Array Oper} {rest : List Oper} {o : Oper} {a : Act} {w : World} {Q : Exit → Act → World → Prop} (hgd : o.guard = none) (s x : Operand) (ho : o.op = .call { callee := .builtin .append, args := #[s, x], argTypes := #[31, 31] })
    (base : Nat) (v vs : Value) (xs bs : List UInt8) (hs : a.eval s = v) (hown : w.ownsRow base 5 1 v xs.length (bytesL xs)) (hx : a.eval x = vs) (hsrc : IsBytes p w vs bs)
    (hlen : xs.length + bs.length ≤ 10000000) (hbase : base ≤ w.heap.size)
    (h : ∀ v' w', w'.ownsRow base 5 1 v' (xs ++ bs).length (bytesL (xs ++ bs)) → w.grownBy w' v.ownBlock → wpList Try.prog ops Q rest (a.put o.dst v') w') : wpList Try.prog ops Q (o :: rest) a w := by
  obtain ⟨i0, hi, hz0, hz1, hz2⟩ := info_parts Try.info5
  obtain ⟨ad, cap, rfl, -, hc⟩ := hsrc
  cases ad with
  | none =>
    have hb : bs = [] := by
      cases bs with
      | nil => rfl
      | cons x r =>
        obtain ⟨_, _, e, _⟩ := hc 0 x rfl
        cases e
    subst hb
    refine wpList_plain hgd fun K hK => ?_
    have hrun := run_append_owned_none' (P := Try.prog) (w := w) base 31 o.type 5 i0 1 cap Try.underlying31 hi v xs.length _ hown
    unfold Oper.wp
    simp [execOp, ho, resolve, invoke, builtin, hs, hx, hrun, Result.andThen]
    exact hK _ _ (h v w (by simpa using hown) ⟨rfl, rfl, rfl, Nat.le_refl _, fun _ _ _ => rfl⟩)
  | some ad =>
    refine wpList_append_own w hgd s x 31 ho base 5 i0 (.int .u8 0) 1 1 Try.underlying31 hi hz0 hz1 hz2 rfl (by decide) v xs.length _ hs hown ad bs.length cap (bytesL bs) hx (by rw [length_bytesL]; omega)
      (fun j u hu => ?_) (one_bytesL bs) (by unfold maxLen; omega) (by omega) hbase ?_
    · obtain ⟨c, hj, rfl⟩ := bytesL_get hu
      obtain ⟨gb, off, e, _, h⟩ := hc j c hj
      cases e
      rw [Addr.add_mid]
      exact h
    · intro v' w' ho' hg' _
      exact h v' w' (by rw [bytesL_append, List.length_append]; exact ho') hg'

set_option maxRecDepth 100000 in
set_option maxHeartbeats 1000000 in
theorem refCut_failed (g told : Nat) (A : List UInt8) (av v : Value) (w : World) (h : RSpl g A told true av w) :
    Calls Try.prog 13 #[.pointer (some ⟨g, 0, none⟩), v] w fun e w' => e = .returned (.tuple #[.slice none 0 0, .bool true]) ∧ w' = w := by
  have h2 := h.c2
  clear h
  go_enter Try.func13, Try.ntmps13
  go_wp2
  go_ret2
  exact ⟨rfl, rfl⟩

theorem owns_slice {w : World} {base : Nat} {e : TypeId} {size : Nat} {v : Value} {n : Nat} {xs : List Value} (h : w.ownsRow base e size v n xs) : ∃ a c, v = .slice a n c := by
  rcases h.2 with ⟨rfl, rfl⟩ | ⟨g, cap, cur, rfl, _⟩
  · exact ⟨_, _, rfl⟩
  · exact ⟨_, _, rfl⟩
theorem ref_c0 {w : World} {g : Nat} {x y z : Value} (h : w.heap[g]? = some (.cells #[x, y, z] 33 (0, 0))) : w.cell? ⟨g, 0, none⟩ = some x := by rw [cell_of_row _ _ _ _ _ _ h]; rfl

def RefCutEnd (g : Nat) (A : List UInt8) (told : Nat) (av : Value) (w : World) (L : Lines) (o : Option (List UInt8)) (e : Ending) (w' : World) : Prop :=
  ∃ yv av', e = .returned (.tuple #[yv, .bool o.isNone]) ∧ IsTexts (w.heap.size ≤ ·) w' yv (L.drop told) ∧ RSpl g A L.length o.isNone av' w' ∧ Frame (fun k => k = g ∨ av.ownBlock = some k) w w'

set_option maxRecDepth 100000 in
set_option maxHeartbeats 800000 in
theorem refCut_any {p : Nat → Prop} (g told : Nat) (A : List UInt8) (av v : Value) (bs : List UInt8) (w : World) (h : RSpl g A told false av w) (hB : IsBytes p w v bs) (hsz : A.length + bs.length ≤ 1000000) (ht : told ≤ (cutL [] (A ++ bs)).1.length) :
    Calls Try.prog 13 #[.pointer (some ⟨g, 0, none⟩), v] w (RefCutEnd g (A ++ bs) told av w (cutL [] (A ++ bs)).1 (cutL [] (A ++ bs)).2) := by
  have h0 := h.c0
  have h2 := h.c2
  have hlt := h.lt
  have H := Lib.hid h
  have HB := Lib.hid hB
  have hof : ∀ k, av.ownBlock = some k → g < k := fun k e => (h.own.lt k e).1
  obtain ⟨a, cap, rfl⟩ := h.slice
  clear h hB
  obtain ⟨L, hL⟩ : ∃ L, L = (cutL [] (A ++ bs)).1 := ⟨_, rfl⟩
  obtain ⟨o, ho⟩ : ∃ o, o = (cutL [] (A ++ bs)).2 := ⟨_, rfl⟩
  have hcount := cutL_count (A ++ bs) []
  rw [← hL] at ht hcount ⊢
  rw [← ho]
  rw [List.length_append] at hcount
  have HL := Lib.hid hL
  have HOO := Lib.hid ho
  clear hL ho
  go_enter Try.func13, Try.ntmps13
  go_wp2_with (at_builtin; refine wpList_append_bytes rfl (.tmp 17) (.tmp 18) rfl (g + 1) _ _ A bs rfl H.out.own rfl HB.out (by omega) (by omega) ?_; intro v2 w2 hown2 hgrow2; have hh2 := (hgrow2.block g hlt (fun e => by have := hof g e.symm; omega)).trans H.out.heap; have d0 := ref_c0 hh2; have f0 := frozen_of_row w2 g 0 _ _ hh2; rw [List.length_append] at hown2; obtain ⟨a2, c2, rfl⟩ := owns_slice hown2; have HH2 := Lib.hid hh2; have HO2 := Lib.hid hown2; have HG2 := Lib.hid hgrow2; clear hh2 hown2 hgrow2)
  have hR3 : RSpl g (A ++ bs) told false (.slice a2 (A.length + bs.length) c2) (w2.setCell ⟨g, 0, none⟩ (.slice a2 (A.length + bs.length) c2)) := ⟨by rw [setCell_row HH2.out]; rfl, by rw [List.length_append]; exact ownsRow_setCell_below HO2.out (Nat.lt_succ_self _) _⟩
  have hf3 : Frame (fun k => k = g ∨ (Value.slice a A.length cap).ownBlock = some k) w (w2.setCell ⟨g, 0, none⟩ (.slice a2 (A.length + bs.length) c2)) :=
    ((Frame.refl _ w).grown HG2.out (fun k _ e => .inr e)).trans ((Frame.cell w2 ⟨g, 0, none⟩ _).mono (fun k _ e => .inl e))
  clear h0 h2 d0 f0 HH2 HO2 HG2 H HB
  generalize w2.setCell ⟨g, 0, none⟩ (.slice a2 (A.length + bs.length) c2) = W3 at hR3 hf3 ⊢
  refine (lines_any _ (A ++ bs) W3 (isBytes_of_owns hR3.own) (by simp; omega)).mono ?_
  rintro e W4 ⟨lv, rfl, ho4, hb4⟩
  rw [← HOO.out]
  rw [← HL.out] at ho4
  have hR4 := hR3.below hb4
  have hf4 := hf3.trans (Below.toFrame hb4 _)
  have e1 := hR4.c1
  have e2 := hR4.c2
  have f1 := fun j => frozen_of_row _ g j _ _ hR4.heap
  have hw3 := hf3.size
  have HR4 := Lib.hid hR4
  have HO4 := Lib.hid ho4
  obtain ⟨S, hS⟩ : ∃ S : ByteArray, strV (o.getD []) = .string S := ⟨_, rfl⟩
  rw [hS]
  have HS := Lib.hid (hR4.own)
  clear hR3 hR4 hS hb4 hf3
  have g1 : (0 : Int) ≤ (told : Int) := by omega
  have g2 : (told : Int) ≤ (L.length : Int) := by omega
  have key : ∀ yv, IsTexts (w.heap.size ≤ ·) W4 yv (L.drop told) → RefCutEnd g (A ++ bs) told (.slice a A.length cap) w L o (.returned (.tuple #[yv, .bool o.isNone])) ((W4.setCell ⟨g, 1, none⟩ (.int .i64 L.length)).setCell ⟨g, 2, none⟩ (.bool o.isNone)) := by
    intro yv hy
    have hfc : Frame (· = g) W4 ((W4.setCell ⟨g, 1, none⟩ (.int .i64 L.length)).setCell ⟨g, 2, none⟩ (.bool o.isNone)) := (Frame.cell W4 ⟨g, 1, none⟩ _).trans (Frame.cell _ ⟨g, 2, none⟩ _)
    refine ⟨yv, _, rfl, hy.frame hfc (fun k hk e => by omega), ⟨?_, hfc.owns HR4.out.own (fun k e h => by have := (HR4.out.own.lt k e).1; omega)⟩, hf4.trans (hfc.mono (fun k _ e => .inl e))⟩
    rw [setCell_row (setCell_row HR4.out.heap _ _)]
    rfl
  have KEY := Lib.hid key
  clear key
  rcases HO4.out.2 with ⟨rfl, hn0⟩ | ⟨gl, cl, cur, rfl, hgl, -, hncl, -⟩
  · have hL0 : L = [] := List.eq_nil_of_length_eq_zero hn0
    obtain rfl : told = 0 := by omega
    subst hL0
    clear HO4 hn0
    go_wp2_with fail
    go_ret2
    exact KEY.out _ ⟨none, 0, rfl, fun j b hj => by simp at hj⟩
  · have hcells : ∀ j b, L[j]? = some b → W4.cell? ⟨gl, j, none⟩ = some (strV b) := fun j b hj => by
      have := World.ownsRow.cells HO4.out (g := gl) rfl j (strV b) (by simp [hj])
      rwa [Addr.add_mid, Nat.zero_add] at this
    have hHF : ∃ A2, ((if cl = told then some ⟨gl, 0, none⟩ else some ⟨gl, told, none⟩) : Option Addr) = some ⟨gl, A2, none⟩ ∧ IsTexts (w.heap.size ≤ ·) W4 (.slice (some ⟨gl, A2, none⟩) (L.length - told) (cl - told)) (L.drop told) := by
      by_cases hcm : cl = told
      · refine ⟨0, by rw [if_pos hcm], some ⟨gl, 0, none⟩, cl - told, by simp, fun j b hj => ?_⟩
        rw [List.drop_of_length_le (by omega)] at hj
        simp at hj
      · refine ⟨told, by rw [if_neg hcm], some ⟨gl, told, none⟩, cl - told, by simp, fun j b hj => ⟨gl, told, rfl, by omega, ?_⟩⟩
        rw [List.getElem?_drop] at hj
        exact hcells _ _ hj
    obtain ⟨A2, hA2, hA3⟩ := hHF
    have HA3 := Lib.hid hA3
    have q1 : (told : Int) + ((L.length - told : Nat) : Int) = (L.length : Int) := by omega
    clear hcells hA3
    go_wp2_with fail
    go_ret2
    exact KEY.out _ HA3.out

end Go.Proofs.Ytgpholcooabbfaa
