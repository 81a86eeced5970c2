/- The document's disk: Create. -/
import Derived.Test.YtpengkkbmenkpaaFsrefis
namespace Go.Proofs.Ytpengkkbmenkpaa
open Go.RowKit

/-- The document's disk with texts X and truths Y, which need not be as many. -/
structure RD (base r : Nat) (own : Nat → Nat) (S : Script) (n : Nat) (id : Int) (X Y : List Value) (sv tv bv : Value) (w : World) : Prop where
  heap : w.heap[r]? = some (.cells #[sv, tv, bv, .int .i64 n, .int .i64 id] 32 (0, 0))
  scr : IsScript (· < base) w sv S
  txt : w.ownsRow base 9 1 tv X.length X
  thr : w.ownsRow base 4 1 bv Y.length Y
  orr : own r = 1
  ot : ∀ k, tv.ownBlock = some k → own k = 2
  ob : ∀ k, bv.ownBlock = some k → own k = 3
  bnd : ∀ k, own k ≠ 0 → base ≤ k ∧ k < w.heap.size
section
variable {base r : Nat} {own : Nat → Nat} {S : Script} {s : DSt} {n : Nat} {id : Int} {X Y : List Value} {sv tv bv : Value} {w : World}
theorem RDisk.rd (h : RDisk base r own S s sv tv bv w) : RD base r own S s.n s.id (s.T.map fun t => strV t.1) (s.T.map fun t => .bool t.2) sv tv bv w :=
  ⟨h.heap, h.scr, by rw [List.length_map]; exact h.txt, by rw [List.length_map]; exact h.thr, h.orr, h.ot, h.ob, h.bnd⟩
theorem RD.disk (h : RD base r own S s.n s.id (s.T.map fun t => strV t.1) (s.T.map fun t => .bool t.2) sv tv bv w) : RDisk base r own S s sv tv bv w :=
  ⟨h.heap, h.scr, by have := h.txt; rwa [List.length_map] at this, by have := h.thr; rwa [List.length_map] at this, h.orr, h.ot, h.ob, h.bnd⟩
theorem RD.below {w' : World} (h : RD base r own S n id X Y sv tv bv w) (hb : Below w.heap.size w w') : RD base r own S n id X Y sv tv bv w' := by
  have hf := Below.toFrame hb fun _ => False
  exact ⟨hf.heap h.heap (fun h => h), h.scr.below hb, hf.owns h.txt (fun _ _ h => h), hf.owns h.thr (fun _ _ h => h), h.orr, h.ot, h.ob, fun k hk => ⟨(h.bnd k hk).1, Nat.lt_of_lt_of_le (h.bnd k hk).2 hf.size⟩⟩

/-- Other texts are put. -/
theorem RD.text (h : RD base r own S n id X Y sv tv bv w) {Z : List Value} {v' : Value} {w1 : World} (ho : w1.ownsRow base 9 1 v' Z.length Z) (hg : w.grownBy w1 tv.ownBlock) (hl : v'.ownBlock = tv.ownBlock ∨ v'.ownBlock = some w.heap.size) :
    RD base r (fun k => if v'.ownBlock = some k then 2 else own k) S n id Z Y sv v' bv (w1.setCell ⟨r, 1, none⟩ v') ∧ (∀ k, k < w.heap.size → (if v'.ownBlock = some k then 2 else own k) = own k) ∧ Frame (fun k => own k ≠ 0) w (w1.setCell ⟨r, 1, none⟩ v') := by
  have orr := h.orr
  have hr := h.bnd r (by omega)
  have hsame : ∀ k, k < w.heap.size → (if v'.ownBlock = some k then 2 else own k) = own k := fun k hk => by
    split
    · rename_i e
      rcases hl with hl | hl <;> rw [e] at hl
      · exact (h.ot k hl.symm).symm
      · cases hl
        omega
    · rfl
  have hrow : tv.ownBlock ≠ some r := fun e => by have := h.ot r e; omega
  have hh1 : w1.heap[r]? = _ := (hg.block r hr.2 (fun e => hrow e.symm)).trans h.heap
  have hf1 : Frame (fun k => tv.ownBlock = some k) w w1 := (Frame.refl _ w).grown hg (fun k _ e => e)
  have hfc : Frame (· = r) w1 (w1.setCell ⟨r, 1, none⟩ v') := Frame.cell w1 ⟨r, 1, none⟩ v'
  have hf : Frame (fun k => own k ≠ 0) w (w1.setCell ⟨r, 1, none⟩ v') := (hf1.mono (fun k _ e => by have := h.ot k e; show own k ≠ 0; omega)).then hfc (fun k _ e => by have e' : k = r := e; subst e'; omega)
  have hlow : ∀ k, k < base → own k = 0 := fun k hk => Classical.byContradiction fun h0 => by have := (h.bnd k h0).1; omega
  refine ⟨⟨?_, h.scr.frame hf (fun k hk e => e (hlow k hk)), ?_, ?_, ?_, ?_, ?_, fun k hk => ?_⟩, hsame, hf⟩
  · rw [setCell_row hh1]
    rfl
  · exact hfc.owns ho (fun k hk e => by have e' : k = r := e; rcases hl with hl | hl <;> rw [hk, e'] at hl; exact hrow hl.symm; cases hl; omega)
  · exact hfc.owns (hf1.owns h.thr (fun k hk e => by have h1 := h.ob k hk; have h2 := h.ot k e; omega)) (fun k hk e => by have e' : k = r := e; have := h.ob k hk; rw [e'] at this; omega)
  · show (if v'.ownBlock = some r then 2 else own r) = 1
    rw [hsame r hr.2]
    exact orr
  · exact fun k hk => if_pos hk
  · exact fun k hk => by rw [hsame k (h.bnd k (by rw [h.ob k hk]; omega)).2]; exact h.ob k hk
  · by_cases hv : v'.ownBlock = some k
    · exact ⟨(ho.lt k hv).1, Nat.lt_of_lt_of_le (ho.lt k hv).2 hfc.size⟩
    · simp only [hv, if_false] at hk
      exact ⟨(h.bnd k hk).1, Nat.lt_of_lt_of_le (h.bnd k hk).2 hf.size⟩

/-- Other truths are put. -/
theorem RD.flag (h : RD base r own S n id X Y sv tv bv w) {Z : List Value} {v' : Value} {w1 : World} (ho : w1.ownsRow base 4 1 v' Z.length Z) (hg : w.grownBy w1 bv.ownBlock) (hl : v'.ownBlock = bv.ownBlock ∨ v'.ownBlock = some w.heap.size) :
    RD base r (fun k => if v'.ownBlock = some k then 3 else own k) S n id X Z sv tv v' (w1.setCell ⟨r, 2, none⟩ v') ∧ (∀ k, k < w.heap.size → (if v'.ownBlock = some k then 3 else own k) = own k) ∧ Frame (fun k => own k ≠ 0) w (w1.setCell ⟨r, 2, none⟩ v') := by
  have orr := h.orr
  have hr := h.bnd r (by omega)
  have hsame : ∀ k, k < w.heap.size → (if v'.ownBlock = some k then 3 else own k) = own k := fun k hk => by
    split
    · rename_i e
      rcases hl with hl | hl <;> rw [e] at hl
      · exact (h.ob k hl.symm).symm
      · cases hl
        omega
    · rfl
  have hrow : bv.ownBlock ≠ some r := fun e => by have := h.ob r e; omega
  have hh1 : w1.heap[r]? = _ := (hg.block r hr.2 (fun e => hrow e.symm)).trans h.heap
  have hf1 : Frame (fun k => bv.ownBlock = some k) w w1 := (Frame.refl _ w).grown hg (fun k _ e => e)
  have hfc : Frame (· = r) w1 (w1.setCell ⟨r, 2, none⟩ v') := Frame.cell w1 ⟨r, 2, none⟩ v'
  have hf : Frame (fun k => own k ≠ 0) w (w1.setCell ⟨r, 2, none⟩ v') := (hf1.mono (fun k _ e => by have := h.ob k e; show own k ≠ 0; omega)).then hfc (fun k _ e => by have e' : k = r := e; subst e'; omega)
  have hlow : ∀ k, k < base → own k = 0 := fun k hk => Classical.byContradiction fun h0 => by have := (h.bnd k h0).1; omega
  refine ⟨⟨?_, h.scr.frame hf (fun k hk e => e (hlow k hk)), ?_, ?_, ?_, ?_, ?_, fun k hk => ?_⟩, hsame, hf⟩
  · rw [setCell_row hh1]
    rfl
  · exact hfc.owns (hf1.owns h.txt (fun k hk e => by have h1 := h.ot k hk; have h2 := h.ob k e; omega)) (fun k hk e => by have e' : k = r := e; have := h.ot k hk; rw [e'] at this; omega)
  · exact hfc.owns ho (fun k hk e => by have e' : k = r := e; rcases hl with hl | hl <;> rw [hk, e'] at hl; exact hrow hl.symm; cases hl; omega)
  · show (if v'.ownBlock = some r then 3 else own r) = 1
    rw [hsame r hr.2]
    exact orr
  · exact fun k hk => by rw [hsame k (h.bnd k (by rw [h.ot k hk]; omega)).2]; exact h.ot k hk
  · exact fun k hk => if_pos hk
  · by_cases hv : v'.ownBlock = some k
    · exact ⟨(ho.lt k hv).1, Nat.lt_of_lt_of_le (ho.lt k hv).2 hfc.size⟩
    · simp only [hv, if_false] at hk
      exact ⟨(h.bnd k hk).1, Nat.lt_of_lt_of_le (h.bnd k hk).2 hf.size⟩

theorem RD.kept (h : RD base r own S n id X Y sv tv bv w) {w1 : World} {row : Option Nat} (hg : w.grownBy w1 row) (hrow : ∀ k, row = some k → own k ≠ 1) : w1.cell? ⟨r, 1, none⟩ = some tv ∧ w1.cell? ⟨r, 2, none⟩ = some bv ∧ (∀ j, w1.frozen? ⟨r, j, none⟩ = false) := by
  have hh : w1.heap[r]? = _ := (hg.block r (Array.getElem?_eq_some_iff.1 h.heap).1 (fun e => hrow r e.symm h.orr)).trans h.heap
  exact ⟨by rw [cell_of_row _ _ _ _ _ _ hh]; rfl, by rw [cell_of_row _ _ _ _ _ _ hh]; rfl, fun j => by simp [World.frozen?, hh]⟩
theorem RD.c2 (h : RD base r own S n id X Y sv tv bv w) : w.cell? ⟨r, 2, none⟩ = some bv := by rw [cell_of_row _ _ _ _ _ _ h.heap]; rfl
theorem RD.c1 (h : RD base r own S n id X Y sv tv bv w) : w.cell? ⟨r, 1, none⟩ = some tv := by rw [cell_of_row _ _ _ _ _ _ h.heap]; rfl

theorem Try.info4b : (Try.prog.info? 4).map (fun i => (i.zero, i.size, i.bytes)) = some (some (.bool false), 1, 1) := by kernel_rfl

set_option maxRecDepth 100000 in
set_option maxHeartbeats 2000000 in
theorem refCreate_any (h : RAt base r own S s w) (hs : Small s) (hS : S.length ≤ 1000000) :
    Calls Try.prog 20 #[.pointer (some ⟨r, 0, none⟩)] w fun e w' => e = .returned (.tuple #[.int .i64 (createN S s), .int .i64 (createE S s)]) ∧ RLeft base r own S (createS S s) w w' := by
  obtain ⟨sv, tv, bv, h⟩ := h
  have c1 := h.c1
  obtain ⟨ta, tc, rfl⟩ := owns_slice h.txt
  obtain ⟨ba, bc, rfl⟩ := owns_slice h.thr
  have HC := Lib.hid (counts_any h hs.n hS)
  have hsT := hs.T
  unfold createN createE createS
  by_cases hm : 64 ≤ s.T.length
  · rw [if_pos hm, if_pos hm, if_neg (by decide)]
    have e1 : s.T.length = 64 := by omega
    rw [e1] at c1
    have HL := Lib.hid (h.left (Below.refl w.heap.size w))
    clear HC h hs hm hsT
    go_enter Try.func20, Try.ntmps20
    go_wp2_with fail
    go_ret2
    exact ⟨rfl, HL.out⟩
  · rw [if_neg hm, if_neg hm]
    have g0 : ((s.T.length : Int) == 64) = false := by simp; omega
    have hfr : ∀ w', Frame (· = r) w w' → Frame (fun k => own k ≠ 0) w w' := fun w' hf => hf.mono (fun x _ e => by have e' : x = r := e; subst e'; show own x ≠ 0; rw [h.orr]; omega)
    have HFR := Lib.hid hfr
    by_cases he : cntE S s = 0
    · rw [if_pos he, if_pos he]
      rw [he] at HC ⊢
      obtain ⟨i9, hi9, y0, y1, y2⟩ := info_parts Try.info9
      obtain ⟨i4, hi4, z0, z1, z2⟩ := info_parts Try.info4b
      have q1 : (s.T.length : Int) ≤ 64 := by omega
      have Y0 := Lib.hid y0
      have Y1 := Lib.hid y1
      have Y2 := Lib.hid y2
      have Z0 := Lib.hid z0
      have Z1 := Lib.hid z1
      have Z2 := Lib.hid z2
      have I9 := Lib.hid hi9
      have I4 := Lib.hid hi4
      clear hfr hsT hs h he y0 y1 y2 z0 z1 z2 hi9 hi4
      go_enter Try.func20, Try.ntmps20
      go_wp2_with fail
      refine HC.out.mono ?_
      rintro e w1 ⟨rfl, hd, hf⟩
      have c1 : w1.cell? ⟨r, 1, none⟩ = some (.slice ta s.T.length tc) := hd.c1
      have z1 := hd.froz 1
      have HD := Lib.hid (show RD base r own S (cntS S s).n (cntS S s).id (s.T.map fun t => strV t.1) (s.T.map fun t => .bool t.2) sv (.slice ta s.T.length tc) (.slice ba s.T.length bc) w1 from hd.rd)
      have HF := Lib.hid hf
      clear hd hf
      go_upto_region 7 with (at_builtin; refine wpList_append_own_at _ rfl _ _ 29 rfl base 9 i9 (.string ByteArray.empty) 1 16 Try.underlying29 I9.out Y0.out Y1.out Y2.out rfl (by decide) _ _ _ rfl (HD.out.below ((Below.refl w1.heap.size w1).alloc (Nat.le_refl _) (.cells #[.string ByteArray.empty] 9))).txt ⟨w1.heap.size, 0, none⟩ 1 1 [.string ByteArray.empty] rfl rfl (cell_one_new _ _ _) (by simp [Value.oneCell']) ?p1 ?p2 ?p3 ?_)
      case p1 => rw [List.length_map]; unfold maxLen; omega
      case p2 => rw [List.length_map]; omega
      case p3 => have := HD.out.bnd r (by rw [HD.out.orr]; omega); simp; omega
      intro tv' W2 ho hg _ hl
      have hda := HD.out.below ((Below.refl w1.heap.size w1).alloc (Nat.le_refl _) (.cells #[.string ByteArray.empty] 9))
      have ho2 : W2.ownsRow base 9 1 tv' (List.map (fun t : List UInt8 × Bool => strV t.1) s.T ++ [Value.string ByteArray.empty]).length (List.map (fun t : List UInt8 × Bool => strV t.1) s.T ++ [Value.string ByteArray.empty]) := by rw [List.length_append, List.length_map]; exact ho
      obtain ⟨hr2, hs2, hf2⟩ := hda.text ho2 hg (by rw [World.size_alloc]; exact hl)
      obtain ⟨c1, -, z1⟩ := hda.kept hg (fun k e => by rw [hda.ot k e]; omega)
      have z1 := z1 1
      obtain ⟨ta2, tc2, rfl⟩ := owns_slice ho
      have hf2' : Frame (fun k => own k ≠ 0) w (W2.setCell ⟨r, 1, none⟩ (.slice ta2 (s.T.length + 1) tc2)) := ((HFR.out _ HF.out).trans (Below.toFrame ((Below.refl w1.heap.size w1).alloc (Nat.le_refl _) _) _)).trans hf2
      have hs2' : ∀ k, k < w.heap.size → (if (Value.slice ta2 (s.T.length + 1) tc2).ownBlock = some k then 2 else own k) = own k := fun k hk => hs2 k (by have := HF.out.size; simp; omega)
      generalize hown2 : (fun k => if (Value.slice ta2 (s.T.length + 1) tc2).ownBlock = some k then 2 else own k) = own2 at hr2
      replace hs2' : ∀ k, k < w.heap.size → own2 k = own k := fun k hk => by rw [← hown2]; exact hs2' k hk
      have HR2 := Lib.hid hr2
      have HF2 := Lib.hid hf2'
      have HS2 := Lib.hid hs2'
      clear hda ho ho2 hg hl hr2 hs2 hf2 hf2' hs2' hown2 HD HF
      go_upto_region 7 with fail
      generalize W2.setCell ⟨r, 1, none⟩ (.slice ta2 (s.T.length + 1) tc2) = W3 at HR2 HF2 ⊢
      have hr2 := HR2.out
      have c2 := hr2.c2
      clear hr2 c1 z1
      go_upto_region 8 with (at_builtin; refine wpList_append_own_at _ rfl _ _ 30 rfl base 4 i4 (.bool false) 1 1 Try.underlying30 I4.out Z0.out Z1.out Z2.out rfl (by decide) _ _ _ rfl (HR2.out.below ((Below.refl W3.heap.size W3).alloc (Nat.le_refl _) (.cells #[.bool true] 4))).thr ⟨W3.heap.size, 0, none⟩ 1 1 [.bool true] rfl rfl (cell_one_new _ _ _) (by simp [Value.oneCell']) ?p1 ?p2 ?p3 ?_)
      case p1 => rw [List.length_map]; unfold maxLen; omega
      case p2 => rw [List.length_map]; omega
      case p3 => have := HR2.out.bnd r (by rw [HR2.out.orr]; omega); simp; omega
      intro bv' W4 ho hg _ hl
      have hda := HR2.out.below ((Below.refl W3.heap.size W3).alloc (Nat.le_refl _) (.cells #[.bool true] 4))
      have ho2 : W4.ownsRow base 4 1 bv' (List.map (fun t : List UInt8 × Bool => Value.bool t.2) s.T ++ [Value.bool true]).length (List.map (fun t : List UInt8 × Bool => Value.bool t.2) s.T ++ [Value.bool true]) := by rw [List.length_append, List.length_map]; exact ho
      obtain ⟨hr4, hs4, hf4⟩ := hda.flag ho2 hg (by rw [World.size_alloc]; exact hl)
      obtain ⟨-, c2, z2⟩ := hda.kept hg (fun k e => by rw [hda.ob k e]; omega)
      have z2 := z2 2
      obtain ⟨ba2, bc2, rfl⟩ := owns_slice ho
      have hlt2 : w.heap.size ≤ W3.heap.size := HF2.out.size
      have hf4' : Frame (fun k => own k ≠ 0) w (W4.setCell ⟨r, 2, none⟩ (.slice ba2 (s.T.length + 1) bc2)) := (HF2.out.trans (Below.toFrame ((Below.refl W3.heap.size W3).alloc (Nat.le_refl _) _) _)).then hf4 (fun k hk e => by have := HS2.out k hk; rw [← this]; exact e)
      have hs4' : ∀ k, k < w.heap.size → (if (Value.slice ba2 (s.T.length + 1) bc2).ownBlock = some k then 3 else own2 k) = own k := fun k hk => (hs4 k (by simp; omega)).trans (HS2.out k hk)
      have hx : List.map (fun t : List UInt8 × Bool => strV t.1) s.T ++ [Value.string ByteArray.empty] = List.map (fun t : List UInt8 × Bool => strV t.1) (s.T ++ [([], true)]) := by rw [List.map_append]; rfl
      have hy : List.map (fun t : List UInt8 × Bool => Value.bool t.2) s.T ++ [Value.bool true] = List.map (fun t : List UInt8 × Bool => Value.bool t.2) (s.T ++ [([], true)]) := by rw [List.map_append]; rfl
      rw [hx, hy] at hr4
      have HR4 := Lib.hid (show RDisk base r _ S { cntS S s with T := s.T ++ [([], true)] } sv _ _ _ from RD.disk hr4)
      have HF4 := Lib.hid hf4'
      have HS4 := Lib.hid hs4'
      clear hda ho ho2 hg hl hr4 hs4 hf4 hf4' hs4' hx hy HR2 HF2 HS2
      go_upto_region 8 with fail
      have c1 := HR4.out.c1
      go_wp2_with fail
      go_ret2
      exact ⟨rfl, _, ⟨_, _, _, HR4.out⟩, HS4.out, HF4.out⟩
    · rw [if_neg he, if_neg he]
      obtain ⟨E, hE⟩ : ∃ E, E = cntE S s := ⟨_, rfl⟩
      rw [← hE] at HC he ⊢
      have g1 : (E != 0) = true := by simpa using he
      clear hfr hsT hs h hE he hm
      go_enter Try.func20, Try.ntmps20
      go_wp2_with (refine HC.out.mono ?_; rintro e w1 ⟨rfl, hd, hf⟩; have HD := Lib.hid hd; have HF := Lib.hid hf; clear hd hf)
      go_ret2
      exact ⟨rfl, own, ⟨_, _, _, HD.out⟩, fun _ _ => rfl, HFR.out _ HF.out⟩
end
end Go.Proofs.Ytpengkkbmenkpaa
