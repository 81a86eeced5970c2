/- The document's denotation of tee; what tee comes to is just that. -/
import Derived.Test.YtdcaniidkaicdaaDoorOutstrs
import Derived.Test.YtdcaniidkaicdaaDoorSamemany
import Derived.Test.YtdcaniidkaicdaaDoorTeeFace
import Derived.Test.YtdcaniidkaicdaaDoorRA
import Derived.Outline
import Derived.Deep.MidRow
namespace Go.Proofs.YtdcaniidkaicdaaDoor
open Go.RowKit

/-- What comes to an output. -/
def teeOne (i : Strm) : Strm := ⟨i.bytes, i.ended, if i.ended then 0 else i.code, if i.ended then 0 else i.stage, if i.ended then 0 else i.id⟩
def teeWant (N : Nat) (_ _ : List UInt8) (i : Strm) : List Strm := List.replicate (min N 4) (teeOne i)

set_option maxRecDepth 100000 in
set_option maxHeartbeats 8000000 in
theorem teeMeans_any {p : Nat → Prop} (k : Int) (N : Nat) (va vb : Value) (A B : List UInt8) (iv : Value) (i : Strm) (w : World) (_ : Pm.IsBytes w va A) (_ : Pm.IsBytes w vb B) (hI : IsStrms p w iv [i]) (hok : teeOk N A B) (_ : i.bytes.length ≤ 4000) :
    Calls Tryd.prog 19 #[Pm.parV k N va vb, iv] w (OutsEnd w (teeWant N A B i)) := by
  obtain ⟨h1, h4⟩ := hok
  have hwant : teeWant N A B i = List.replicate N (teeOne i) := by rw [teeWant, Nat.min_eq_left h4]
  rw [hwant]
  obtain ⟨x, ended, e1, e2, e3⟩ := i
  have hb0 : Below w.heap.size w (w.alloc (.cells #[.int .i64 k, .int .i64 N, va, vb] 24)) := (Below.refl _ _).alloc (Nat.le_refl _) _
  have hr0 := heap_alloc_last w (.cells #[.int .i64 k, .int .i64 N, va, vb] 24)
  have hs0 : (w.alloc (.cells #[.int .i64 k, .int .i64 N, va, vb] 24)).heap.size = w.heap.size + 1 := by simp
  obtain ⟨_, cI, e, hcs⟩ := hI
  subst e
  obtain ⟨gb, off, bv, rfl, -, c0, c1, c2, c3, c4, hbytes⟩ := hcs 0 _ rfl
  simp only [Nat.zero_mul, Nat.add_zero] at c0 c1 c2 c3 c4 hbytes
  have hrg := range5 c0 c1 c2 c3 c4
  obtain ⟨T, hT⟩ : ∃ T, T = teeOne ⟨x, ended, e1, e2, e3⟩ := ⟨_, rfl⟩
  rw [← hT]
  have HT := Lib.hid hT
  obtain ⟨SX, hSX⟩ : ∃ S : ByteArray, strV x = .string S := ⟨_, rfl⟩
  have HSX := Lib.hid hSX
  clear hT hSX hwant hcs c0 c1 c2 c3 c4
  unfold Pm.parV
  simp only [List.length_cons, List.length_nil, Nat.zero_add]
  go_enter Tryd.func19, Tryd.ntmps19
  go_wp2_with fail
  generalize w.alloc (.cells #[.int .i64 k, .int .i64 N, va, vb] 24) = W0 at hb0 hr0 hs0 ⊢
  have HX := Lib.hid (show ∀ W, Below W0.heap.size W0 W → W.cell? ⟨w.heap.size, 1, none⟩ = some (.int .i64 N) ∧ W.rangeAt gb off [bv, .bool ended, .int .i64 e1, .int .i64 e2, .int .i64 e3] ∧ (convert 22 9 bv).run Tryd.prog W = .ok (.string SX) W ∧ Below w.heap.size w W from fun W hb => by
    have h0 := (hb.block w.heap.size (by omega)).trans hr0
    have hw := hb0.trans (hb.mono hb0.size)
    have hcv := conv_any (hbytes.below hw)
    rw [HSX.out] at hcv
    exact ⟨by rw [cell_of_row _ _ _ _ _ _ h0]; rfl, range_below hrg hw, hcv, hw⟩)
  clear hb0 hr0 hs0 hbytes hrg
  go_loopw [5, 6, 7] (fun ov iv _ wr => ∃ (j : Nat) (u : Value), u = ov ∧ iv = .int .i64 j ∧ j ≤ N ∧ OwnStrs W0.heap.size wr u (List.replicate j T) ∧ Below W0.heap.size W0 wr) (fun _ i _ _ => N - (intOf i).toNat)
  case atStart => exact ⟨0, _, rfl, rfl, Nat.zero_le _, OwnStrs.nil _ _, Below.refl _ _⟩
  case round =>
    obtain ⟨j, u, rfl, rfl, hj, ho, hbr⟩ := hrel
    obtain ⟨n0, -, -, -⟩ := HX.out _ hbr
    have hll : (List.replicate j T).length = j := List.length_replicate
    obtain ⟨ua, uc, hu⟩ := ho.slice
    rw [hll] at hu
    subst hu
    have HO := Lib.hid ho
    have HBr := Lib.hid hbr
    clear ho hbr
    by_cases hlt : j < N
    · have q1 : (j : Int) < (N : Int) := by omega
      have hlen : (List.replicate j T).length ≤ 1000000 := by omega
      have HLen := Lib.hid hlen
      clear hlen hll
      go_wp2_with fail
      refine anyG_start (S := Below wr.heap.size wr) (by kernel_rfl) ?_
      have hM : Below wr.heap.size wr wr.drew := (Below.refl _ _).drew
      have HZ := Lib.hid (show ∀ W, Below wr.heap.size wr W → W.rangeAt gb off [bv, .bool ended, .int .i64 e1, .int .i64 e2, .int .i64 e3] ∧ (convert 22 9 bv).run Tryd.prog W = .ok (.string SX) W from fun W hb => by
        obtain ⟨-, z1, z2, -⟩ := HX.out W (HBr.out.trans (hb.mono HBr.out.size))
        exact ⟨z1, z2⟩)
      generalize wr.drew = WD at hM ⊢
      refine anyG_take (i := 0) 14 (.slice (some ⟨gb, off, none⟩) 1 cI) rfl rfl (by kernel_rfl) (by kernel_rfl) (by kernel_rfl) rfl (fun _ _ => rfl) hM ?_
      simp only [Act.put, List.setIfInBounds_toArray, List.set_cons_succ, List.set_cons_zero]
      refine anyG_take (i := 1) 15 (.pointer (some ⟨gb, off, none⟩)) rfl rfl (by kernel_rfl) (by kernel_rfl) (by kernel_rfl) rfl (fun _ _ => by go_simp) hM ?_
      simp only [Act.put, List.setIfInBounds_toArray, List.set_cons_succ, List.set_cons_zero]
      refine anyG_take (i := 2) 16 (.pointer (some ⟨gb, off, none⟩)) rfl rfl (by kernel_rfl) (by kernel_rfl) (by kernel_rfl) rfl (fun _ _ => by go_simp) hM ?_
      simp only [Act.put, List.setIfInBounds_toArray, List.set_cons_succ, List.set_cons_zero]
      refine anyG_take (i := 3) 17 bv rfl rfl (by kernel_rfl) (by kernel_rfl) (by kernel_rfl) rfl (fun W h => by have z := (HZ.out W h).1 0 _ rfl; rw [Nat.add_zero] at z; go_simp) hM ?_
      simp only [Act.put, List.setIfInBounds_toArray, List.set_cons_succ, List.set_cons_zero]
      refine anyG_take (i := 4) 18 (.string SX) rfl rfl (by kernel_rfl) (by kernel_rfl) (by kernel_rfl) rfl (fun W h => by have z := (HZ.out W h).2; go_simp) hM ?_
      simp only [Act.put, List.setIfInBounds_toArray, List.set_cons_succ, List.set_cons_zero]
      refine anyG_take (i := 5) 19 (.slice (some ⟨gb, off, none⟩) 1 cI) rfl rfl (by kernel_rfl) (by kernel_rfl) (by kernel_rfl) rfl (fun _ _ => rfl) hM ?_
      simp only [Act.put, List.setIfInBounds_toArray, List.set_cons_succ, List.set_cons_zero]
      refine anyG_take (i := 6) 20 (.pointer (some ⟨gb, off, none⟩)) rfl rfl (by kernel_rfl) (by kernel_rfl) (by kernel_rfl) rfl (fun _ _ => by go_simp) hM ?_
      simp only [Act.put, List.setIfInBounds_toArray, List.set_cons_succ, List.set_cons_zero]
      refine anyG_take (i := 7) 21 (.pointer (some ⟨gb, off + 1, none⟩)) rfl rfl (by kernel_rfl) (by kernel_rfl) (by kernel_rfl) rfl (fun _ _ => by go_simp) hM ?_
      simp only [Act.put, List.setIfInBounds_toArray, List.set_cons_succ, List.set_cons_zero]
      refine anyG_take (i := 8) 22 (.bool ended) rfl rfl (by kernel_rfl) (by kernel_rfl) (by kernel_rfl) rfl (fun W h => by have z := (HZ.out W h).1 1 _ rfl; go_simp) hM ?_
      simp only [Act.put, List.setIfInBounds_toArray, List.set_cons_succ, List.set_cons_zero]
      refine anyG_take (i := 9) 23 (.slice (some ⟨gb, off, none⟩) 1 cI) rfl rfl (by kernel_rfl) (by kernel_rfl) (by kernel_rfl) rfl (fun _ _ => rfl) hM ?_
      simp only [Act.put, List.setIfInBounds_toArray, List.set_cons_succ, List.set_cons_zero]
      refine anyG_take (i := 10) 24 (.pointer (some ⟨gb, off, none⟩)) rfl rfl (by kernel_rfl) (by kernel_rfl) (by kernel_rfl) rfl (fun _ _ => by go_simp) hM ?_
      simp only [Act.put, List.setIfInBounds_toArray, List.set_cons_succ, List.set_cons_zero]
      refine anyG_take (i := 11) 25 (.pointer (some ⟨gb, off + 2, none⟩)) rfl rfl (by kernel_rfl) (by kernel_rfl) (by kernel_rfl) rfl (fun _ _ => by go_simp) hM ?_
      simp only [Act.put, List.setIfInBounds_toArray, List.set_cons_succ, List.set_cons_zero]
      refine anyG_take (i := 12) 26 (.agg #[.int .i64 e1, .int .i64 e2, .int .i64 e3]) rfl rfl (by kernel_rfl) (by kernel_rfl) (by kernel_rfl) rfl (fun W h => exec_load_mid 59 (.tmp 25) rfl gb (off + 2) rfl _ _ (fun j v hv => by
        have z := (HZ.out W h).1 (j + 2) v (by simpa using hv)
        rw [show off + 2 + j = off + (j + 2) by omega]
        exact z) Tryd.underlying59 rfl (by kernel_rfl)) hM ?_
      simp only [Act.put, List.setIfInBounds_toArray, List.set_cons_succ, List.set_cons_zero]
      have hout := out_any x ended e1 e2 e3 WD
      rw [HSX.out] at hout
      refine anyG_step (i := 13) rfl (by kernel_rfl) rfl (fun K hK => ?_)
      go_simp
      refine hout.mono ?_
      rintro e W2 ⟨lv, rfl, hs2, hb2⟩
      have hM2 : Below wr.heap.size wr W2 := hM.trans (hb2.mono hM.size)
      refine hK.out _ _ hM2 ?_
      clear hK K hout
      try simp only [Act.put, List.setIfInBounds_toArray, List.set_cons_succ, List.set_cons_zero]
      refine anyG_take (i := 14) 7 lv rfl rfl (by kernel_rfl) (by kernel_rfl) (by kernel_rfl) rfl (fun _ _ => rfl) hM2 ?_
      simp only [Act.put, List.setIfInBounds_toArray, List.set_cons_succ, List.set_cons_zero]
      refine anyG_done (by kernel_rfl) ?_
      have hT' : (⟨x, ended, if ended then 0 else e1, if ended then 0 else e2, if ended then 0 else e3⟩ : Strm) = T := HT.out.symm
      rw [hT'] at hs2
      obtain ⟨_, cl, e, hcs⟩ := hs2
      subst e
      obtain ⟨gl, ol, lb, rfl, -, d0, d1, d2, d3, d4, hlb⟩ := hcs 0 _ rfl
      simp only [Nat.zero_mul, Nat.add_zero] at d0 d1 d2 d3 d4
      have hmid := range5 d0 d1 d2 d3 d4
      obtain ⟨la, lc, rfl, -, -⟩ := id hlb
      have hszM := hM.size
      have HLb := Lib.hid (show ∀ o : Obj, IsBytes (wr.heap.size ≤ ·) (W2.alloc o) (.slice la T.bytes.length lc) T.bytes from fun o => (hlb.below ((Below.refl _ _).alloc (Nat.le_refl _) o)).mono (fun _ _ h => by omega))
      have HO2 := Lib.hid (show ∀ o : Obj, OwnStrs W0.heap.size (W2.alloc o) (.slice ua j uc) (List.replicate j T) from fun o => (HO.out.below hM2).below ((Below.refl _ _).alloc (Nat.le_refl _) o))
      have HLt := Lib.hid HO.out.lt
      have HB2 := Lib.hid (show ∀ o : Obj, Below W0.heap.size W0 (W2.alloc o) from fun o => (HBr.out.trans (hM2.mono HBr.out.size)).alloc (Nat.le_trans HBr.out.size hM2.size) o)
      have hsz2 := hM2.size
      have hszr := HBr.out.size
      clear hM hM2 hb2 hcs hlb d0 d1 d2 d3 d4 hT' n0 HZ
      simp only [List.length_cons, List.length_nil, Nat.zero_add]
      go_wp2_with (first | (refine wpList_load_mid rfl 61 (.tmp 30) rfl gl ol rfl _ _ hmid Tryd.underlying61 rfl (by kernel_rfl) ?_) | (at_builtin; refine wpList_append_strm1 rfl (.tmp 28) (.tmp 32) rfl (base := W0.heap.size) (base2 := wr.heap.size) (v := .slice ua j uc) (L := List.replicate j T) (T, .slice la T.bytes.length lc) W2.heap.size rfl (HO2.out _) rfl (heap_alloc_last W2 _) (HLb.out _) HLen.out hszr (by simp; omega) (fun k e => (HLt.out k e).2) ?_; intro v' w' ho' hg'; have HO3 := Lib.hid ho'; have HG3 := Lib.hid hg'; clear ho' hg'))
      have hb3 : Below W0.heap.size W0 w' := (HB2.out _).grown HG3.out (HB2.out _).size (fun k e => (HLt.out k e).1)
      have HB3 := Lib.hid hb3
      have HO4 := Lib.hid (show OwnStrs W0.heap.size w' v' (List.replicate (j + 1) T) by rw [List.replicate_succ']; exact HO3.out)
      clear hb3
      go_roundw
      case rel => exact ⟨j + 1, _, rfl, by go_num, by omega, HO4.out, HB3.out⟩
      case measure => simp [intOf]; omega
    · obtain rfl : j = N := by omega
      have q1 : ¬ (j : Int) < (j : Int) := by omega
      have hsz := (HX.out _ (Below.refl _ _)).2.2.2.size
      have HBw := Lib.hid (HX.out _ HBr.out).2.2.2
      have HSt := Lib.hid (HO.out.is.mono (q := (w.heap.size ≤ ·)) (fun _ _ h => by omega))
      clear hll
      go_wp2_with fail
      go_ret
      exact ⟨_, rfl, HSt.out, HBw.out⟩

/-! What tee comes to is what the document says. -/
theorem tee_case (N : Nat) (A B : List UInt8) (i : Strm) (g : GotL) (h1 : g.outs = (teeFin N A B i).outs) (h2 : g.need = (teeFin N A B i).need) (h3 : g.err = (teeFin N A B i).err) :
    (teeWant N A B i).length ≤ 4 ∧ (∀ (j : Nat) t, (teeWant N A B i)[j]? = some t → g.outs j = t.bytes) ∧ (∀ j, (teeWant N A B i).length ≤ j → g.outs j = []) ∧ (∀ t ∈ teeWant N A B i, SameCase g [i] t) ∧ True := by
  have hlen : (teeWant N A B i).length = min N 4 := List.length_replicate
  refine ⟨by omega, fun j t hj => ?_, fun j hj => ?_, fun t ht => ?_, trivial⟩
  · have hlt := (List.getElem?_eq_some_iff.1 hj).1
    obtain rfl := List.eq_of_mem_replicate (List.mem_of_getElem? hj)
    rw [h1]
    exact if_pos (by omega)
  · rw [h1]
    exact if_neg (by omega)
  · obtain rfl := List.eq_of_mem_replicate ht
    unfold SameCase teeOne
    cases he : i.ended with
    | true => exact .inl ⟨rfl, by rw [h2, teeFin, he]; rfl, by rw [h3]; rfl⟩
    | false => exact .inr (.inr ⟨rfl, by rw [h3]; rfl, 0, i, by rw [h2, teeFin, he]; rfl, rfl, rfl, rfl, rfl⟩)

end Go.Proofs.YtdcaniidkaicdaaDoor
