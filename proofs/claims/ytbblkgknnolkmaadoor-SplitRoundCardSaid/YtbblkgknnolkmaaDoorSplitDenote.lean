/- The document's denotation of split; what split comes to is just that. -/
import Derived.Test.YtbblkgknnolkmaaDoorDenote
import Derived.Test.YtbblkgknnolkmaaDoorOutstrs
import Derived.Test.YtbblkgknnolkmaaDoorSamemany
import Derived.Test.YtbblkgknnolkmaaDoorSplitFace
import Derived.Test.YtbblkgknnolkmaaDoorRA
import Derived.Outline
import Derived.Deep.MidRow
namespace Go.Proofs.YtbblkgknnolkmaaDoor
open Go.RowKit

/-- What comes to an output. -/
def splitOne (M : Nat) (i : Strm) (j : Nat) : Strm :=
  let r := readL i.bytes i.ended (i.code, i.stage, i.id)
  ⟨joinL (shareL M j 0 r.1), r.2.1, if r.2.1 then 0 else r.2.2.1, if r.2.1 then 0 else r.2.2.2.1, if r.2.1 then 0 else r.2.2.2.2⟩
def splitWant (N : Nat) (_ _ : List UInt8) (i : Strm) : List Strm := (List.range (outN N)).map (splitOne (outN N) i)

set_option maxRecDepth 100000 in
set_option maxHeartbeats 8000000 in
theorem splitMeans_any {p : Nat → Prop} (k : Int) (N : Nat) (va vb : Value) (A B : List UInt8) (iv : Value) (i : Strm) (w : World) (_ : Pm.IsBytes w va A) (_ : Pm.IsBytes w vb B) (hI : IsStrms p w iv [i]) (hok : splitOk N A B) (hl : i.bytes.length ≤ 4000) :
    Calls Tryd.prog 19 #[Pm.parV k N va vb, iv] w (OutsEnd w (splitWant N A B i)) := by
  have hb0 : Below w.heap.size w (w.alloc (.cells #[.int .i64 k, .int .i64 N, va, vb] 24)) := (Below.refl _ _).alloc (Nat.le_refl _) _
  obtain ⟨_, _, e, hcs⟩ := hI.below hb0
  subst e
  obtain ⟨gb, off, bv, rfl, -, c0, c1, c2, c3, c4, hbytes⟩ := hcs 0 i rfl
  simp only [Nat.zero_mul, Nat.add_zero] at c0 c1 c2 c3 c4
  have hlines := lines_any bv i.bytes i.ended i.code i.stage i.id (w.alloc (.cells #[.int .i64 k, .int .i64 N, va, vb] 24)) hbytes (by omega)
  obtain ⟨hr64, hrl⟩ := readL_lines i.bytes i.ended (i.code, i.stage, i.id)
  obtain ⟨L, all, x1, x2, x3, hr⟩ : ∃ L all x1 x2 x3, readL i.bytes i.ended (i.code, i.stage, i.id) = (L, all, x1, x2, x3) := ⟨_, _, _, _, _, rfl⟩
  have hwant : splitWant N A B i = (List.range N).map (fun j => (⟨joinL (shareL N j 0 L), all, if all then 0 else x1, if all then 0 else x2, if all then 0 else x3⟩ : Strm)) := by
    unfold splitWant splitOne
    rw [hr, outN_ok hok.1 hok.2]
  rw [hwant]
  obtain ⟨h1, h4⟩ := hok
  obtain ⟨R, hR⟩ : ∃ R : Nat → Strm, R = fun j => (⟨joinL (shareL N j 0 L), all, if all then 0 else x1, if all then 0 else x2, if all then 0 else x3⟩ : Strm) := ⟨_, rfl⟩
  rw [← hR]
  have HRd := Lib.hid hR
  clear hR
  rw [hr] at hr64 hrl
  unfold ReadEnd at hlines
  rw [hr] at hlines
  simp only [readV] at hr64 hrl hlines
  have hjl := joinL_len hr64
  have hmid : (w.alloc (.cells #[.int .i64 k, .int .i64 N, va, vb] 24)).rangeAt gb off [bv, .bool i.ended, .int .i64 i.code, .int .i64 i.stage, .int .i64 i.id] := fun j v hv => by
    rcases j with _ | _ | _ | _ | _ | j
    · cases hv; exact c0
    · cases hv; exact c1
    · cases hv; exact c2
    · cases hv; exact c3
    · cases hv; exact c4
    · simp at hv
  have HL := Lib.hid hlines
  have HB0 := Lib.hid hb0
  have HR := Lib.hid hr64
  obtain ⟨ab, cb, rfl, -, -⟩ := hbytes
  clear hlines hb0 hwant hr hr64 hcs hI
  unfold Pm.parV
  simp only [List.length_cons, List.length_nil, Nat.zero_add]
  go_enter Tryd.func19, Tryd.ntmps19
  go_wp2_with (first | (refine wpList_load_mid rfl 61 (.tmp 12) rfl gb off rfl _ _ hmid Tryd.underlying61 rfl (by kernel_rfl) ?_))
  refine HL.out.mono ?_
  rintro e w1 ⟨lv, rfl, hown, hb1⟩
  obtain ⟨la, lc, rfl⟩ := Pm.owns_slice hown
  have hTx := isTexts_of_owns hown
  have hp1 : w1.cell? ⟨w.heap.size, 1, none⟩ = some (.int .i64 N) := Pm.Below.cell hb1 (by simp)
  have hbw : Below w.heap.size w w1 := HB0.out.trans (hb1.mono HB0.out.size)
  have hsz1 := hbw.size
  have HTx := Lib.hid hTx
  have HP1 := Lib.hid hp1
  have HBW := Lib.hid hbw
  have HRow := Lib.hid (heap_alloc_last w1 (.cells #[.slice la L.length lc, .bool all, .int .i64 x1, .int .i64 x2, .int .i64 x3] 96))
  have HAl := Lib.hid ((Below.refl w1.heap.size w1).alloc (Nat.le_refl _) (.cells #[.slice la L.length lc, .bool all, .int .i64 x1, .int .i64 x2, .int .i64 x3] 96))
  clear hown hTx hp1 hbw hb1 hmid c0 c1 c2 c3 c4
  go_wp2_with fail
  have hrow := HRow.out
  have hal := HAl.out
  change Code.wp _ _ _ _ (w1.alloc (.cells #[.slice la L.length lc, .bool all, .int .i64 x1, .int .i64 x2, .int .i64 x3] 96))
  generalize w1.alloc (.cells #[.slice la L.length lc, .bool all, .int .i64 x1, .int .i64 x2, .int .i64 x3] 96) = W2 at hrow hal ⊢
  have cN := Pm.Below.cell hal HP1.out
  have cL : W2.cell? ⟨w1.heap.size, 0, none⟩ = some (.slice la L.length lc) := by rw [cell_of_row _ _ _ _ _ _ hrow]; rfl
  have cA : W2.cell? ⟨w1.heap.size, 1, none⟩ = some (.bool all) := by rw [cell_of_row _ _ _ _ _ _ hrow]; rfl
  have hmid2 : W2.rangeAt w1.heap.size 2 [Value.int .i64 x1, .int .i64 x2, .int .i64 x3] := fun j v hv => by
    rw [cell_of_row _ _ _ _ _ _ hrow]
    rcases j with _ | _ | _ | j
    · exact hv
    · exact hv
    · exact hv
    · simp at hv
  have hlt2 := (Array.getElem?_eq_some_iff.1 hrow).1
  have HX := Lib.hid (show ∀ W, Below W2.heap.size W2 W → W.cell? ⟨w.heap.size, 1, none⟩ = some (.int .i64 N) ∧ W.cell? ⟨w1.heap.size, 0, none⟩ = some (.slice la L.length lc) ∧ W.cell? ⟨w1.heap.size, 1, none⟩ = some (.bool all) ∧ W.rangeAt w1.heap.size 2 [Value.int .i64 x1, Value.int .i64 x2, Value.int .i64 x3] from fun W hb => by
    have hr := (hb.block w1.heap.size hlt2).trans hrow
    refine ⟨Pm.Below.cell hb cN, Pm.Below.cell hb cL, Pm.Below.cell hb cA, fun j v hv => ?_⟩
    rw [cell_of_row _ _ _ _ _ _ hr]
    rcases j with _ | _ | _ | j
    · exact hv
    · exact hv
    · exact hv
    · simp at hv)
  have hb2 := HBW.out.trans (hal.mono HBW.out.size)
  have HTx2 := Lib.hid (show ∀ W, Below W2.heap.size W2 W → IsTexts ((w.alloc (.cells #[.int .i64 k, .int .i64 N, va, vb] 24)).heap.size ≤ ·) W (.slice la L.length lc) L from fun W hb => (HTx.out.below hal).below hb)
  have HB2 := Lib.hid (show ∀ W, Below W2.heap.size W2 W → Below w.heap.size w W from fun W hb => hb2.trans (hb.mono hb2.size))
  clear hrow hal HRow HAl hlt2 cN cL cA hmid2 hb2 HTx HBW HP1
  go_loopw [6, 7] (fun ov kv wr => ∃ (j : Nat) (u : Value), u = ov ∧ kv = .int .i64 j ∧ j ≤ N ∧ OwnStrs W2.heap.size wr u ((List.range j).map R) ∧ Below W2.heap.size W2 wr) (fun _ kv _ => N - (intOf kv).toNat)
  case atStart => exact ⟨0, _, rfl, rfl, Nat.zero_le _, OwnStrs.nil _ _, Below.refl _ _⟩
  case round =>
    obtain ⟨j, u, rfl, rfl, hj, ho, hbr⟩ := hrel
    obtain ⟨n0, -, -, -⟩ := HX.out _ hbr
    have hll : ((List.range j).map R).length = j := by simp
    obtain ⟨ua, uc, hu⟩ := ho.slice
    rw [hll] at hu
    subst hu
    have HO := Lib.hid ho
    have HBr := Lib.hid hbr
    clear ho hbr hll
    by_cases hlt : j < N
    · have q1 : (j : Int) < (N : Int) := by omega
      go_wp2_with fail
      clear n0
      have hst : strV (joinL (shareL N j 0 (L.take j))) = .string { data := #[] } := by rw [shareL_first N j hlt _ 0 (by rw [List.length_take]; omega)]; rfl
      rw [← hst]
      clear hst
      go_loopw [8, 9] (fun sv iv wx => ∃ i : Nat, sv = strV (joinL (shareL N j 0 (L.take i))) ∧ iv = .int .i64 i ∧ i % N = j ∧ i ≤ L.length + N ∧ wx = wr) (fun _ iv _ => L.length + N - (intOf iv).toNat)
      case atStart => exact ⟨j, rfl, rfl, Nat.mod_eq_of_lt hlt, by omega, rfl⟩
      case round =>
        obtain ⟨i, rfl, rfl, hm, hiL, rfl⟩ := hrel
        rename World => wr
        obtain ⟨b1, b2, b3, hmid2⟩ := HX.out _ HBr.out
        have hj1 := joinL_share N j (L.take i) 0
        have hj2 := joinL_le L i
        obtain ⟨S0, hS0⟩ : ∃ S : ByteArray, strV (joinL (shareL N j 0 (L.take i))) = .string S := ⟨_, rfl⟩
        rw [hS0]
        have z0 := strV_size hS0
        have HS0 := Lib.hid hS0
        clear hS0
        by_cases hil : i < L.length
        · obtain ⟨l, hl2⟩ : ∃ l, L[i]? = some l := ⟨L[i]'hil, List.getElem?_eq_getElem hil⟩
          obtain ⟨_, _, e, hcs⟩ := HTx2.out _ HBr.out
          cases e
          obtain ⟨gx, ox, rfl, -, hx⟩ := hcs i l hl2
          obtain ⟨S1, hS1⟩ : ∃ S : ByteArray, strV l = .string S := ⟨_, rfl⟩
          rw [hS1] at hx
          have z1 := strV_size hS1
          have hl64 := HR.out l (List.mem_of_getElem? hl2)
          obtain ⟨i2, hi2⟩ : ∃ i2, i2 = i + N := ⟨_, rfl⟩
          have b4 : (i : Int) + (N : Int) ≤ 10000 := by omega
          have b5 : (0 : Int) ≤ (i : Int) + (N : Int) := by omega
          have a1 := add_fits (S := S0) (T := S1) (by omega) (by omega)
          have a2 : (9223372036854775807 < S0.size + S1.size + 1) = False := by simp; omega
          have hfin := strV_add (strV_add HS0.out hS1) strV_end
          have htk : joinL (shareL N j 0 (L.take i2)) = joinL (shareL N j 0 (L.take i)) ++ l ++ [10] := by
            rw [hi2, shareL_next hlt hl2 hm, joinL_snoc]
            simp
          have HFin := Lib.hid hfin
          have HTk := Lib.hid htk
          have hm2 : i2 % N = j := by rw [hi2, Nat.add_mod_right]; exact hm
          have HM2 := Lib.hid hm2
          have q2 : (0 : Int) ≤ (i : Int) := by omega
          have q3 : (i : Int) < (L.length : Int) := by omega
          clear hcs hfin htk hS1 hl2 hj1 hj2 z0 z1 hm2 hmid2
          go_wp2_with fail
          refine ⟨⟨i2, ?_, by rw [hi2, Int.natCast_add], HM2.out, by omega, trivial⟩, by simp [intOf]; omega⟩
          rw [HTk.out, HFin.out]
        · have q3 : ¬ (i : Int) < (L.length : Int) := by omega
          rw [List.take_of_length_le (by omega)] at HS0
          have hout := out_any (joinL (shareL N j 0 L)) all x1 x2 x3 wr
          rw [HS0.out] at hout
          obtain ⟨T, hT⟩ : ∃ T, T = R j := ⟨_, rfl⟩
          have hT2 : T = (⟨joinL (shareL N j 0 L), all, if all then 0 else x1, if all then 0 else x2, if all then 0 else x3⟩ : Strm) := by rw [hT, HRd.out]
          rw [← hT2] at hout
          have HT := Lib.hid hT
          have HOut := Lib.hid hout
          clear hj1 hj2 z0 hout hT hT2 b1
          go_wp2_with (first | (refine wpList_load_mid rfl 59 (.tmp 42) rfl w1.heap.size 2 rfl _ _ hmid2 Tryd.underlying59 rfl (by kernel_rfl) ?_))
          refine HOut.out.mono ?_
          rintro e W3 ⟨lv, rfl, hs2, hb2⟩
          obtain ⟨_, cl, e, hcs⟩ := hs2
          subst e
          obtain ⟨gl, ol, lb, rfl, -, d0, d1, d2, d3, d4, hlb⟩ := hcs 0 _ rfl
          simp only [Nat.zero_mul, Nat.add_zero] at d0 d1 d2 d3 d4
          have hmid := range5 d0 d1 d2 d3 d4
          obtain ⟨la3, lc3, rfl, -, -⟩ := id hlb
          have HLb := Lib.hid (show ∀ o : Obj, IsBytes (wr.heap.size ≤ ·) (W3.alloc o) (.slice la3 T.bytes.length lc3) T.bytes from fun o => (hlb.below ((Below.refl _ _).alloc (Nat.le_refl _) o)).mono (fun _ _ h => by omega))
          have HO2 := Lib.hid (show ∀ o : Obj, OwnStrs W2.heap.size (W3.alloc o) (.slice ua j uc) ((List.range j).map R) from fun o => (HO.out.below hb2).below ((Below.refl _ _).alloc (Nat.le_refl _) o))
          have HLt := Lib.hid HO.out.lt
          have HB3 := Lib.hid (show ∀ o : Obj, Below W2.heap.size W2 (W3.alloc o) from fun o => (HBr.out.trans (hb2.mono HBr.out.size)).alloc (Nat.le_trans HBr.out.size hb2.size) o)
          have HLen := Lib.hid (show ((List.range j).map R).length ≤ 1000000 by simp; omega)
          have hsz2 := hb2.size
          have hszr := HBr.out.size
          clear hb2 hcs hlb d0 d1 d2 d3 d4 b2 b3 hmid2
          simp only [List.length_cons, List.length_nil, Nat.zero_add]
          go_wp2_with (first | (refine wpList_load_mid rfl 61 (.tmp 47) rfl gl ol rfl _ _ hmid Tryd.underlying61 rfl (by kernel_rfl) ?_) | (at_builtin; refine wpList_append_strm1 rfl (.tmp 45) (.tmp 49) rfl (base := W2.heap.size) (base2 := wr.heap.size) (v := .slice ua j uc) (L := (List.range j).map R) (T, .slice la3 T.bytes.length lc3) W3.heap.size rfl (HO2.out _) rfl (heap_alloc_last W3 _) (HLb.out _) HLen.out hszr (by simp; omega) (fun k e => (HLt.out k e).2) ?_; intro v' w' ho' hg'; have HO3 := Lib.hid ho'; have HG3 := Lib.hid hg'; clear ho' hg'))
          have hb3 : Below W2.heap.size W2 w' := (HB3.out _).grown HG3.out (HB3.out _).size (fun k e => (HLt.out k e).1)
          have HB4 := Lib.hid hb3
          have HO4 := Lib.hid (show OwnStrs W2.heap.size w' v' ((List.range (j + 1)).map R) by rw [List.range_succ, List.map_append, List.map_singleton, ← HT.out]; exact HO3.out)
          clear hb3
          go_roundw
          case rel => exact ⟨j + 1, _, rfl, by go_num, by omega, HO4.out, HB4.out⟩
          case measure => simp [intOf]; omega
    · obtain rfl : j = N := by omega
      have q1 : ¬ (j : Int) < (j : Int) := by omega
      have hsz := (HB2.out _ (Below.refl _ _)).size
      have HBw := Lib.hid (HB2.out _ HBr.out)
      have HSt := Lib.hid (HO.out.is.mono (q := (w.heap.size ≤ ·)) (fun _ _ h => by omega))
      go_wp2_with fail
      go_ret
      exact ⟨_, rfl, HSt.out, HBw.out⟩

/-! What split comes to is what the document says. -/
theorem split_outs0 (N : Nat) (A B : List UInt8) (i : Strm) (j : Nat) : (splitFin N A B i).outs j = joinL (shareL (outN N) j 0 (readL i.bytes i.ended (i.code, i.stage, i.id)).1) := by
  obtain ⟨f1, -, -⟩ := run_final (splitT (outN N)) (fun _ _ => rfl) 0 i.bytes i.ended (i.code, i.stage, i.id)
  show putOuts (fun _ => []) (finalB (splitT (outN N)) ⟨true, false, [], 0⟩ i.bytes i.ended).2.1 j = _
  rw [f1, putOuts_split]
  simp
theorem shareL_over {M j : Nat} (hM : 1 ≤ M) (h : M ≤ j) : ∀ (L : Lines) (u : Nat), shareL M j u L = []
  | [], _ => rfl
  | l :: r, u => by
    have := Nat.mod_lt u (show 0 < M by omega)
    rw [shareL, if_neg (by omega)]
    exact shareL_over hM h r (u + 1)
theorem split_case (N : Nat) (A B : List UInt8) (i : Strm) (g : GotL) (h1 : g.outs = (splitFin N A B i).outs) (h2 : g.need = (splitFin N A B i).need) (h3 : g.err = (splitFin N A B i).err) :
    (splitWant N A B i).length ≤ 4 ∧ (∀ (j : Nat) t, (splitWant N A B i)[j]? = some t → g.outs j = t.bytes) ∧ (∀ j, (splitWant N A B i).length ≤ j → g.outs j = []) ∧ (∀ t ∈ splitWant N A B i, SameCase g [i] t) ∧ True := by
  have hlen : (splitWant N A B i).length = outN N := by simp [splitWant]
  have hN := outN_le N
  refine ⟨by omega, fun j t hj => ?_, fun j hj => ?_, fun t ht => ?_, trivial⟩
  · have hlt := (List.getElem?_eq_some_iff.1 hj).1
    unfold splitWant at hj
    rw [List.getElem?_map, List.getElem?_range (by omega)] at hj
    cases hj
    rw [h1, split_outs0]
    rfl
  · rw [h1, split_outs0, shareL_over hN.1 (by omega)]
    rfl
  · obtain ⟨j, -, rfl⟩ := List.mem_map.1 ht
    obtain ⟨-, f2, f3⟩ := run_final (splitT (outN N)) (fun _ _ => rfl) 0 i.bytes i.ended (i.code, i.stage, i.id)
    have hn : (splitFin N A B i).need = needOf (finalB (splitT (outN N)) ⟨true, false, [], 0⟩ i.bytes i.ended).1 := rfl
    have he : (splitFin N A B i).err = (finalB (splitT (outN N)) ⟨true, false, [], 0⟩ i.bytes i.ended).2.2 := rfl
    unfold SameCase splitOne
    simp only
    by_cases hc : (readL i.bytes i.ended (i.code, i.stage, i.id)).2.1 = true
    · obtain ⟨q1, q2⟩ := f2 hc
      refine .inl ⟨hc, ?_, by rw [h3, he, q2]⟩
      rw [h2, hn, needOf, q1]
      rfl
    · have hb : (readL i.bytes i.ended (i.code, i.stage, i.id)).2.1 = false := by simpa using hc
      rw [hb]
      rcases f3 hc with ⟨q1, q2, q3⟩ | ⟨q1, q2, q3⟩
      · refine .inr (.inl ⟨rfl, ?_, ?_, ?_⟩)
        · rw [h2, hn, needOf, q2]; rfl
        · rw [h3, he, q3]; decide
        · rw [h3, he, q3, q1]; rfl
      · refine .inr (.inr ⟨rfl, by rw [h3, he, q3], 0, i, ?_, rfl, ?_, ?_, ?_⟩)
        · rw [h2, hn, needOf, q2]; rfl
        · rw [q1]; rfl
        · rw [q1]; rfl
        · rw [q1]; rfl

end Go.Proofs.YtbblkgknnolkmaaDoor
