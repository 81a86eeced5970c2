/- The document's denotation of match; what match comes to is just that. -/
import Derived.Test.YtoppjlifaafjiaaDoorDenote
import Derived.Test.YtoppjlifaafjiaaDoorMatchFace
import Derived.Test.YtoppjlifaafjiaaDoorMatchIn
import Derived.Test.YtoppjlifaafjiaaDoorRA
import Derived.Outline
import Derived.Deep.RegionWith
namespace Go.Proofs.YtoppjlifaafjiaaDoor
open Go.RowKit

/-- The lines that are told. -/
def tellsL (A : List UInt8) (hv : Bool) (L : Lines) : Lines := L.filter fun l => hasB l A == hv
theorem tellsL_take {A : List UInt8} {hv : Bool} {L : Lines} {k : Nat} {l : List UInt8} (h : L[k]? = some l) : tellsL A hv (L.take (k + 1)) = if hasB l A = hv then tellsL A hv (L.take k) ++ [l] else tellsL A hv (L.take k) := by
  unfold tellsL
  rw [take_snoc h, List.filter_append]
  by_cases hc : hasB l A = hv <;> simp [hc]
theorem joinL_tells (A : List UInt8) (hv : Bool) (L : Lines) : (joinL (tellsL A hv L)).length ≤ (joinL L).length := by
  induction L with
  | nil => exact Nat.le_refl _
  | cons l L ih =>
    unfold tellsL at ih ⊢
    rw [List.filter_cons]
    simp only [joinL, List.flatMap_cons, List.length_append] at ih ⊢
    split
    · simp only [List.flatMap_cons, List.length_append]
      omega
    · omega
def matchWant (N : Nat) (A _ : List UInt8) (i : Strm) : Strm :=
  let r := readL i.bytes i.ended (i.code, i.stage, i.id)
  ⟨joinL (tellsL A (decide (N = 0)) r.1), r.2.1, if r.2.1 then 0 else r.2.2.1, if r.2.1 then 0 else r.2.2.2.1, if r.2.1 then 0 else r.2.2.2.2⟩

set_option maxRecDepth 100000 in
set_option maxHeartbeats 8000000 in
theorem matchMeans_any {p : Nat → Prop} (k : Int) (N : Nat) (va vb : Value) (A B : List UInt8) (iv : Value) (i : Strm) (w : World) (hA : Pm.IsBytes w va A) (_ : Pm.IsBytes w vb B) (hI : IsStrms p w iv [i]) (hN : matchOk N A B) (hl : i.bytes.length ≤ 4000) :
    Calls Tryd.prog 19 #[Pm.parV k N va vb, iv] w (OutEnd w (matchWant N A B i)) := by
  have hb0 : Below w.heap.size w (w.alloc (.cells #[.int .i64 k, .int .i64 N, va, vb] 24)) := (Below.refl _ _).alloc (Nat.le_refl _) _
  obtain ⟨_, _, e, hcs⟩ := hI.below hb0
  subst e
  obtain ⟨gb, off, bv, rfl, -, c0, c1, c2, c3, c4, hbytes⟩ := hcs 0 i rfl
  simp only [Nat.zero_mul, Nat.add_zero] at c0 c1 c2 c3 c4
  have hlines := lines_any bv i.bytes i.ended i.code i.stage i.id (w.alloc (.cells #[.int .i64 k, .int .i64 N, va, vb] 24)) hbytes (by omega)
  obtain ⟨hr64, hrl⟩ := readL_lines i.bytes i.ended (i.code, i.stage, i.id)
  obtain ⟨L, all, x1, x2, x3, hr⟩ : ∃ L all x1 x2 x3, readL i.bytes i.ended (i.code, i.stage, i.id) = (L, all, x1, x2, x3) := ⟨_, _, _, _, _, rfl⟩
  have hwant : matchWant N A B i = ⟨joinL (tellsL A (decide (N = 0)) L), all, if all then 0 else x1, if all then 0 else x2, if all then 0 else x3⟩ := by
    unfold matchWant
    rw [hr]
  obtain ⟨T, hT⟩ : ∃ T, T = matchWant N A B i := ⟨_, rfl⟩
  rw [← hT]
  rw [hwant] at hT
  have HT := Lib.hid hT
  rw [hr] at hr64 hrl
  unfold ReadEnd at hlines
  rw [hr] at hlines
  simp only [readV] at hr64 hrl hlines
  have hjl := joinL_len hr64
  have hmid : (w.alloc (.cells #[.int .i64 k, .int .i64 N, va, vb] 24)).rangeAt gb off [bv, .bool i.ended, .int .i64 i.code, .int .i64 i.stage, .int .i64 i.id] := fun j v hv => by
    rcases j with _ | _ | _ | _ | _ | j
    · cases hv; exact c0
    · cases hv; exact c1
    · cases hv; exact c2
    · cases hv; exact c3
    · cases hv; exact c4
    · simp at hv
  have HL := Lib.hid hlines
  have HB0 := Lib.hid hb0
  have HR := Lib.hid hr64
  obtain ⟨ab, cb, rfl, -, -⟩ := hbytes
  have HA := Lib.hid (show ∀ W, Below w.heap.size w W → Pm.IsBytes W va A from fun W hb => hA.below hb)
  obtain ⟨hN1, -, hA16⟩ := hN
  clear hlines hb0 hwant hr hr64 hcs hI hT hA
  unfold Pm.parV
  simp only [List.length_cons, List.length_nil, Nat.zero_add]
  go_enter Tryd.func19, Tryd.ntmps19
  go_wp2_with (first | (refine wpList_load_mid rfl 61 (.tmp 9) rfl gb off rfl _ _ hmid Tryd.underlying61 rfl (by kernel_rfl) ?_))
  refine HL.out.mono ?_
  rintro e w1 ⟨lv, rfl, hown, hb1⟩
  obtain ⟨la, lc, rfl⟩ := Pm.owns_slice hown
  have hTx := isTexts_of_owns hown
  have hp1 : w1.cell? ⟨w.heap.size, 1, none⟩ = some (.int .i64 N) := Pm.Below.cell hb1 (by simp)
  have hp2 : w1.cell? ⟨w.heap.size, 2, none⟩ = some va := Pm.Below.cell hb1 (by simp)
  have hbw : Below w.heap.size w w1 := HB0.out.trans (hb1.mono HB0.out.size)
  have hsz1 := hbw.size
  have HTx := Lib.hid hTx
  have HP1 := Lib.hid hp1
  have HP2 := Lib.hid hp2
  have HBW := Lib.hid hbw
  have HRow := Lib.hid (heap_alloc_last w1 (.cells #[.slice la L.length lc, .bool all, .int .i64 x1, .int .i64 x2, .int .i64 x3] 96))
  have HAl := Lib.hid ((Below.refl w1.heap.size w1).alloc (Nat.le_refl _) (.cells #[.slice la L.length lc, .bool all, .int .i64 x1, .int .i64 x2, .int .i64 x3] 96))
  clear hown hTx hp1 hp2 hbw hb1 hmid c0 c1 c2 c3 c4
  go_wp2_with fail
  have hrow := HRow.out
  have hal := HAl.out
  change Code.wp _ _ _ _ (w1.alloc (.cells #[.slice la L.length lc, .bool all, .int .i64 x1, .int .i64 x2, .int .i64 x3] 96))
  generalize w1.alloc (.cells #[.slice la L.length lc, .bool all, .int .i64 x1, .int .i64 x2, .int .i64 x3] 96) = W2 at hrow hal ⊢
  have cN := Pm.Below.cell hal HP1.out
  have cL : W2.cell? ⟨w1.heap.size, 0, none⟩ = some (.slice la L.length lc) := by rw [cell_of_row _ _ _ _ _ _ hrow]; rfl
  have cA : W2.cell? ⟨w1.heap.size, 1, none⟩ = some (.bool all) := by rw [cell_of_row _ _ _ _ _ _ hrow]; rfl
  have hmid2 : W2.rangeAt w1.heap.size 2 [Value.int .i64 x1, .int .i64 x2, .int .i64 x3] := fun j v hv => by
    rw [cell_of_row _ _ _ _ _ _ hrow]
    rcases j with _ | _ | _ | j
    · exact hv
    · exact hv
    · exact hv
    · simp at hv
  have cV := Pm.Below.cell hal HP2.out
  have hlt2 := (Array.getElem?_eq_some_iff.1 hrow).1
  have HX := Lib.hid (show ∀ W, Below W2.heap.size W2 W → W.cell? ⟨w.heap.size, 1, none⟩ = some (.int .i64 N) ∧ W.cell? ⟨w.heap.size, 2, none⟩ = some va ∧ W.cell? ⟨w1.heap.size, 0, none⟩ = some (.slice la L.length lc) ∧ W.cell? ⟨w1.heap.size, 1, none⟩ = some (.bool all) ∧ W.rangeAt w1.heap.size 2 [Value.int .i64 x1, Value.int .i64 x2, Value.int .i64 x3] from fun W hb => by
    have hr := (hb.block w1.heap.size hlt2).trans hrow
    refine ⟨Pm.Below.cell hb cN, Pm.Below.cell hb cV, Pm.Below.cell hb cL, Pm.Below.cell hb cA, fun j v hv => ?_⟩
    rw [cell_of_row _ _ _ _ _ _ hr]
    rcases j with _ | _ | _ | j
    · exact hv
    · exact hv
    · exact hv
    · simp at hv)
  have hb2 := HBW.out.trans (hal.mono HBW.out.size)
  have HTx2 := Lib.hid (show ∀ W, Below W2.heap.size W2 W → IsTexts ((w.alloc (.cells #[.int .i64 k, .int .i64 N, va, vb] 24)).heap.size ≤ ·) W (.slice la L.length lc) L from fun W hb => (HTx.out.below hal).below hb)
  have HB2 := Lib.hid (show ∀ W, Below W2.heap.size W2 W → Below w.heap.size w W from fun W hb => hb2.trans (hb.mono hb2.size))
  obtain ⟨SA, hSA⟩ : ∃ S : ByteArray, strV A = .string S := ⟨_, rfl⟩
  have HSA := Lib.hid hSA
  clear hrow hal HRow HAl hlt2 cN cL cA cV hmid2 hb2 HTx HBW HP1 HP2 hSA
  have hst : strV (joinL (tellsL A (decide (N = 0)) (L.take 0))) = .string { data := #[] } := rfl
  rw [← hst]
  clear hst
  have q8 : ((N : Int) == 0) = decide (N = 0) := by by_cases h : N = 0 <;> simp [h]
  have HQ8 := Lib.hid q8
  clear q8
  go_loopw [6, 7] (fun sv iv wr => ∃ j : Nat, sv = strV (joinL (tellsL A (decide (N = 0)) (L.take j))) ∧ iv = .int .i64 j ∧ j ≤ L.length ∧ Below W2.heap.size W2 wr) (fun _ i _ => L.length - (intOf i).toNat)
  case atStart => exact ⟨0, rfl, rfl, Nat.zero_le _, Below.refl _ _⟩
  case round =>
    obtain ⟨j, rfl, rfl, hjL, hbr⟩ := hrel
    have hjl2 := Nat.le_trans (joinL_tells A (decide (N = 0)) (L.take j)) (joinL_le L j)
    obtain ⟨S0, hS0⟩ : ∃ S : ByteArray, strV (joinL (tellsL A (decide (N = 0)) (L.take j))) = .string S := ⟨_, rfl⟩
    rw [hS0]
    have z0 := strV_size hS0
    have HS0 := Lib.hid hS0
    clear hS0
    by_cases hlt : j < L.length
    · obtain ⟨l, hl2⟩ : ∃ l, L[j]? = some l := ⟨L[j]'hlt, List.getElem?_eq_getElem hlt⟩
      obtain ⟨_, _, e, hcs⟩ := HTx2.out _ hbr.drew
      cases e
      obtain ⟨gx, ox, rfl, -, hx⟩ := hcs j l hl2
      obtain ⟨S1, hS1⟩ : ∃ S : ByteArray, strV l = .string S := ⟨_, rfl⟩
      rw [hS1] at hx
      have z1 := strV_size hS1
      have hl64 := HR.out l (List.mem_of_getElem? hl2)
      have a1 := add_fits (S := S0) (T := S1) (by omega) (by omega)
      have hS01 := strV_add HS0.out hS1
      have z01 := strV_size hS01
      rw [List.length_append] at z01
      have a2 := add_fits (S := S0 ++ S1) (T := { data := #[10] }) (by omega) (by decide)
      have hfin := strV_add hS01 strV_end
      rw [List.append_assoc] at hfin
      have hin := fun W => (in_any l A W (by omega) (by omega)).mono fun e w' h => (⟨h.1, h.2.symm⟩ : e = .returned (.bool (hasB l A)) ∧ w' = W)
      rw [hS1, HSA.out] at hin
      have HIn := Lib.hid hin
      have HFin := Lib.hid hfin
      have htk := tellsL_take (A := A) (hv := decide (N = 0)) hl2
      have q0 : (0 : Int) ≤ (j : Int) := by omega
      have q1 : (j : Int) < (L.length : Int) := by omega
      have HTk := Lib.hid htk
      obtain ⟨b1, b2, b3, b4, -⟩ := HX.out _ hbr
      obtain ⟨H, hH⟩ : ∃ H, H = hasB l A := ⟨_, rfl⟩
      rw [← hH] at HIn HTk
      clear hcs hfin hS01 hS1 hl2 hin htk hH
      go_wp2_with fail
      refine region_stillG (by kernel_rfl) (by kernel_rfl) ?_
      have hbd := hbr.drew
      clear b1 b2 b3 b4
      generalize wr.drew = wd at hbd hx ⊢
      have kc := Pm.conv_any (HA.out _ (HB2.out _ hbd))
      rw [show Pm.strV A = .string SA from HSA.out] at kc
      obtain ⟨b1, b2, b3, b4, -⟩ := HX.out _ hbd
      have q8 := HQ8.out
      repeat (refine stillG_step (fun K hK => ?_); go_simp; refine hK.out _ ?_; clear hK K)
      refine stillG_step (fun K hK => ?_)
      go_simp
      refine ⟨_, HIn.out _, hK.out _ ?_⟩
      clear hK K
      repeat (refine stillG_step (fun K hK => ?_); go_simp; refine hK.out _ ?_; clear hK K)
      refine stillG_nil ?_
      by_cases hq : H = decide (N = 0)
      · have q9 : (H == decide (N = 0)) = true := by simp [hq]
        have htk2 := HTk.out
        rw [if_pos hq] at htk2
        have HTk2 := Lib.hid htk2
        clear htk2 hq kc q8
        rw [q9]
        go_wp2_with fail
        refine ⟨⟨j + 1, ?_, by go_num, by omega, hbd⟩, by simp [intOf]; omega⟩
        rw [HTk2.out, joinL_snoc, HFin.out]
      · have q9 : (H == decide (N = 0)) = false := by simp [hq]
        have htk2 := HTk.out
        rw [if_neg hq] at htk2
        have HTk2 := Lib.hid htk2
        clear htk2 hq kc q8
        rw [q9]
        go_wp2_with fail
        refine ⟨⟨j + 1, ?_, by go_num, by omega, hbd⟩, by simp [intOf]; omega⟩
        rw [HTk2.out, HS0.out]
    · have hout := fun b => out_any (joinL (tellsL A (decide (N = 0)) (L.take j))) b x1 x2 x3 wr
      rw [HS0.out] at hout
      have HOut := Lib.hid hout
      obtain rfl : j = L.length := by omega
      have q1 : ¬ (L.length : Int) < (L.length : Int) := by omega
      obtain ⟨b1, b2, b3, b4, hmid2⟩ := HX.out _ hbr
      have HBr := Lib.hid hbr
      clear hout hlt hbr b1 b2
      cases all with
      | true =>
        have hT2 : T = ⟨joinL (tellsL A (decide (N = 0)) (L.take L.length)), true, 0, 0, 0⟩ := by
          rw [HT.out, List.take_length]
          simp
        have HT2 := Lib.hid hT2
        clear hT2
        go_wp2_with (first | (refine wpList_load_mid rfl 59 _ rfl w1.heap.size 2 rfl _ _ hmid2 Tryd.underlying59 rfl (by kernel_rfl) ?_))
        refine (HOut.out true).mono ?_
        rintro e w5 h5
        have h6 : OutEnd wr T e w5 := by rw [HT2.out]; exact h5
        obtain ⟨v, rfl, hs, hb⟩ := h6.lower (HB2.out _ HBr.out)
        have HS := Lib.hid hs
        have HBB := Lib.hid hb
        clear hs hb h5 h6
        go_wp2_with fail
        go_ret
        exact ⟨v, rfl, HS.out, HBB.out⟩
      | false =>
        have hT2 : T = ⟨joinL (tellsL A (decide (N = 0)) (L.take L.length)), false, x1, x2, x3⟩ := by
          rw [HT.out, List.take_length]
          simp
        have HT2 := Lib.hid hT2
        clear hT2
        go_wp2_with (first | (refine wpList_load_mid rfl 59 _ rfl w1.heap.size 2 rfl _ _ hmid2 Tryd.underlying59 rfl (by kernel_rfl) ?_))
        refine (HOut.out false).mono ?_
        rintro e w5 h5
        have h6 : OutEnd wr T e w5 := by rw [HT2.out]; exact h5
        obtain ⟨v, rfl, hs, hb⟩ := h6.lower (HB2.out _ HBr.out)
        have HS := Lib.hid hs
        have HBB := Lib.hid hb
        clear hs hb h5 h6
        go_wp2_with fail
        go_ret
        exact ⟨v, rfl, HS.out, HBB.out⟩

/-! What match comes to is what the document says. -/
theorem runT_match (A : List UInt8) (hv : Bool) (u : Unit) : ∀ L : Lines, (runT (matchT A hv) u L).2 = (tellsL A hv L).map fun l => (0, l ++ [10])
  | [] => rfl
  | l :: r => by
    rw [runT]
    simp only
    have ih := runT_match A hv u r
    show (if hasB l A = hv then [(0, l ++ [10])] else []) ++ (runT (matchT A hv) u r).2 = _
    rw [ih]
    unfold tellsL
    rw [List.filter_cons]
    by_cases hc : hasB l A = hv <;> simp [hc]
theorem match_case (N : Nat) (A B : List UInt8) (i : Strm) (g : GotL) (h1 : g.outs = (matchFin N A B i).outs) (h2 : g.need = (matchFin N A B i).need) (h3 : g.err = (matchFin N A B i).err) :
    g.outs 0 = (matchWant N A B i).bytes ∧ g.outs 1 = [] ∧ g.outs 2 = [] ∧ g.outs 3 = [] ∧ SameCase g [i] (matchWant N A B i) := by
  obtain ⟨f1, f2, f3⟩ := run_final (matchT A (decide (N = 0))) (fun _ _ => rfl) () i.bytes i.ended (i.code, i.stage, i.id)
  have ho : (matchFin N A B i).outs = putOuts (fun _ => []) ((tellsL A (decide (N = 0)) (readL i.bytes i.ended (i.code, i.stage, i.id)).1).map fun l => (0, l ++ [10])) := by
    show putOuts (fun _ => []) (finalB (matchT A (decide (N = 0))) matchS i.bytes i.ended).2.1 = _
    rw [← runT_match, ← f1]
    rfl
  obtain ⟨p0, p1⟩ := putOuts_lines (tellsL A (decide (N = 0)) (readL i.bytes i.ended (i.code, i.stage, i.id)).1) (fun _ => [])
  rw [← ho] at p0 p1
  have hn : (matchFin N A B i).need = needOf (finalB (matchT A (decide (N = 0))) ⟨true, false, [], ()⟩ i.bytes i.ended).1 := rfl
  have he : (matchFin N A B i).err = (finalB (matchT A (decide (N = 0))) ⟨true, false, [], ()⟩ i.bytes i.ended).2.2 := rfl
  refine ⟨by rw [h1, p0]; rfl, by rw [h1]; exact p1 1 (by decide), by rw [h1]; exact p1 2 (by decide), by rw [h1]; exact p1 3 (by decide), ?_⟩
  unfold SameCase matchWant
  simp only
  by_cases hc : (readL i.bytes i.ended (i.code, i.stage, i.id)).2.1 = true
  · obtain ⟨q1, q2⟩ := f2 hc
    refine .inl ⟨hc, ?_, by rw [h3, he, q2]⟩
    rw [h2, hn, needOf, q1]
    rfl
  · have hb : (readL i.bytes i.ended (i.code, i.stage, i.id)).2.1 = false := by simpa using hc
    rw [hb]
    rcases f3 hc with ⟨q1, q2, q3⟩ | ⟨q1, q2, q3⟩
    · refine .inr (.inl ⟨rfl, ?_, ?_, ?_⟩)
      · rw [h2, hn, needOf, q2]; rfl
      · rw [h3, he, q3]; decide
      · rw [h3, he, q3, q1]; rfl
    · refine .inr (.inr ⟨rfl, by rw [h3, he, q3], 0, i, ?_, rfl, ?_, ?_, ?_⟩)
      · rw [h2, hn, needOf, q2]; rfl
      · rw [q1]; rfl
      · rw [q1]; rfl
      · rw [q1]; rfl

end Go.Proofs.YtoppjlifaafjiaaDoor
