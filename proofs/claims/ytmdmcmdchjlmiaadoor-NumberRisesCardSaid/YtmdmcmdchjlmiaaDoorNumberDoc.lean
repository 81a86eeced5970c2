/- The document's denotation of number. -/
import Derived.Test.YtmdmcmdchjlmiaaDoorDenote
import Derived.Test.YtmdmcmdchjlmiaaDoorDigits
import Derived.Test.YtmdmcmdchjlmiaaDoorNumberPlain
import Derived.Outline
import Derived.Deep.RegionWith
import Derived.Deep.RegionHeld3
namespace Go.Proofs.YtmdmcmdchjlmiaaDoor
open Go.RowKit

def numberWant (N : Nat) (_ _ : List UInt8) (i : Strm) : Strm :=
  let r := readL i.bytes i.ended (i.code, i.stage, i.id)
  ⟨joinL (numsL (min N 1000000000) r.1), r.2.1, if r.2.1 then 0 else r.2.2.1, if r.2.1 then 0 else r.2.2.2.1, if r.2.1 then 0 else r.2.2.2.2⟩

set_option maxRecDepth 100000 in
set_option maxHeartbeats 8000000 in
theorem numberMeans_any {p : Nat → Prop} (k : Int) (N : Nat) (va vb : Value) (A B : List UInt8) (iv : Value) (i : Strm) (w : World) (hA : Pm.IsBytes w va A) (_ : Pm.IsBytes w vb B) (hI : IsStrms p w iv [i]) (hN : N ≤ 1000000000) (hl : i.bytes.length ≤ 4000) :
    Calls Tryd.prog 19 #[Pm.parV k N va vb, iv] w (OutEnd w (numberWant N A B i)) := by
  have hb0 : Below w.heap.size w (w.alloc (.cells #[.int .i64 k, .int .i64 N, va, vb] 24)) := (Below.refl _ _).alloc (Nat.le_refl _) _
  obtain ⟨_, _, e, hcs⟩ := hI.below hb0
  subst e
  obtain ⟨gb, off, bv, rfl, -, c0, c1, c2, c3, c4, hbytes⟩ := hcs 0 i rfl
  simp only [Nat.zero_mul, Nat.add_zero] at c0 c1 c2 c3 c4
  have hlines := lines_any bv i.bytes i.ended i.code i.stage i.id (w.alloc (.cells #[.int .i64 k, .int .i64 N, va, vb] 24)) hbytes (by omega)
  obtain ⟨hr64, hrl⟩ := readL_lines i.bytes i.ended (i.code, i.stage, i.id)
  obtain ⟨L, all, x1, x2, x3, hr⟩ : ∃ L all x1 x2 x3, readL i.bytes i.ended (i.code, i.stage, i.id) = (L, all, x1, x2, x3) := ⟨_, _, _, _, _, rfl⟩
  have hwant : numberWant N A B i = ⟨joinL (numsL N L), all, if all then 0 else x1, if all then 0 else x2, if all then 0 else x3⟩ := by
    unfold numberWant
    rw [hr, Nat.min_eq_left hN]
  obtain ⟨T, hT⟩ : ∃ T, T = numberWant N A B i := ⟨_, rfl⟩
  rw [← hT]
  rw [hwant] at hT
  have HT := Lib.hid hT
  rw [hr] at hr64 hrl
  unfold ReadEnd at hlines
  rw [hr] at hlines
  simp only [readV] at hr64 hrl hlines
  have hjl := joinL_len hr64
  have hmid : (w.alloc (.cells #[.int .i64 k, .int .i64 N, va, vb] 24)).rangeAt gb off [bv, .bool i.ended, .int .i64 i.code, .int .i64 i.stage, .int .i64 i.id] := fun j v hv => by
    rcases j with _ | _ | _ | _ | _ | j
    · cases hv; exact c0
    · cases hv; exact c1
    · cases hv; exact c2
    · cases hv; exact c3
    · cases hv; exact c4
    · simp at hv
  have HL := Lib.hid hlines
  have HB0 := Lib.hid hb0
  have HR := Lib.hid hr64
  obtain ⟨ab, cb, rfl, -, -⟩ := hbytes
  have HA := Lib.hid (show ∀ W, Below w.heap.size w W → Pm.IsBytes W va A from fun W hb => hA.below hb)
  clear hlines hb0 hwant hr hr64 hcs hI hT hA
  unfold Pm.parV
  simp only [List.length_cons, List.length_nil, Nat.zero_add]
  go_enter Tryd.func19, Tryd.ntmps19
  go_wp2_with (first | (refine wpList_load_mid rfl 61 (.tmp 9) rfl gb off rfl _ _ hmid Tryd.underlying61 rfl (by kernel_rfl) ?_))
  refine HL.out.mono ?_
  rintro e w1 ⟨lv, rfl, hown, hb1⟩
  obtain ⟨la, lc, rfl⟩ := Pm.owns_slice hown
  have hTx := isTexts_of_owns hown
  have hp1 : w1.cell? ⟨w.heap.size, 1, none⟩ = some (.int .i64 N) := Pm.Below.cell hb1 (by simp)
  have hp2 : w1.cell? ⟨w.heap.size, 2, none⟩ = some va := Pm.Below.cell hb1 (by simp)
  have hp0 : w1.cell? ⟨w.heap.size, 0, none⟩ = some (.int .i64 k) := Pm.Below.cell hb1 (by simp)
  have hp3 : w1.cell? ⟨w.heap.size, 3, none⟩ = some vb := Pm.Below.cell hb1 (by simp)
  have hbw : Below w.heap.size w w1 := HB0.out.trans (hb1.mono HB0.out.size)
  have hsz1 := hbw.size
  have HTx := Lib.hid hTx
  have HP1 := Lib.hid hp1
  have HP2 := Lib.hid hp2
  have HP0 := Lib.hid hp0
  have HP3 := Lib.hid hp3
  have HBW := Lib.hid hbw
  have HRow := Lib.hid (heap_alloc_last w1 (.cells #[.slice la L.length lc, .bool all, .int .i64 x1, .int .i64 x2, .int .i64 x3] 96))
  have HAl := Lib.hid ((Below.refl w1.heap.size w1).alloc (Nat.le_refl _) (.cells #[.slice la L.length lc, .bool all, .int .i64 x1, .int .i64 x2, .int .i64 x3] 96))
  clear hown hTx hp1 hp2 hp0 hp3 hbw hb1 hmid c0 c1 c2 c3 c4
  go_wp2_with fail
  have hrow := HRow.out
  have hal := HAl.out
  change Code.wp _ _ _ _ (w1.alloc (.cells #[.slice la L.length lc, .bool all, .int .i64 x1, .int .i64 x2, .int .i64 x3] 96))
  generalize w1.alloc (.cells #[.slice la L.length lc, .bool all, .int .i64 x1, .int .i64 x2, .int .i64 x3] 96) = W2 at hrow hal ⊢
  have cN := Pm.Below.cell hal HP1.out
  have cL : W2.cell? ⟨w1.heap.size, 0, none⟩ = some (.slice la L.length lc) := by rw [cell_of_row _ _ _ _ _ _ hrow]; rfl
  have cA : W2.cell? ⟨w1.heap.size, 1, none⟩ = some (.bool all) := by rw [cell_of_row _ _ _ _ _ _ hrow]; rfl
  have hmid2 : W2.rangeAt w1.heap.size 2 [Value.int .i64 x1, .int .i64 x2, .int .i64 x3] := fun j v hv => by
    rw [cell_of_row _ _ _ _ _ _ hrow]
    rcases j with _ | _ | _ | j
    · exact hv
    · exact hv
    · exact hv
    · simp at hv
  have cV := Pm.Below.cell hal HP2.out
  have cK := Pm.Below.cell hal HP0.out
  have cB := Pm.Below.cell hal HP3.out
  have HY := Lib.hid (show ∀ W, Below W2.heap.size W2 W → W.cell? ⟨w.heap.size, 0, none⟩ = some (.int .i64 k) ∧ W.cell? ⟨w.heap.size, 3, none⟩ = some vb from fun W hb => ⟨Pm.Below.cell hb cK, Pm.Below.cell hb cB⟩)
  have hlt2 := (Array.getElem?_eq_some_iff.1 hrow).1
  have HX := Lib.hid (show ∀ W, Below W2.heap.size W2 W → W.cell? ⟨w.heap.size, 1, none⟩ = some (.int .i64 N) ∧ W.cell? ⟨w.heap.size, 2, none⟩ = some va ∧ W.cell? ⟨w1.heap.size, 0, none⟩ = some (.slice la L.length lc) ∧ W.cell? ⟨w1.heap.size, 1, none⟩ = some (.bool all) ∧ W.rangeAt w1.heap.size 2 [Value.int .i64 x1, Value.int .i64 x2, Value.int .i64 x3] from fun W hb => by
    have hr := (hb.block w1.heap.size hlt2).trans hrow
    refine ⟨Pm.Below.cell hb cN, Pm.Below.cell hb cV, Pm.Below.cell hb cL, Pm.Below.cell hb cA, fun j v hv => ?_⟩
    rw [cell_of_row _ _ _ _ _ _ hr]
    rcases j with _ | _ | _ | j
    · exact hv
    · exact hv
    · exact hv
    · simp at hv)
  have hb2 := HBW.out.trans (hal.mono HBW.out.size)
  have HTx2 := Lib.hid (show ∀ W, Below W2.heap.size W2 W → IsTexts ((w.alloc (.cells #[.int .i64 k, .int .i64 N, va, vb] 24)).heap.size ≤ ·) W (.slice la L.length lc) L from fun W hb => (HTx.out.below hal).below hb)
  have HB2 := Lib.hid (show ∀ W, Below W2.heap.size W2 W → Below w.heap.size w W from fun W hb => hb2.trans (hb.mono hb2.size))
  clear hrow hal HRow HAl hlt2 cN cL cA cV hmid2 hb2 HTx HBW HP1 HP2 HP0 HP3 cK cB
  have hst : strV (joinL (numsL N (L.take 0))) = .string { data := #[] } := rfl
  rw [← hst]
  clear hst
  go_loopw [6, 7] (fun sv iv wr => ∃ j : Nat, sv = strV (joinL (numsL N (L.take j))) ∧ iv = .int .i64 j ∧ j ≤ L.length ∧ Below W2.heap.size W2 wr) (fun _ i _ => L.length - (intOf i).toNat)
  case atStart => exact ⟨0, rfl, rfl, Nat.zero_le _, Below.refl _ _⟩
  case round =>
    obtain ⟨j, rfl, rfl, hjL, hbr⟩ := hrel
    have hjl2 := joinL_nums (L.take j) N (by rw [List.length_take]; omega)
    have hjl3 := joinL_le L j
    rw [List.length_take, Nat.min_eq_left hjL] at hjl2
    obtain ⟨S0, hS0⟩ : ∃ S : ByteArray, strV (joinL (numsL N (L.take j))) = .string S := ⟨_, rfl⟩
    rw [hS0]
    have z0 := strV_size hS0
    have HS0 := Lib.hid hS0
    clear hS0
    by_cases hlt : j < L.length
    · obtain ⟨l, hl2⟩ : ∃ l, L[j]? = some l := ⟨L[j]'hlt, List.getElem?_eq_getElem hlt⟩
      obtain ⟨_, _, e, hcs⟩ := HTx2.out _ hbr.drew
      cases e
      obtain ⟨gx, ox, rfl, -, hx⟩ := hcs j l hl2
      obtain ⟨S1, hS1⟩ : ∃ S : ByteArray, strV l = .string S := ⟨_, rfl⟩
      rw [hS1] at hx
      have z1 := strV_size hS1
      have hl64 := HR.out l (List.mem_of_getElem? hl2)
      obtain ⟨D, hD⟩ : ∃ D, D = N + j := ⟨_, rfl⟩
      have hsum : (N : Int) + (j : Int) = (D : Int) := by omega
      have hwr : IntKind.i64.wrap (D : Int) = D := by rw [IntKind.wrap_i64]; omega
      have hdl := num_digits (m := D) (by omega)
      have hdig := fun (W : World) => digits_any D W (by omega)
      obtain ⟨dn, hdn⟩ : ∃ dn, dn = Lib.decDigits D := ⟨_, rfl⟩
      rw [← hdn] at hdl hdig
      obtain ⟨Sd, hSd⟩ : ∃ S : ByteArray, strV dn = .string S := ⟨_, rfl⟩
      have zd := strV_size hSd
      have a1 := add_fits (S := S0) (T := Sd) (by omega) (by omega)
      have a2 : (9223372036854775807 < S0.size + Sd.size + 1) = False := by simp; omega
      have a3 : (9223372036854775807 < S0.size + Sd.size + 1 + S1.size) = False := by simp; omega
      have a4 : (9223372036854775807 < S0.size + Sd.size + 1 + S1.size + 1) = False := by simp; omega
      have hfin := strV_add (strV_add (strV_add (strV_add HS0.out hSd) (show strV [32] = .string { data := #[32] } from rfl)) hS1) strV_end
      have HFin := Lib.hid hfin
      rw [hSd] at hdig
      have HDig := Lib.hid hdig
      have htk : joinL (numsL N (L.take (j + 1))) = joinL (numsL N (L.take j)) ++ dn ++ [32] ++ l ++ [10] := by
        rw [numsL_take hl2, joinL_snoc, ← hD, numL, ← hdn]
        simp
      have HTk := Lib.hid htk
      have q0 : (0 : Int) ≤ (j : Int) := by omega
      have q1 : (j : Int) < (L.length : Int) := by omega
      have hcell : ∀ W, Below W2.heap.size W2 W → W.cell? ⟨gx, ox + j, none⟩ = some (.string S1) := fun W hb => by
        obtain ⟨_, _, e, hcs⟩ := HTx2.out _ hb
        cases e
        obtain ⟨gx2, ox2, e2, -, hx2⟩ := hcs j l hl2
        cases e2
        rw [hx2, hS1]
      have HZ := Lib.hid (show ∀ W, Below W2.heap.size W2 W → W.cell? ⟨w.heap.size, 1, none⟩ = some (.int .i64 N) ∧ W.cell? ⟨w1.heap.size, 0, none⟩ = some (.slice (some ⟨gx, ox, none⟩) L.length lc) ∧ W.cell? ⟨gx, ox + j, none⟩ = some (.string S1) from fun W hb => by
        obtain ⟨b1, b2, b3, b4, -⟩ := HX.out _ hb
        exact ⟨b1, b3, hcell W hb⟩)
      obtain ⟨b1, b2, b3, b4, -⟩ := HX.out _ hbr
      clear hcs hfin hS1 hl2 htk hSd hdn hdig hdl hD hcell hx z0 z1 zd hjl2 hjl3 hl64
      go_upto_region 6 with fail
      have hw := hbr.drew
      clear b1 b2 b3 b4
      go_region_held3 (fun W => W.cell? ⟨w.heap.size, 1, none⟩ = some (.int .i64 N) ∧ W.cell? ⟨w1.heap.size, 0, none⟩ = some (.slice (some ⟨gx, ox, none⟩) L.length lc) ∧ W.cell? ⟨gx, ox + j, none⟩ = some (.string S1))
        (exact HZ.out _ hw)
        (first | (go_at_call 34; refine (HDig.out _).mono ?_; rintro e w6 ⟨rfl, hb1⟩; have hw := hw.trans (hb1.mono hw.size); clear hb1))
      all_goals
        go_wp2_with fail
        refine ⟨⟨j + 1, ?_, by go_num, by omega, hw⟩, by simp [intOf]; omega⟩
        rw [HTk.out, HFin.out]
    · have hout := fun b => out_any (joinL (numsL N (L.take j))) b x1 x2 x3 wr
      rw [HS0.out] at hout
      have HOut := Lib.hid hout
      obtain rfl : j = L.length := by omega
      have q1 : ¬ (L.length : Int) < (L.length : Int) := by omega
      obtain ⟨b1, b2, b3, b4, hmid2⟩ := HX.out _ hbr
      have HBr := Lib.hid hbr
      clear hout hlt hbr b1 b2
      cases all with
      | true =>
        have hT2 : T = ⟨joinL (numsL N (L.take L.length)), true, 0, 0, 0⟩ := by
          rw [HT.out, List.take_length]
          simp
        have HT2 := Lib.hid hT2
        clear hT2
        go_wp2_with (first | (refine wpList_load_mid rfl 59 _ rfl w1.heap.size 2 rfl _ _ hmid2 Tryd.underlying59 rfl (by kernel_rfl) ?_))
        refine (HOut.out true).mono ?_
        rintro e w5 h5
        have h6 : OutEnd wr T e w5 := by rw [HT2.out]; exact h5
        obtain ⟨v, rfl, hs, hb⟩ := h6.lower (HB2.out _ HBr.out)
        have HS := Lib.hid hs
        have HBB := Lib.hid hb
        clear hs hb h5 h6
        go_wp2_with fail
        go_ret
        exact ⟨v, rfl, HS.out, HBB.out⟩
      | false =>
        have hT2 : T = ⟨joinL (numsL N (L.take L.length)), false, x1, x2, x3⟩ := by
          rw [HT.out, List.take_length]
          simp
        have HT2 := Lib.hid hT2
        clear hT2
        go_wp2_with (first | (refine wpList_load_mid rfl 59 _ rfl w1.heap.size 2 rfl _ _ hmid2 Tryd.underlying59 rfl (by kernel_rfl) ?_))
        refine (HOut.out false).mono ?_
        rintro e w5 h5
        have h6 : OutEnd wr T e w5 := by rw [HT2.out]; exact h5
        obtain ⟨v, rfl, hs, hb⟩ := h6.lower (HB2.out _ HBr.out)
        have HS := Lib.hid hs
        have HBB := Lib.hid hb
        clear hs hb h5 h6
        go_wp2_with fail
        go_ret
        exact ⟨v, rfl, HS.out, HBB.out⟩

end Go.Proofs.YtmdmcmdchjlmiaaDoor
