/- The document's denotation of fields; what fields comes to is just that. -/
import Derived.Test.YtgcnkagieedebaaDoorDenote
import Derived.Test.YtgcnkagieedebaaDoorFieldsFace
import Derived.Test.YtgcnkagieedebaaDoorFieldsIn
import Derived.Test.YtgcnkagieedebaaDoorRA
import Derived.Outline
import Derived.Deep.RegionWith
namespace Go.Proofs.YtgcnkagieedebaaDoor
open Go.RowKit

/-- What the lines come to. -/
def comesL (N : Nat) (A : List UInt8) (L : Lines) : Lines := L.map (lineF N A)
theorem comesL_take {N : Nat} {A : List UInt8} {L : Lines} {k : Nat} {l : List UInt8} (h : L[k]? = some l) : comesL N A (L.take (k + 1)) = comesL N A (L.take k) ++ [lineF N A l] := by
  unfold comesL
  rw [take_snoc h, List.map_append]
  rfl
theorem joinL_comes (N : Nat) (a : UInt8) (L : Lines) : (joinL (comesL N [a] L)).length ≤ (joinL L).length := by
  induction L with
  | nil => exact Nat.le_refl _
  | cons l L ih =>
    have := lineF_le N a l
    unfold comesL at ih ⊢
    simp only [joinL, List.map_cons, List.flatMap_cons, List.length_append] at ih ⊢
    omega
def fieldsWant (N : Nat) (A _ : List UInt8) (i : Strm) : Strm :=
  let r := readL i.bytes i.ended (i.code, i.stage, i.id)
  ⟨joinL (comesL (min N 65535) [A.headD 0] r.1), r.2.1, if r.2.1 then 0 else r.2.2.1, if r.2.1 then 0 else r.2.2.2.1, if r.2.1 then 0 else r.2.2.2.2⟩

set_option maxRecDepth 100000 in
set_option maxHeartbeats 8000000 in
theorem fieldsMeans_any {p : Nat → Prop} (k : Int) (N : Nat) (va vb : Value) (A B : List UInt8) (iv : Value) (i : Strm) (w : World) (hA : Pm.IsBytes w va A) (_ : Pm.IsBytes w vb B) (hI : IsStrms p w iv [i]) (hN : fieldsOk N A B) (hl : i.bytes.length ≤ 4000) :
    Calls Tryd.prog 19 #[Pm.parV k N va vb, iv] w (OutEnd w (fieldsWant N A B i)) := by
  have hb0 : Below w.heap.size w (w.alloc (.cells #[.int .i64 k, .int .i64 N, va, vb] 24)) := (Below.refl _ _).alloc (Nat.le_refl _) _
  obtain ⟨_, _, e, hcs⟩ := hI.below hb0
  subst e
  obtain ⟨gb, off, bv, rfl, -, c0, c1, c2, c3, c4, hbytes⟩ := hcs 0 i rfl
  simp only [Nat.zero_mul, Nat.add_zero] at c0 c1 c2 c3 c4
  have hlines := lines_any bv i.bytes i.ended i.code i.stage i.id (w.alloc (.cells #[.int .i64 k, .int .i64 N, va, vb] 24)) hbytes (by omega)
  obtain ⟨hr64, hrl⟩ := readL_lines i.bytes i.ended (i.code, i.stage, i.id)
  obtain ⟨L, all, x1, x2, x3, hr⟩ : ∃ L all x1 x2 x3, readL i.bytes i.ended (i.code, i.stage, i.id) = (L, all, x1, x2, x3) := ⟨_, _, _, _, _, rfl⟩
  have hwant : fieldsWant N A B i = ⟨joinL (comesL N A L), all, if all then 0 else x1, if all then 0 else x2, if all then 0 else x3⟩ := by
    unfold fieldsWant
    rw [hr, Nat.min_eq_left hN.1, headD_one hN.2]
  obtain ⟨T, hT⟩ : ∃ T, T = fieldsWant N A B i := ⟨_, rfl⟩
  rw [← hT]
  rw [hwant] at hT
  have HT := Lib.hid hT
  rw [hr] at hr64 hrl
  unfold ReadEnd at hlines
  rw [hr] at hlines
  simp only [readV] at hr64 hrl hlines
  have hjl := joinL_len hr64
  have hmid : (w.alloc (.cells #[.int .i64 k, .int .i64 N, va, vb] 24)).rangeAt gb off [bv, .bool i.ended, .int .i64 i.code, .int .i64 i.stage, .int .i64 i.id] := fun j v hv => by
    rcases j with _ | _ | _ | _ | _ | j
    · cases hv; exact c0
    · cases hv; exact c1
    · cases hv; exact c2
    · cases hv; exact c3
    · cases hv; exact c4
    · simp at hv
  have HL := Lib.hid hlines
  have HB0 := Lib.hid hb0
  have HR := Lib.hid hr64
  obtain ⟨ab, cb, rfl, -, -⟩ := hbytes
  have HA := Lib.hid (show ∀ W, Below w.heap.size w W → Pm.IsBytes W va A from fun W hb => hA.below hb)
  obtain ⟨hN1, hA1⟩ := hN
  obtain ⟨a, rfl⟩ : ∃ a, A = [a] := ⟨_, (headD_one hA1).symm⟩
  clear hlines hb0 hwant hr hr64 hcs hI hT hA
  unfold Pm.parV
  simp only [List.length_cons, List.length_nil, Nat.zero_add]
  go_enter Tryd.func19, Tryd.ntmps19
  go_wp2_with (first | (refine wpList_load_mid rfl 61 (.tmp 9) rfl gb off rfl _ _ hmid Tryd.underlying61 rfl (by kernel_rfl) ?_))
  refine HL.out.mono ?_
  rintro e w1 ⟨lv, rfl, hown, hb1⟩
  obtain ⟨la, lc, rfl⟩ := Pm.owns_slice hown
  have hTx := isTexts_of_owns hown
  have hp1 : w1.cell? ⟨w.heap.size, 1, none⟩ = some (.int .i64 N) := Pm.Below.cell hb1 (by simp)
  have hp2 : w1.cell? ⟨w.heap.size, 2, none⟩ = some va := Pm.Below.cell hb1 (by simp)
  have hp0 : w1.cell? ⟨w.heap.size, 0, none⟩ = some (.int .i64 k) := Pm.Below.cell hb1 (by simp)
  have hp3 : w1.cell? ⟨w.heap.size, 3, none⟩ = some vb := Pm.Below.cell hb1 (by simp)
  have hbw : Below w.heap.size w w1 := HB0.out.trans (hb1.mono HB0.out.size)
  have hsz1 := hbw.size
  have HTx := Lib.hid hTx
  have HP1 := Lib.hid hp1
  have HP2 := Lib.hid hp2
  have HP0 := Lib.hid hp0
  have HP3 := Lib.hid hp3
  have HBW := Lib.hid hbw
  have HRow := Lib.hid (heap_alloc_last w1 (.cells #[.slice la L.length lc, .bool all, .int .i64 x1, .int .i64 x2, .int .i64 x3] 98))
  have HAl := Lib.hid ((Below.refl w1.heap.size w1).alloc (Nat.le_refl _) (.cells #[.slice la L.length lc, .bool all, .int .i64 x1, .int .i64 x2, .int .i64 x3] 98))
  clear hown hTx hp1 hp2 hp0 hp3 hbw hb1 hmid c0 c1 c2 c3 c4
  go_wp2_with fail
  have hrow := HRow.out
  have hal := HAl.out
  change Code.wp _ _ _ _ (w1.alloc (.cells #[.slice la L.length lc, .bool all, .int .i64 x1, .int .i64 x2, .int .i64 x3] 98))
  generalize w1.alloc (.cells #[.slice la L.length lc, .bool all, .int .i64 x1, .int .i64 x2, .int .i64 x3] 98) = W2 at hrow hal ⊢
  have cN := Pm.Below.cell hal HP1.out
  have cL : W2.cell? ⟨w1.heap.size, 0, none⟩ = some (.slice la L.length lc) := by rw [cell_of_row _ _ _ _ _ _ hrow]; rfl
  have cA : W2.cell? ⟨w1.heap.size, 1, none⟩ = some (.bool all) := by rw [cell_of_row _ _ _ _ _ _ hrow]; rfl
  have hmid2 : W2.rangeAt w1.heap.size 2 [Value.int .i64 x1, .int .i64 x2, .int .i64 x3] := fun j v hv => by
    rw [cell_of_row _ _ _ _ _ _ hrow]
    rcases j with _ | _ | _ | j
    · exact hv
    · exact hv
    · exact hv
    · simp at hv
  have cV := Pm.Below.cell hal HP2.out
  have cK := Pm.Below.cell hal HP0.out
  have cB := Pm.Below.cell hal HP3.out
  have HY := Lib.hid (show ∀ W, Below W2.heap.size W2 W → W.cell? ⟨w.heap.size, 0, none⟩ = some (.int .i64 k) ∧ W.cell? ⟨w.heap.size, 3, none⟩ = some vb from fun W hb => ⟨Pm.Below.cell hb cK, Pm.Below.cell hb cB⟩)
  have hlt2 := (Array.getElem?_eq_some_iff.1 hrow).1
  have HX := Lib.hid (show ∀ W, Below W2.heap.size W2 W → W.cell? ⟨w.heap.size, 1, none⟩ = some (.int .i64 N) ∧ W.cell? ⟨w.heap.size, 2, none⟩ = some va ∧ W.cell? ⟨w1.heap.size, 0, none⟩ = some (.slice la L.length lc) ∧ W.cell? ⟨w1.heap.size, 1, none⟩ = some (.bool all) ∧ W.rangeAt w1.heap.size 2 [Value.int .i64 x1, Value.int .i64 x2, Value.int .i64 x3] from fun W hb => by
    have hr := (hb.block w1.heap.size hlt2).trans hrow
    refine ⟨Pm.Below.cell hb cN, Pm.Below.cell hb cV, Pm.Below.cell hb cL, Pm.Below.cell hb cA, fun j v hv => ?_⟩
    rw [cell_of_row _ _ _ _ _ _ hr]
    rcases j with _ | _ | _ | j
    · exact hv
    · exact hv
    · exact hv
    · simp at hv)
  have hb2 := HBW.out.trans (hal.mono HBW.out.size)
  have HTx2 := Lib.hid (show ∀ W, Below W2.heap.size W2 W → IsTexts ((w.alloc (.cells #[.int .i64 k, .int .i64 N, va, vb] 24)).heap.size ≤ ·) W (.slice la L.length lc) L from fun W hb => (HTx.out.below hal).below hb)
  have HB2 := Lib.hid (show ∀ W, Below W2.heap.size W2 W → Below w.heap.size w W from fun W hb => hb2.trans (hb.mono hb2.size))
  clear hrow hal HRow HAl hlt2 cN cL cA cV hmid2 hb2 HTx HBW HP1 HP2 HP0 HP3 cK cB
  have hst : strV (joinL (comesL N [a] (L.take 0))) = .string { data := #[] } := rfl
  rw [← hst]
  clear hst
  go_loopw [6, 7] (fun sv iv wr => ∃ j : Nat, sv = strV (joinL (comesL N [a] (L.take j))) ∧ iv = .int .i64 j ∧ j ≤ L.length ∧ Below W2.heap.size W2 wr) (fun _ i _ => L.length - (intOf i).toNat)
  case atStart => exact ⟨0, rfl, rfl, Nat.zero_le _, Below.refl _ _⟩
  case round =>
    obtain ⟨j, rfl, rfl, hjL, hbr⟩ := hrel
    have hjl2 := Nat.le_trans (joinL_comes N a (L.take j)) (joinL_le L j)
    obtain ⟨S0, hS0⟩ : ∃ S : ByteArray, strV (joinL (comesL N [a] (L.take j))) = .string S := ⟨_, rfl⟩
    rw [hS0]
    have z0 := strV_size hS0
    have HS0 := Lib.hid hS0
    clear hS0
    by_cases hlt : j < L.length
    · obtain ⟨l, hl2⟩ : ∃ l, L[j]? = some l := ⟨L[j]'hlt, List.getElem?_eq_getElem hlt⟩
      obtain ⟨_, _, e, hcs⟩ := HTx2.out _ hbr.drew
      cases e
      obtain ⟨gx, ox, rfl, -, hx⟩ := hcs j l hl2
      obtain ⟨S1, hS1⟩ : ∃ S : ByteArray, strV l = .string S := ⟨_, rfl⟩
      rw [hS1] at hx
      have z1 := strV_size hS1
      have hl64 := HR.out l (List.mem_of_getElem? hl2)
      obtain ⟨Sy, hSy⟩ : ∃ S : ByteArray, strV (lineF N [a] l) = .string S := ⟨_, rfl⟩
      have zy := strV_size hSy
      have hyl := lineF_le N a l
      have a1 := add_fits (S := S0) (T := Sy) (by omega) (by omega)
      have hS01 := strV_add HS0.out hSy
      have z01 := strV_size hS01
      rw [List.length_append] at z01
      have a2 : (9223372036854775807 < S0.size + Sy.size + 1) = False := by simp; omega
      have hfin := strV_add hS01 strV_end
      rw [List.append_assoc] at hfin
      have htk := comesL_take (N := N) (A := [a]) hl2
      have q0 : (0 : Int) ≤ (j : Int) := by omega
      have q1 : (j : Int) < (L.length : Int) := by omega
      have HTk := Lib.hid htk
      have HFin := Lib.hid hfin
      have hline := fun (W : World) (hb : Below w.heap.size w W) => lineDoc_any k N va vb a l W (HA.out W hb) hl64 hN1
      rw [hS1, hSy] at hline
      have HLine := Lib.hid hline
      have hcell : ∀ W, Below W2.heap.size W2 W → W.cell? ⟨gx, ox + j, none⟩ = some (.string S1) := fun W hb => by
        obtain ⟨_, _, e, hcs⟩ := HTx2.out _ hb
        cases e
        obtain ⟨gx2, ox2, e2, -, hx2⟩ := hcs j l hl2
        cases e2
        rw [hx2, hS1]
      have HZ := Lib.hid (show ∀ W, Below W2.heap.size W2 W → W.cell? ⟨w.heap.size, 0, none⟩ = some (.int .i64 k) ∧ W.cell? ⟨w.heap.size, 1, none⟩ = some (.int .i64 N) ∧ W.cell? ⟨w.heap.size, 2, none⟩ = some va ∧ W.cell? ⟨w.heap.size, 3, none⟩ = some vb ∧ W.cell? ⟨w1.heap.size, 0, none⟩ = some (.slice (some ⟨gx, ox, none⟩) L.length lc) ∧ W.cell? ⟨gx, ox + j, none⟩ = some (.string S1) from fun W hb => by
        obtain ⟨b1, b2, b3, b4, -⟩ := HX.out _ hb
        exact ⟨(HY.out _ hb).1, b1, b2, (HY.out _ hb).2, b3, hcell W hb⟩)
      obtain ⟨b1, b2, b3, b4, -⟩ := HX.out _ hbr
      clear hcs hfin hS01 hS1 hl2 htk hSy hline hcell hx z0 z1 zy z01 hyl
      go_upto_region 6 with fail
      have hw := hbr.drew
      clear b1 b2 b3 b4
      go_region_held3 (fun W => W.cell? ⟨w.heap.size, 0, none⟩ = some (.int .i64 k) ∧ W.cell? ⟨w.heap.size, 1, none⟩ = some (.int .i64 N) ∧ W.cell? ⟨w.heap.size, 2, none⟩ = some va ∧ W.cell? ⟨w.heap.size, 3, none⟩ = some vb ∧ W.cell? ⟨w1.heap.size, 0, none⟩ = some (.slice (some ⟨gx, ox, none⟩) L.length lc) ∧ W.cell? ⟨gx, ox + j, none⟩ = some (.string S1))
        (exact HZ.out _ hw)
        (first | (go_at_call 35; refine (HLine.out _ (HB2.out _ hw)).mono ?_; rintro e w6 ⟨rfl, hb1⟩; have hw := hw.trans (hb1.mono hw.size); clear hb1))
      all_goals
        go_wp2_with fail
        refine ⟨⟨j + 1, ?_, by go_num, by omega, hw⟩, by simp [intOf]; omega⟩
        rw [HTk.out, joinL_snoc, HFin.out]
    · have hout := fun b => out_any (joinL (comesL N [a] (L.take j))) b x1 x2 x3 wr
      rw [HS0.out] at hout
      have HOut := Lib.hid hout
      obtain rfl : j = L.length := by omega
      have q1 : ¬ (L.length : Int) < (L.length : Int) := by omega
      obtain ⟨b1, b2, b3, b4, hmid2⟩ := HX.out _ hbr
      have HBr := Lib.hid hbr
      clear hout hlt hbr b1 b2
      cases all with
      | true =>
        have hT2 : T = ⟨joinL (comesL N [a] (L.take L.length)), true, 0, 0, 0⟩ := by
          rw [HT.out, List.take_length]
          simp
        have HT2 := Lib.hid hT2
        clear hT2
        go_wp2_with (first | (refine wpList_load_mid rfl 59 _ rfl w1.heap.size 2 rfl _ _ hmid2 Tryd.underlying59 rfl (by kernel_rfl) ?_))
        refine (HOut.out true).mono ?_
        rintro e w5 h5
        have h6 : OutEnd wr T e w5 := by rw [HT2.out]; exact h5
        obtain ⟨v, rfl, hs, hb⟩ := h6.lower (HB2.out _ HBr.out)
        have HS := Lib.hid hs
        have HBB := Lib.hid hb
        clear hs hb h5 h6
        go_wp2_with fail
        go_ret
        exact ⟨v, rfl, HS.out, HBB.out⟩
      | false =>
        have hT2 : T = ⟨joinL (comesL N [a] (L.take L.length)), false, x1, x2, x3⟩ := by
          rw [HT.out, List.take_length]
          simp
        have HT2 := Lib.hid hT2
        clear hT2
        go_wp2_with (first | (refine wpList_load_mid rfl 59 _ rfl w1.heap.size 2 rfl _ _ hmid2 Tryd.underlying59 rfl (by kernel_rfl) ?_))
        refine (HOut.out false).mono ?_
        rintro e w5 h5
        have h6 : OutEnd wr T e w5 := by rw [HT2.out]; exact h5
        obtain ⟨v, rfl, hs, hb⟩ := h6.lower (HB2.out _ HBr.out)
        have HS := Lib.hid hs
        have HBB := Lib.hid hb
        clear hs hb h5 h6
        go_wp2_with fail
        go_ret
        exact ⟨v, rfl, HS.out, HBB.out⟩

/-! What match comes to is what the document says. -/
theorem runT_fields (N : Nat) (A : List UInt8) (u : Unit) : ∀ L : Lines, (runT (fieldsT N A) u L).2 = (comesL N A L).map fun l => (0, l ++ [10])
  | [] => rfl
  | l :: r => by
    rw [runT]
    simp only
    have ih := runT_fields N A u r
    show [(0, lineF N A l ++ [10])] ++ (runT (fieldsT N A) u r).2 = _
    rw [ih]
    rfl
theorem fields_case (N : Nat) (A B : List UInt8) (i : Strm) (g : GotL) (h1 : g.outs = (fieldsFin N A B i).outs) (h2 : g.need = (fieldsFin N A B i).need) (h3 : g.err = (fieldsFin N A B i).err) :
    g.outs 0 = (fieldsWant N A B i).bytes ∧ g.outs 1 = [] ∧ g.outs 2 = [] ∧ g.outs 3 = [] ∧ SameCase g [i] (fieldsWant N A B i) := by
  obtain ⟨f1, f2, f3⟩ := run_final (fieldsT (min N 65535) [A.headD 0]) (fun _ _ => rfl) () i.bytes i.ended (i.code, i.stage, i.id)
  have ho : (fieldsFin N A B i).outs = putOuts (fun _ => []) ((comesL (min N 65535) [A.headD 0] (readL i.bytes i.ended (i.code, i.stage, i.id)).1).map fun l => (0, l ++ [10])) := by
    show putOuts (fun _ => []) (finalB (fieldsT (min N 65535) [A.headD 0]) fieldsS i.bytes i.ended).2.1 = _
    rw [← runT_fields, ← f1]
    rfl
  obtain ⟨p0, p1⟩ := putOuts_lines (comesL (min N 65535) [A.headD 0] (readL i.bytes i.ended (i.code, i.stage, i.id)).1) (fun _ => [])
  rw [← ho] at p0 p1
  have hn : (fieldsFin N A B i).need = needOf (finalB (fieldsT (min N 65535) [A.headD 0]) ⟨true, false, [], ()⟩ i.bytes i.ended).1 := rfl
  have he : (fieldsFin N A B i).err = (finalB (fieldsT (min N 65535) [A.headD 0]) ⟨true, false, [], ()⟩ i.bytes i.ended).2.2 := rfl
  refine ⟨by rw [h1, p0]; rfl, by rw [h1]; exact p1 1 (by decide), by rw [h1]; exact p1 2 (by decide), by rw [h1]; exact p1 3 (by decide), ?_⟩
  unfold SameCase fieldsWant
  simp only
  by_cases hc : (readL i.bytes i.ended (i.code, i.stage, i.id)).2.1 = true
  · obtain ⟨q1, q2⟩ := f2 hc
    refine .inl ⟨hc, ?_, by rw [h3, he, q2]⟩
    rw [h2, hn, needOf, q1]
    rfl
  · have hb : (readL i.bytes i.ended (i.code, i.stage, i.id)).2.1 = false := by simpa using hc
    rw [hb]
    rcases f3 hc with ⟨q1, q2, q3⟩ | ⟨q1, q2, q3⟩
    · refine .inr (.inl ⟨rfl, ?_, ?_, ?_⟩)
      · rw [h2, hn, needOf, q2]; rfl
      · rw [h3, he, q3]; decide
      · rw [h3, he, q3, q1]; rfl
    · refine .inr (.inr ⟨rfl, by rw [h3, he, q3], 0, i, ?_, rfl, ?_, ?_, ?_⟩)
      · rw [h2, hn, needOf, q2]; rfl
      · rw [q1]; rfl
      · rw [q1]; rfl
      · rw [q1]; rfl

end Go.Proofs.YtgcnkagieedebaaDoor
