/- The document's denotation of head; what head comes to is just that. -/
import Derived.Test.YtbmollcbaipmiaaDoorDenote
import Derived.Test.YtbmollcbaipmiaaDoorHeadFace
import Derived.Outline
import Derived.Deep.RegionWith
namespace Go.Proofs.YtbmollcbaipmiaaDoor
open Go.RowKit

def headWant (N : Nat) (_ _ : List UInt8) (i : Strm) : Strm :=
  let r := readL i.bytes i.ended (i.code, i.stage, i.id)
  let all := r.2.1 || decide (N ≤ r.1.length)
  ⟨joinL (r.1.take N), all, if all then 0 else r.2.2.1, if all then 0 else r.2.2.2.1, if all then 0 else r.2.2.2.2⟩

set_option maxRecDepth 100000 in
set_option maxHeartbeats 8000000 in
theorem headMeans_any {p : Nat → Prop} (k : Int) (N : Nat) (va vb : Value) (A B : List UInt8) (iv : Value) (i : Strm) (w : World) (_ : Pm.IsBytes w va A) (_ : Pm.IsBytes w vb B) (hI : IsStrms p w iv [i]) (hN : headOk N A B) (hl : i.bytes.length ≤ 4000) :
    Calls Tryd.prog 19 #[Pm.parV k N va vb, iv] w (OutEnd w (headWant N A B i)) := by
  have hb0 : Below w.heap.size w (w.alloc (.cells #[.int .i64 k, .int .i64 N, va, vb] 24)) := (Below.refl _ _).alloc (Nat.le_refl _) _
  obtain ⟨_, _, e, hcs⟩ := hI.below hb0
  subst e
  obtain ⟨gb, off, bv, rfl, -, c0, c1, c2, c3, c4, hbytes⟩ := hcs 0 i rfl
  simp only [Nat.zero_mul, Nat.add_zero] at c0 c1 c2 c3 c4
  have hlines := lines_any bv i.bytes i.ended i.code i.stage i.id (w.alloc (.cells #[.int .i64 k, .int .i64 N, va, vb] 24)) hbytes (by omega)
  obtain ⟨hr64, hrl⟩ := readL_lines i.bytes i.ended (i.code, i.stage, i.id)
  obtain ⟨L, all, x1, x2, x3, hr⟩ : ∃ L all x1 x2 x3, readL i.bytes i.ended (i.code, i.stage, i.id) = (L, all, x1, x2, x3) := ⟨_, _, _, _, _, rfl⟩
  have hwant : headWant N A B i = ⟨joinL (L.take N), all || decide (N ≤ L.length), if (all || decide (N ≤ L.length)) then 0 else x1, if (all || decide (N ≤ L.length)) then 0 else x2, if (all || decide (N ≤ L.length)) then 0 else x3⟩ := by
    unfold headWant
    rw [hr]
  obtain ⟨T, hT⟩ : ∃ T, T = headWant N A B i := ⟨_, rfl⟩
  rw [← hT]
  rw [hwant] at hT
  have HT := Lib.hid hT
  rw [hr] at hr64 hrl
  unfold ReadEnd at hlines
  rw [hr] at hlines
  simp only [readV] at hr64 hrl hlines
  have hjl := joinL_len hr64
  have hmid : (w.alloc (.cells #[.int .i64 k, .int .i64 N, va, vb] 24)).rangeAt gb off [bv, .bool i.ended, .int .i64 i.code, .int .i64 i.stage, .int .i64 i.id] := fun j v hv => by
    rcases j with _ | _ | _ | _ | _ | j
    · cases hv; exact c0
    · cases hv; exact c1
    · cases hv; exact c2
    · cases hv; exact c3
    · cases hv; exact c4
    · simp at hv
  have HL := Lib.hid hlines
  have HB0 := Lib.hid hb0
  have HR := Lib.hid hr64
  obtain ⟨ab, cb, rfl, -, -⟩ := hbytes
  clear hlines hb0 hwant hr hr64 hcs hI hT
  unfold Pm.parV
  simp only [List.length_cons, List.length_nil, Nat.zero_add]
  go_enter Tryd.func19, Tryd.ntmps19
  go_wp2_with (first | (refine wpList_load_mid rfl 61 (.tmp 9) rfl gb off rfl _ _ hmid Tryd.underlying61 rfl (by kernel_rfl) ?_))
  refine HL.out.mono ?_
  rintro e w1 ⟨lv, rfl, hown, hb1⟩
  obtain ⟨la, lc, rfl⟩ := Pm.owns_slice hown
  have hTx := isTexts_of_owns hown
  have hp1 : w1.cell? ⟨w.heap.size, 1, none⟩ = some (.int .i64 N) := Pm.Below.cell hb1 (by simp)
  have hbw : Below w.heap.size w w1 := HB0.out.trans (hb1.mono HB0.out.size)
  have hsz1 := hbw.size
  have HTx := Lib.hid hTx
  have HP1 := Lib.hid hp1
  have HBW := Lib.hid hbw
  have HRow := Lib.hid (heap_alloc_last w1 (.cells #[.slice la L.length lc, .bool all, .int .i64 x1, .int .i64 x2, .int .i64 x3] 97))
  have HAl := Lib.hid ((Below.refl w1.heap.size w1).alloc (Nat.le_refl _) (.cells #[.slice la L.length lc, .bool all, .int .i64 x1, .int .i64 x2, .int .i64 x3] 97))
  clear hown hTx hp1 hbw hb1 hmid c0 c1 c2 c3 c4
  go_wp2_with fail
  have hrow := HRow.out
  have hal := HAl.out
  change Code.wp _ _ _ _ (w1.alloc (.cells #[.slice la L.length lc, .bool all, .int .i64 x1, .int .i64 x2, .int .i64 x3] 97))
  generalize w1.alloc (.cells #[.slice la L.length lc, .bool all, .int .i64 x1, .int .i64 x2, .int .i64 x3] 97) = W2 at hrow hal ⊢
  have cN := Pm.Below.cell hal HP1.out
  have cL : W2.cell? ⟨w1.heap.size, 0, none⟩ = some (.slice la L.length lc) := by rw [cell_of_row _ _ _ _ _ _ hrow]; rfl
  have cA : W2.cell? ⟨w1.heap.size, 1, none⟩ = some (.bool all) := by rw [cell_of_row _ _ _ _ _ _ hrow]; rfl
  have hmid2 : W2.rangeAt w1.heap.size 2 [Value.int .i64 x1, .int .i64 x2, .int .i64 x3] := fun j v hv => by
    rw [cell_of_row _ _ _ _ _ _ hrow]
    rcases j with _ | _ | _ | j
    · exact hv
    · exact hv
    · exact hv
    · simp at hv
  have HTx2 := Lib.hid (HTx.out.below hal)
  have HB2 := Lib.hid (HBW.out.trans (hal.mono HBW.out.size))
  clear hrow hal HRow HAl
  have hst : strV (joinL (L.take 0)) = .string { data := #[] } := rfl
  rw [← hst]
  clear hst
  go_loopw [6, 7] (fun sv iv wr => ∃ j : Nat, sv = strV (joinL (L.take j)) ∧ iv = .int .i64 j ∧ j ≤ L.length ∧ j ≤ N ∧ wr = W2) (fun _ i _ => L.length - (intOf i).toNat)
  case atStart => exact ⟨0, rfl, rfl, Nat.zero_le _, Nat.zero_le _, rfl⟩
  case round =>
    obtain ⟨j, rfl, rfl, hjL, hjN, rfl⟩ := hrel
    have hjl2 := joinL_le L j
    obtain ⟨S0, hS0⟩ : ∃ S : ByteArray, strV (joinL (L.take j)) = .string S := ⟨_, rfl⟩
    rw [hS0]
    have z0 := strV_size hS0
    have HS0 := Lib.hid hS0
    clear hS0
    by_cases hlt : j < L.length ∧ j < N
    · obtain ⟨l, hl2⟩ : ∃ l, L[j]? = some l := ⟨L[j]'hlt.1, List.getElem?_eq_getElem hlt.1⟩
      obtain ⟨_, _, e, hcs⟩ := HTx2.out
      cases e
      obtain ⟨gx, ox, rfl, -, hx⟩ := hcs j l hl2
      obtain ⟨S1, hS1⟩ : ∃ S : ByteArray, strV l = .string S := ⟨_, rfl⟩
      rw [hS1] at hx
      have z1 := strV_size hS1
      have hl64 := HR.out l (List.mem_of_getElem? hl2)
      have a1 := add_fits (S := S0) (T := S1) (by omega) (by omega)
      have hS01 := strV_add HS0.out hS1
      have z01 := strV_size hS01
      rw [List.length_append] at z01
      have a2 := add_fits (S := S0 ++ S1) (T := { data := #[10] }) (by omega) (by decide)
      have hfin := strV_add hS01 strV_end
      rw [List.append_assoc, ← joinL_take hl2] at hfin
      have HFin := Lib.hid hfin
      have q0 : (0 : Int) ≤ (j : Int) := by omega
      have q1 : (j : Int) < (L.length : Int) := by omega
      have q2 : (j : Int) < (N : Int) := by omega
      clear hcs hfin hS01 hS1 hl2 hmid2 cA
      go_wp2_with fail
      refine ⟨⟨j + 1, by rw [HFin.out], by go_num, by omega, by omega, trivial⟩, by simp [intOf]; omega⟩
    · have hout := fun b => out_any (joinL (L.take j)) b x1 x2 x3 wr
      rw [HS0.out] at hout
      have HOut := Lib.hid hout
      have htk : L.take j = L.take N := by
        by_cases h1 : j = L.length
        · rw [h1, List.take_length, List.take_of_length_le (by omega)]
        · rw [show j = N by omega]
      have HTk := Lib.hid htk
      clear hout htk
      by_cases hge : N ≤ L.length
      · have hjN2 : j = N := by omega
        have hT2 : T = ⟨joinL (L.take j), true, 0, 0, 0⟩ := by
          rw [HT.out, HTk.out, decide_eq_true hge]
          simp
        have HT2 := Lib.hid hT2
        subst hjN2
        have q1 : ¬ (j : Int) < (j : Int) := by omega
        have q3 : (j : Int) ≤ (L.length : Int) := by omega
        clear hT2 hlt hge
        cases all with
        | true =>
          go_wp2_with (first | (refine wpList_load_mid rfl 59 (.tmp 44) rfl w1.heap.size 2 rfl _ _ hmid2 Tryd.underlying59 rfl (by kernel_rfl) ?_))
          all_goals
            refine (HOut.out true).mono ?_
            rintro e w5 h5
            have h6 : OutEnd wr T e w5 := by rw [HT2.out]; exact h5
            obtain ⟨v, rfl, hs, hb⟩ := h6.lower HB2.out
            have HS := Lib.hid hs
            have HBB := Lib.hid hb
            clear hs hb h5 h6
            go_wp2_with fail
            go_ret
            exact ⟨v, rfl, HS.out, HBB.out⟩
        | false =>
          go_wp2_with (first | (refine wpList_load_mid rfl 59 (.tmp 44) rfl w1.heap.size 2 rfl _ _ hmid2 Tryd.underlying59 rfl (by kernel_rfl) ?_))
          all_goals
            refine (HOut.out true).mono ?_
            rintro e w5 h5
            have h6 : OutEnd wr T e w5 := by rw [HT2.out]; exact h5
            obtain ⟨v, rfl, hs, hb⟩ := h6.lower HB2.out
            have HS := Lib.hid hs
            have HBB := Lib.hid hb
            clear hs hb h5 h6
            go_wp2_with fail
            go_ret
            exact ⟨v, rfl, HS.out, HBB.out⟩
      · obtain rfl : j = L.length := by omega
        have q1 : ¬ (L.length : Int) < (L.length : Int) := by omega
        have q3 : ¬ (N : Int) ≤ (L.length : Int) := by omega
        cases all with
        | true =>
          have hT2 : T = ⟨joinL (L.take L.length), true, 0, 0, 0⟩ := by
            rw [HT.out, HTk.out]
            simp
          have HT2 := Lib.hid hT2
          clear hT2 hlt hge
          go_wp2_with (first | (refine wpList_load_mid rfl 59 (.tmp 44) rfl w1.heap.size 2 rfl _ _ hmid2 Tryd.underlying59 rfl (by kernel_rfl) ?_))
          refine (HOut.out true).mono ?_
          rintro e w5 h5
          have h6 : OutEnd wr T e w5 := by rw [HT2.out]; exact h5
          obtain ⟨v, rfl, hs, hb⟩ := h6.lower HB2.out
          have HS := Lib.hid hs
          have HBB := Lib.hid hb
          clear hs hb h5 h6
          go_wp2_with fail
          go_ret
          exact ⟨v, rfl, HS.out, HBB.out⟩
        | false =>
          have hT2 : T = ⟨joinL (L.take L.length), false, x1, x2, x3⟩ := by
            rw [HT.out, HTk.out, decide_eq_false hge]
            simp
          have HT2 := Lib.hid hT2
          clear hT2 hlt hge
          go_wp2_with (first | (refine wpList_load_mid rfl 59 (.tmp 44) rfl w1.heap.size 2 rfl _ _ hmid2 Tryd.underlying59 rfl (by kernel_rfl) ?_))
          refine (HOut.out false).mono ?_
          rintro e w5 h5
          have h6 : OutEnd wr T e w5 := by rw [HT2.out]; exact h5
          obtain ⟨v, rfl, hs, hb⟩ := h6.lower HB2.out
          have HS := Lib.hid hs
          have HBB := Lib.hid hb
          clear hs hb h5 h6
          go_wp2_with fail
          go_ret
          exact ⟨v, rfl, HS.out, HBB.out⟩

/-! What head comes to is what the document says. -/
theorem head_case (N : Nat) (A B : List UInt8) (i : Strm) (g : GotL) (h1 : g.outs = (headFin N A B i).outs) (h2 : g.need = (headFin N A B i).need) (h3 : g.err = (headFin N A B i).err) :
    g.outs 0 = (headWant N A B i).bytes ∧ g.outs 1 = [] ∧ g.outs 2 = [] ∧ g.outs 3 = [] ∧ SameCase g [i] (headWant N A B i) := by
  obtain ⟨f1, f2, f3⟩ := head_final N i.bytes i.ended (i.code, i.stage, i.id)
  have ho : (headFin N A B i).outs = putOuts (fun _ => []) ((((readL i.bytes i.ended (i.code, i.stage, i.id)).1.take N)).map fun l => (0, l ++ [10])) := by
    show putOuts (fun _ => []) (finalB headT (headS N) i.bytes i.ended).2.1 = _
    rw [f1]
    rfl
  obtain ⟨p0, p1⟩ := putOuts_lines ((readL i.bytes i.ended (i.code, i.stage, i.id)).1.take N) (fun _ => [])
  rw [← ho] at p0 p1
  have hn : (headFin N A B i).need = needOf (finalB headT (headS N) i.bytes i.ended).1 := rfl
  have he : (headFin N A B i).err = (finalB headT (headS N) i.bytes i.ended).2.2 := rfl
  refine ⟨by rw [h1, p0]; rfl, by rw [h1]; exact p1 1 (by decide), by rw [h1]; exact p1 2 (by decide), by rw [h1]; exact p1 3 (by decide), ?_⟩
  unfold SameCase headWant
  simp only
  by_cases hc : (readL i.bytes i.ended (i.code, i.stage, i.id)).2.1 = true ∨ N ≤ (readL i.bytes i.ended (i.code, i.stage, i.id)).1.length
  · obtain ⟨q1, q2⟩ := f2 hc
    refine .inl ⟨by simpa using hc, ?_, by rw [h3, he, q2]⟩
    rw [h2, hn, needOf, q1]
    rfl
  · have hb : ((readL i.bytes i.ended (i.code, i.stage, i.id)).2.1 || decide (N ≤ (readL i.bytes i.ended (i.code, i.stage, i.id)).1.length)) = false := by simpa using hc
    rw [hb]
    rcases f3 hc with ⟨q1, q2, q3⟩ | ⟨q1, q2, q3⟩
    · refine .inr (.inl ⟨rfl, ?_, ?_, ?_⟩)
      · rw [h2, hn, needOf, q2]; rfl
      · rw [h3, he, q3]; decide
      · rw [h3, he, q3, q1]; rfl
    · refine .inr (.inr ⟨rfl, by rw [h3, he, q3], 0, i, ?_, rfl, ?_, ?_, ?_⟩)
      · rw [h2, hn, needOf, q2]; rfl
      · rw [q1]; rfl
      · rw [q1]; rfl
      · rw [q1]; rfl

end Go.Proofs.YtbmollcbaipmiaaDoor
