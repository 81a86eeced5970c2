/- The document's denotation of tail; what tail comes to is just that. -/
import Derived.Test.YtdpjopemdhbgpaaDoorDenote
import Derived.Test.YtdpjopemdhbgpaaDoorTailFace
import Derived.Outline
import Derived.Deep.RegionWith
namespace Go.Proofs.YtdpjopemdhbgpaaDoor
open Go.RowKit

def tailWant (N : Nat) (_ _ : List UInt8) (i : Strm) : Strm :=
  let r := readL i.bytes i.ended (i.code, i.stage, i.id)
  ⟨if r.2.1 then joinL (lastN N r.1) else [], r.2.1, if r.2.1 then 0 else r.2.2.1, if r.2.1 then 0 else r.2.2.2.1, if r.2.1 then 0 else r.2.2.2.2⟩
/-- Of the last N lines those that stand among the first j. -/
def tailPart (N : Nat) (L : Lines) (j : Nat) : Lines := (L.take j).drop (L.length - N)
theorem tailPart_len (N : Nat) (L : Lines) : tailPart N L L.length = lastN N L := by simp [tailPart, lastN]
theorem tailPart_in {N : Nat} {L : Lines} {j : Nat} {l : List UInt8} (h : L[j]? = some l) (hj : L.length - j ≤ N) : tailPart N L (j + 1) = tailPart N L j ++ [l] := by
  obtain ⟨hk, rfl⟩ := List.getElem?_eq_some_iff.1 h
  unfold tailPart
  rw [List.take_succ_eq_append_getElem hk, List.drop_append_of_le_length (by simp; omega)]
theorem tailPart_out {N : Nat} {L : Lines} {j : Nat} (hj : ¬ L.length - j ≤ N) (hL : j < L.length) : tailPart N L (j + 1) = tailPart N L j := by
  unfold tailPart
  rw [List.drop_of_length_le (by simp; omega), List.drop_of_length_le (by simp; omega)]
theorem tailPart_mem {N : Nat} {L : Lines} {j : Nat} : ∀ l ∈ tailPart N L j, l ∈ L := fun _ hl => List.mem_of_mem_take (List.mem_of_mem_drop hl)
theorem tailPart_le (N : Nat) (L : Lines) (j : Nat) : (tailPart N L j).length ≤ L.length := by simp [tailPart]; omega

set_option maxRecDepth 100000 in
set_option maxHeartbeats 8000000 in
theorem tailMeans_any {p : Nat → Prop} (k : Int) (N : Nat) (va vb : Value) (A B : List UInt8) (iv : Value) (i : Strm) (w : World) (_ : Pm.IsBytes w va A) (_ : Pm.IsBytes w vb B) (hI : IsStrms p w iv [i]) (hN : tailOk N A B) (hl : i.bytes.length ≤ 4000) :
    Calls Tryd.prog 19 #[Pm.parV k N va vb, iv] w (OutEnd w (tailWant N A B i)) := by
  have hb0 : Below w.heap.size w (w.alloc (.cells #[.int .i64 k, .int .i64 N, va, vb] 24)) := (Below.refl _ _).alloc (Nat.le_refl _) _
  obtain ⟨_, _, e, hcs⟩ := hI.below hb0
  subst e
  obtain ⟨gb, off, bv, rfl, -, c0, c1, c2, c3, c4, hbytes⟩ := hcs 0 i rfl
  simp only [Nat.zero_mul, Nat.add_zero] at c0 c1 c2 c3 c4
  have hlines := lines_any bv i.bytes i.ended i.code i.stage i.id (w.alloc (.cells #[.int .i64 k, .int .i64 N, va, vb] 24)) hbytes (by omega)
  obtain ⟨hr64, hrl⟩ := readL_lines i.bytes i.ended (i.code, i.stage, i.id)
  obtain ⟨L, all, x1, x2, x3, hr⟩ : ∃ L all x1 x2 x3, readL i.bytes i.ended (i.code, i.stage, i.id) = (L, all, x1, x2, x3) := ⟨_, _, _, _, _, rfl⟩
  have hwant : tailWant N A B i = ⟨if all then joinL (lastN N L) else [], all, if all then 0 else x1, if all then 0 else x2, if all then 0 else x3⟩ := by
    unfold tailWant
    rw [hr]
  obtain ⟨T, hT⟩ : ∃ T, T = tailWant N A B i := ⟨_, rfl⟩
  rw [← hT]
  rw [hwant] at hT
  have HT := Lib.hid hT
  rw [hr] at hr64 hrl
  unfold ReadEnd at hlines
  rw [hr] at hlines
  simp only [readV] at hr64 hrl hlines
  have hjl := joinL_len hr64
  have hmid : (w.alloc (.cells #[.int .i64 k, .int .i64 N, va, vb] 24)).rangeAt gb off [bv, .bool i.ended, .int .i64 i.code, .int .i64 i.stage, .int .i64 i.id] := fun j v hv => by
    rcases j with _ | _ | _ | _ | _ | j
    · cases hv; exact c0
    · cases hv; exact c1
    · cases hv; exact c2
    · cases hv; exact c3
    · cases hv; exact c4
    · simp at hv
  have HL := Lib.hid hlines
  have HB0 := Lib.hid hb0
  have HR := Lib.hid hr64
  obtain ⟨ab, cb, rfl, -, -⟩ := hbytes
  clear hlines hb0 hwant hr hr64 hcs hI hT
  unfold Pm.parV
  simp only [List.length_cons, List.length_nil, Nat.zero_add]
  go_enter Tryd.func19, Tryd.ntmps19
  go_wp2_with (first | (refine wpList_load_mid rfl 61 (.tmp 9) rfl gb off rfl _ _ hmid Tryd.underlying61 rfl (by kernel_rfl) ?_))
  refine HL.out.mono ?_
  rintro e w1 ⟨lv, rfl, hown, hb1⟩
  obtain ⟨la, lc, rfl⟩ := Pm.owns_slice hown
  have hTx := isTexts_of_owns hown
  have hp1 : w1.cell? ⟨w.heap.size, 1, none⟩ = some (.int .i64 N) := Pm.Below.cell hb1 (by simp)
  have hbw : Below w.heap.size w w1 := HB0.out.trans (hb1.mono HB0.out.size)
  have hsz1 := hbw.size
  have HTx := Lib.hid hTx
  have HP1 := Lib.hid hp1
  have HBW := Lib.hid hbw
  have HRow := Lib.hid (heap_alloc_last w1 (.cells #[.slice la L.length lc, .bool all, .int .i64 x1, .int .i64 x2, .int .i64 x3] 97))
  have HAl := Lib.hid ((Below.refl w1.heap.size w1).alloc (Nat.le_refl _) (.cells #[.slice la L.length lc, .bool all, .int .i64 x1, .int .i64 x2, .int .i64 x3] 97))
  clear hown hTx hp1 hbw hb1 hmid c0 c1 c2 c3 c4
  go_wp2_with fail
  have hrow := HRow.out
  have hal := HAl.out
  change Code.wp _ _ _ _ (w1.alloc (.cells #[.slice la L.length lc, .bool all, .int .i64 x1, .int .i64 x2, .int .i64 x3] 97))
  generalize w1.alloc (.cells #[.slice la L.length lc, .bool all, .int .i64 x1, .int .i64 x2, .int .i64 x3] 97) = W2 at hrow hal ⊢
  have cN := Pm.Below.cell hal HP1.out
  have cL : W2.cell? ⟨w1.heap.size, 0, none⟩ = some (.slice la L.length lc) := by rw [cell_of_row _ _ _ _ _ _ hrow]; rfl
  have cA : W2.cell? ⟨w1.heap.size, 1, none⟩ = some (.bool all) := by rw [cell_of_row _ _ _ _ _ _ hrow]; rfl
  have hmid2 : W2.rangeAt w1.heap.size 2 [Value.int .i64 x1, .int .i64 x2, .int .i64 x3] := fun j v hv => by
    rw [cell_of_row _ _ _ _ _ _ hrow]
    rcases j with _ | _ | _ | j
    · exact hv
    · exact hv
    · exact hv
    · simp at hv
  have HTx2 := Lib.hid (HTx.out.below hal)
  have HB2 := Lib.hid (HBW.out.trans (hal.mono HBW.out.size))
  clear hrow hal HRow HAl
  have hst : strV (joinL (tailPart N L 0)) = .string { data := #[] } := by simp [tailPart, joinL, strV]
  rw [← hst]
  clear hst
  cases all with
  | false =>
    have hT2 : T = ⟨[], false, x1, x2, x3⟩ := HT.out
    have HT2 := Lib.hid hT2
    have hout := out_any [] false x1 x2 x3 W2
    have hnil : strV [] = .string { data := #[] } := rfl
    rw [hnil] at hout
    have HOut := Lib.hid hout
    have hst : strV (joinL (tailPart N L 0)) = .string { data := #[] } := by simp [tailPart, joinL, strV]
    rw [hst]
    clear hT2 hout hnil hst
    refine wp_loop_rounds 1 ?_
    rw [rounds_succ]
    go_wp2_with (first | (refine wpList_load_mid rfl 59 (.tmp 42) rfl w1.heap.size 2 rfl _ _ hmid2 Tryd.underlying59 rfl (by kernel_rfl) ?_))
    all_goals
      refine HOut.out.mono ?_
      rintro e w5 h5
      have h6 : OutEnd W2 T e w5 := by rw [HT2.out]; exact h5
      obtain ⟨v, rfl, hs, hb⟩ := h6.lower HB2.out
      have HS := Lib.hid hs
      have HBB := Lib.hid hb
      clear hs hb h5 h6
      go_wp2_with fail
      go_ret
      exact ⟨v, rfl, HS.out, HBB.out⟩
  | true =>
    go_loopw [6, 7] (fun sv iv wr => ∃ j : Nat, sv = strV (joinL (tailPart N L j)) ∧ iv = .int .i64 j ∧ j ≤ L.length ∧ wr = W2) (fun _ i _ => L.length - (intOf i).toNat)
    case atStart => exact ⟨0, rfl, rfl, Nat.zero_le _, rfl⟩
    case round =>
      obtain ⟨j, rfl, rfl, hjL, rfl⟩ := hrel
      have hjl2 : (joinL (tailPart N L j)).length ≤ 65 * 4001 := by
        have h1 := joinL_len (L := tailPart N L j) (fun l hl => HR.out l (tailPart_mem l hl))
        have h2 := tailPart_le N L j
        omega
      obtain ⟨S0, hS0⟩ : ∃ S : ByteArray, strV (joinL (tailPart N L j)) = .string S := ⟨_, rfl⟩
      rw [hS0]
      have z0 := strV_size hS0
      have HS0 := Lib.hid hS0
      clear hS0
      by_cases hlt : j < L.length
      · obtain ⟨l, hl2⟩ : ∃ l, L[j]? = some l := ⟨L[j]'hlt, List.getElem?_eq_getElem hlt⟩
        have q0 : (0 : Int) ≤ (j : Int) := by omega
        have q1 : (j : Int) < (L.length : Int) := by omega
        by_cases hin : L.length - j ≤ N
        · obtain ⟨_, _, e, hcs⟩ := HTx2.out
          cases e
          obtain ⟨gx, ox, rfl, -, hx⟩ := hcs j l hl2
          obtain ⟨S1, hS1⟩ : ∃ S : ByteArray, strV l = .string S := ⟨_, rfl⟩
          rw [hS1] at hx
          have z1 := strV_size hS1
          have hl64 := HR.out l (List.mem_of_getElem? hl2)
          have a1 := add_fits (S := S0) (T := S1) (by omega) (by omega)
          have hS01 := strV_add HS0.out hS1
          have z01 := strV_size hS01
          rw [List.length_append] at z01
          have a2 := add_fits (S := S0 ++ S1) (T := { data := #[10] }) (by omega) (by decide)
          have hfin := strV_add hS01 strV_end
          rw [List.append_assoc, ← joinL_snoc, ← tailPart_in hl2 hin] at hfin
          have HFin := Lib.hid hfin
          have q2 : (L.length : Int) - (j : Int) ≤ (N : Int) := by omega
          clear hcs hfin hS01 hS1 hl2 hmid2
          go_wp2_with fail
          refine ⟨⟨j + 1, by rw [HFin.out], by go_num, by omega, trivial⟩, by simp [intOf]; omega⟩
        · have hfin := tailPart_out hin hlt
          have HFin := Lib.hid hfin
          have q2 : ¬ (L.length : Int) - (j : Int) ≤ (N : Int) := by omega
          clear hfin hmid2 hin
          go_wp2_with fail
          refine ⟨⟨j + 1, by rw [HFin.out, HS0.out], by go_num, by omega, trivial⟩, by simp [intOf]; omega⟩
      · obtain rfl : j = L.length := by omega
        have hout := out_any (joinL (tailPart N L L.length)) true x1 x2 x3 wr
        rw [HS0.out] at hout
        have HOut := Lib.hid hout
        have hT2 : T = ⟨joinL (tailPart N L L.length), true, 0, 0, 0⟩ := by rw [HT.out, tailPart_len]; rfl
        have HT2 := Lib.hid hT2
        have q1 : ¬ (L.length : Int) < (L.length : Int) := by omega
        clear hT2 hout hlt
        go_wp2_with (first | (refine wpList_load_mid rfl 59 (.tmp 42) rfl w1.heap.size 2 rfl _ _ hmid2 Tryd.underlying59 rfl (by kernel_rfl) ?_))
        refine HOut.out.mono ?_
        rintro e w5 h5
        have h6 : OutEnd wr T e w5 := by rw [HT2.out]; exact h5
        obtain ⟨v, rfl, hs, hb⟩ := h6.lower HB2.out
        have HS := Lib.hid hs
        have HBB := Lib.hid hb
        clear hs hb h5 h6
        go_wp2_with fail
        go_ret
        exact ⟨v, rfl, HS.out, HBB.out⟩

/-! What tail comes to is what the document says. -/
theorem tail_case (N : Nat) (A B : List UInt8) (i : Strm) (g : GotL) (h1 : g.outs = (tailFin N A B i).outs) (h2 : g.need = (tailFin N A B i).need) (h3 : g.err = (tailFin N A B i).err) :
    g.outs 0 = (tailWant N A B i).bytes ∧ g.outs 1 = [] ∧ g.outs 2 = [] ∧ g.outs 3 = [] ∧ SameCase g [i] (tailWant N A B i) := by
  obtain ⟨f1, f2, f3⟩ := tail_final N i.bytes i.ended (i.code, i.stage, i.id)
  have hn : (tailFin N A B i).need = (tailMach N).need (finalM (tailMach N) N tailS i.bytes i.ended).1 := rfl
  have he : (tailFin N A B i).err = (finalM (tailMach N) N tailS i.bytes i.ended).2.2 := rfl
  have ho : (tailFin N A B i).outs = putOuts (fun _ => []) (if (readL i.bytes i.ended (i.code, i.stage, i.id)).2.1 = true then (lastN N (readL i.bytes i.ended (i.code, i.stage, i.id)).1).map (fun l => (0, l ++ [10])) else []) := by
    show putOuts (fun _ => []) (finalM (tailMach N) N tailS i.bytes i.ended).2.1 = _
    rw [f1]
  unfold SameCase tailWant
  simp only
  cases hc : (readL i.bytes i.ended (i.code, i.stage, i.id)).2.1 with
  | true =>
    rw [hc] at ho
    simp only [if_true] at ho ⊢
    obtain ⟨p0, p1⟩ := putOuts_lines (lastN N (readL i.bytes i.ended (i.code, i.stage, i.id)).1) (fun _ => [])
    rw [← ho] at p0 p1
    obtain ⟨q1, q2⟩ := f2 hc
    exact ⟨by rw [h1, p0]; rfl, by rw [h1]; exact p1 1 (by decide), by rw [h1]; exact p1 2 (by decide), by rw [h1]; exact p1 3 (by decide), .inl ⟨trivial, by rw [h2, hn, q1], by rw [h3, he, q2]⟩⟩
  | false =>
    rw [hc] at ho
    simp only [Bool.false_eq_true, if_false] at ho ⊢
    refine ⟨by rw [h1, ho]; rfl, by rw [h1, ho]; rfl, by rw [h1, ho]; rfl, by rw [h1, ho]; rfl, ?_⟩
    rcases f3 hc with ⟨q1, q2, q3⟩ | ⟨q1, q2, q3⟩
    · refine .inr (.inl ⟨trivial, by rw [h2, hn, q2], by rw [h3, he, q3]; decide, by rw [h3, he, q3, q1]⟩)
    · refine .inr (.inr ⟨trivial, by rw [h3, he, q3], 0, i, by rw [h2, hn, q2]; rfl, rfl, ?_, ?_, ?_⟩)
      · rw [q1]
      · rw [q1]
      · rw [q1]

end Go.Proofs.YtdpjopemdhbgpaaDoor
