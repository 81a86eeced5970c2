/- The document's denotation of turn; what turn comes to is just that. -/
import Derived.Test.YtacmbjamnmpmoaaDoorMout
import Derived.Test.YtacmbjamnmpmoaaDoorSame
import Derived.Test.YtacmbjamnmpmoaaDoorTurnFace
import Derived.Test.YtacmbjamnmpmoaaDoorRA
import Derived.Outline
import Derived.Deep.RegionWith
namespace Go.Proofs.YtacmbjamnmpmoaaDoor
open Go.RowKit

theorem indexByte_snoc (d c : UInt8) : ∀ l : List UInt8, Lib.indexByte (l ++ [d]) c = if Lib.indexByte l c = -1 then (if d = c then (l.length : Int) else -1) else Lib.indexByte l c
  | [] => by
    simp only [List.nil_append, Lib.indexByte]
    by_cases h : d = c <;> simp [h]
  | b :: l => by
    have ih := indexByte_snoc d c l
    have hg := Lib.indexByte_ge l c
    rw [List.cons_append, Lib.indexByte, Lib.indexByte, ih]
    by_cases hb : b = c
    · simp [hb]
    · have h1 : (b == c) = false := by simpa using hb
      simp only [h1, Bool.false_eq_true, if_false, beq_iff_eq]
      by_cases hl : Lib.indexByte l c = -1
      · rw [if_pos hl, if_pos hl]
        by_cases hd : d = c
        · simp only [if_pos hd, if_true, List.length_cons]
          rw [if_neg (by omega)]
          push_cast
          rfl
        · simp [hd]
      · rw [if_neg hl, if_neg hl, if_neg (by omega)]
theorem indexByte_lt (c : UInt8) : ∀ l : List UInt8, Lib.indexByte l c = -1 ∨ Lib.indexByte l c < l.length
  | [] => .inl rfl
  | b :: l => by
    have ih := indexByte_lt c l
    rw [Lib.indexByte]
    by_cases hb : b = c
    · right
      simp [hb]
    · have h1 : (b == c) = false := by simpa using hb
      simp only [h1, Bool.false_eq_true, if_false, beq_iff_eq, List.length_cons]
      by_cases hl : Lib.indexByte l c = -1
      · exact .inl (if_pos hl)
      · rw [if_neg hl]
        right
        push_cast
        omega
theorem indexByte_none (c : UInt8) : ∀ l : List UInt8, c ∉ l → Lib.indexByte l c = -1
  | [], _ => rfl
  | b :: l, h => by
    have hb : ¬ b = c := fun e => h (by simp [e])
    have h1 : (b == c) = false := by simpa using hb
    rw [Lib.indexByte, indexByte_none c l (fun hc => h (by simp [hc]))]
    simp [h1]
/-- The place where a byte was seen among the first k. -/
def seenAt (A : List UInt8) (c : UInt8) (k : Nat) : Int := Lib.indexByte (A.take k) c
theorem seenAt_yes {A : List UInt8} {c : UInt8} {k : Nat} (hA : A.Nodup) (h : A[k]? = some c) : seenAt A c (k + 1) = k := by
  obtain ⟨hk, rfl⟩ := List.getElem?_eq_some_iff.1 h
  have hn : A[k] ∉ A.take k := by
    intro hm
    obtain ⟨j, hj, he⟩ := List.mem_iff_getElem.1 hm
    rw [List.getElem_take] at he
    have hj2 : j < k := by simp at hj; omega
    have := (List.nodup_iff_pairwise_ne.1 hA)
    exact absurd he (List.pairwise_iff_getElem.1 this j k (by omega) hk hj2)
  unfold seenAt
  rw [List.take_succ_eq_append_getElem hk, indexByte_snoc, indexByte_none _ _ hn, if_pos rfl, if_pos rfl, List.length_take, Nat.min_eq_left (by omega)]
theorem seenAt_no {A : List UInt8} {c d : UInt8} {k : Nat} (h : A[k]? = some d) (hd : d ≠ c) : seenAt A c (k + 1) = seenAt A c k := by
  obtain ⟨hk, rfl⟩ := List.getElem?_eq_some_iff.1 h
  unfold seenAt
  rw [List.take_succ_eq_append_getElem hk, indexByte_snoc, if_neg hd]
  split
  · rename_i e; exact e.symm
  · rfl
theorem seenAt_lt (A : List UInt8) (c : UInt8) (k : Nat) : seenAt A c k = -1 ∨ (0 ≤ seenAt A c k ∧ seenAt A c k < A.length) := by
  unfold seenAt
  have h := indexByte_lt c (A.take k)
  have hg := Lib.indexByte_ge (A.take k) c
  rw [List.length_take] at h
  omega

def turnWant (_ : Nat) (A B : List UInt8) (i : Strm) : Strm := ⟨turnL A B i.bytes, i.ended, if i.ended then 0 else i.code, if i.ended then 0 else i.stage, if i.ended then 0 else i.id⟩

set_option maxRecDepth 100000 in
set_option maxHeartbeats 8000000 in
theorem turnMeans_any {p : Nat → Prop} (k : Int) (N : Nat) (va vb : Value) (A B : List UInt8) (iv : Value) (i : Strm) (w : World) (hA : Pm.IsBytes w va A) (hB : Pm.IsBytes w vb B) (hI : IsStrms p w iv [i]) (hN : turnOk N A B) (hl : i.bytes.length ≤ 4000) :
    Calls Tryd.prog 19 #[Pm.parV k N va vb, iv] w (OutEnd w (turnWant N A B i)) := by
  obtain ⟨x, ended, e1, e2, e3⟩ := i
  have hb0 : Below w.heap.size w (w.alloc (.cells #[.int .i64 k, .int .i64 N, va, vb] 24)) := (Below.refl _ _).alloc (Nat.le_refl _) _
  obtain ⟨_, _, e, hcs⟩ := hI
  subst e
  obtain ⟨gb, off, bv, rfl, -, c0, c1, c2, c3, c4, hbytes⟩ := hcs 0 _ rfl
  simp only [Nat.zero_mul, Nat.add_zero] at c0 c1 c2 c3 c4 hbytes hl
  have hmid : (w.alloc (.cells #[.int .i64 k, .int .i64 N, va, vb] 24)).rangeAt gb off [bv, .bool ended, .int .i64 e1, .int .i64 e2, .int .i64 e3] := fun j v hv => by
    rcases j with _ | _ | _ | _ | _ | j
    · cases hv; exact Pm.Below.cell hb0 c0
    · cases hv; exact Pm.Below.cell hb0 c1
    · cases hv; exact Pm.Below.cell hb0 c2
    · cases hv; exact Pm.Below.cell hb0 c3
    · cases hv; exact Pm.Below.cell hb0 c4
    · simp at hv
  obtain ⟨ab, cb, rfl, -, -⟩ := id hbytes
  obtain ⟨aa, ca, rfl, -, -⟩ := id hA
  obtain ⟨aB, cB, rfl, -, -⟩ := id hB
  unfold Pm.parV
  simp only [List.length_cons, List.length_nil, Nat.zero_add]
  go_enter Tryd.func19, Tryd.ntmps19
  go_wp2_with (first | (refine wpList_load_mid rfl 61 (.tmp 11) rfl gb off rfl _ _ hmid Tryd.underlying61 rfl (by kernel_rfl) ?_))
  have hb1 : Below w.heap.size w ((w.alloc (.cells #[.int .i64 k, .int .i64 N, .slice aa A.length ca, .slice aB B.length cB] 24)).alloc (.cells #[.slice ab x.length cb, .bool ended, .int .i64 e1, .int .i64 e2, .int .i64 e3] 61)) := hb0.alloc (by simp) _
  have hr1 := heap_alloc_last (w.alloc (.cells #[.int .i64 k, .int .i64 N, .slice aa A.length ca, .slice aB B.length cB] 24)) (.cells #[.slice ab x.length cb, .bool ended, .int .i64 e1, .int .i64 e2, .int .i64 e3] 61)
  rw [World.size_alloc] at hr1
  have hr0 := (((Below.refl (w.alloc (.cells #[.int .i64 k, .int .i64 N, .slice aa A.length ca, .slice aB B.length cB] 24)).heap.size (w.alloc (.cells #[.int .i64 k, .int .i64 N, .slice aa A.length ca, .slice aB B.length cB] 24))).alloc (Nat.le_refl _) (.cells #[.slice ab x.length cb, .bool ended, .int .i64 e1, .int .i64 e2, .int .i64 e3] 61)).block w.heap.size (by simp)).trans (heap_alloc_last w _)
  have hs1 : ((w.alloc (.cells #[.int .i64 k, .int .i64 N, .slice aa A.length ca, .slice aB B.length cB] 24)).alloc (.cells #[.slice ab x.length cb, .bool ended, .int .i64 e1, .int .i64 e2, .int .i64 e3] 61)).heap.size = w.heap.size + 2 := by simp
  generalize (w.alloc (.cells #[.int .i64 k, .int .i64 N, .slice aa A.length ca, .slice aB B.length cB] 24)).alloc (.cells #[.slice ab x.length cb, .bool ended, .int .i64 e1, .int .i64 e2, .int .i64 e3] 61) = W0 at hb1 hr0 hr1 hs1 ⊢
  have HX := Lib.hid (show ∀ W, Below W0.heap.size W0 W → (W.cell? ⟨w.heap.size, 2, none⟩ = some (.slice aa A.length ca) ∧ W.cell? ⟨w.heap.size, 3, none⟩ = some (.slice aB B.length cB) ∧ W.cell? ⟨w.heap.size + 1, 0, none⟩ = some (.slice ab x.length cb) ∧ W.cell? ⟨w.heap.size + 1, 1, none⟩ = some (.bool ended) ∧ W.rangeAt (w.heap.size + 1) 2 [.int .i64 e1, .int .i64 e2, .int .i64 e3]) from fun W hb => by
    have h0 := (hb.block w.heap.size (by omega)).trans hr0
    have h1 := (hb.block (w.heap.size + 1) (by omega)).trans hr1
    refine ⟨by rw [cell_of_row _ _ _ _ _ _ h0]; rfl, by rw [cell_of_row _ _ _ _ _ _ h0]; rfl, by rw [cell_of_row _ _ _ _ _ _ h1]; rfl, by rw [cell_of_row _ _ _ _ _ _ h1]; rfl, fun j v hv => ?_⟩
    rw [cell_of_row _ _ _ _ _ _ h1]
    rcases j with _ | _ | _ | j
    · exact hv
    · exact hv
    · exact hv
    · simp at hv)
  have HBt := Lib.hid (show ∀ W, Below W0.heap.size W0 W → (Pm.IsBytes W (.slice aa A.length ca) A ∧ Pm.IsBytes W (.slice aB B.length cB) B ∧ IsBytes p W (.slice ab x.length cb) x) from fun W hb => by
    have hw := hb1.trans (hb.mono hb1.size)
    exact ⟨hA.below hw, hB.below hw, hbytes.below hw⟩)
  have HB1 := Lib.hid (show ∀ W, Below W0.heap.size W0 W → Below w.heap.size w W from fun W hb => hb1.trans (hb.mono hb1.size))
  have hI0 : TurnInv A B x W0 (.slice none 0 0) 0 W0 := ⟨Nat.zero_le _, by simpa [turnL, bytesL] using World.ownsRow_nil W0 W0.heap.size 5 1, Below.refl _ _⟩
  have HI0 := Lib.hid hI0
  have HNd := Lib.hid hN.2.2.1
  have hA64 := hN.2.1
  have hBA := hN.2.2.2
  clear hb1 hb0 hr0 hr1 hs1 hcs hmid c0 c1 c2 c3 c4 hbytes hA hB hI0 hN
  obtain ⟨T, hT⟩ : ∃ T, T = turnWant N A B ⟨x, ended, e1, e2, e3⟩ := ⟨_, rfl⟩
  rw [← hT]
  have HT := Lib.hid hT
  clear hT
  go_loopw [6, 7] (fun ov jv wr => ∃ (j : Nat) (u : Value), u = ov ∧ jv = .int .i64 j ∧ TurnInv A B x W0 u j wr) (fun _ j _ => x.length - (intOf j).toNat)
  case atStart => exact ⟨0, _, rfl, rfl, HI0.out⟩
  case round =>
    obtain ⟨j, ov, rfl, rfl, hI⟩ := hrel
    obtain ⟨oa, oc, rfl⟩ := owns_slice hI.own
    obtain ⟨b2, b3, b4, b5, b6⟩ := HX.out _ hI.below
    have hle := hI.le
    have hll := turnL_le A B (x.take j)
    rw [List.length_take] at hll
    have HI := Lib.hid hI
    clear hI
    by_cases hlt : j < x.length
    · obtain ⟨c, hc⟩ : ∃ c, x[j]? = some c := ⟨x[j]'hlt, List.getElem?_eq_getElem hlt⟩
      have q0 : (0 : Int) ≤ (j : Int) := by omega
      have q1 : (j : Int) < (x.length : Int) := by omega
      have hsn := turnL_snoc (A := A) (B := B) hc
      have HSn := Lib.hid hsn
      have HC := Lib.hid hc
      clear hsn hc b3 b5 b6
      rename World => W1
      go_wp2_with fail
      go_loopw [8, 9] (fun av kv wq => ∃ m : Nat, av = .int .i64 (seenAt A c m) ∧ kv = .int .i64 m ∧ m ≤ A.length ∧ Below W1.heap.size W1 wq) (fun _ kv _ => A.length - (intOf kv).toNat)
      case atStart => exact ⟨0, rfl, rfl, Nat.zero_le _, Below.refl _ _⟩
      case round =>
        obtain ⟨m, rfl, rfl, hm, hbm⟩ := hrel
        have hbw := HI.out.below.trans (hbm.mono HI.out.below.size)
        obtain ⟨b2, b3, b4, -, -⟩ := HX.out _ hbw
        have hsl := seenAt_lt A c m
        obtain ⟨r, hr⟩ : ∃ r, r = seenAt A c m := ⟨_, rfl⟩
        rw [← hr] at hsl ⊢
        have HR := Lib.hid hr
        have HBm := Lib.hid hbm
        have HBW := Lib.hid hbw
        clear hr hbm hbw
        by_cases hmt : m < A.length
        · obtain ⟨d, hd⟩ : ∃ d, A[m]? = some d := ⟨A[m]'hmt, List.getElem?_eq_getElem hmt⟩
          have q2 : (0 : Int) ≤ (m : Int) := by omega
          have q3 : (m : Int) < (A.length : Int) := by omega
          have HD := Lib.hid hd
          clear hd b3
          go_wp2_with fail
          refine region_stillG (by kernel_rfl) (by kernel_rfl) ?_
          have hbd := HBm.out.drew
          generalize wr.drew = wd at hbd ⊢
          have hbx := HI.out.below.trans (hbd.mono HI.out.below.size)
          obtain ⟨d2, d3, d4, -, -⟩ := HX.out _ hbx
          obtain ⟨y2, -, y4⟩ := HBt.out _ hbx
          obtain ⟨_, _, e, -, hca⟩ := y2
          cases e
          obtain ⟨ga, fa, rfl, z2⟩ := hca m d HD.out
          obtain ⟨_, _, e, -, hcx⟩ := y4
          cases e
          obtain ⟨gx, fx, rfl, -, z4⟩ := hcx j c HC.out
          clear hca hcx b2 b4 d3
          repeat (refine stillG_step (fun K hK => ?_); go_simp; refine hK.out _ ?_; clear hK K)
          refine stillG_nil ?_
          have HBd := Lib.hid hbd
          clear hbd hbx d2 d4 z2 z4
          by_cases hdc : d = c
          · subst hdc
            have hs := seenAt_yes HNd.out HD.out
            have HS := Lib.hid hs
            have t1 : ((d.toNat : Int) == (d.toNat : Int)) = true := by simp
            clear hs
            go_wp2_with fail
            refine ⟨⟨m + 1, by rw [HS.out], by go_num, by omega, HBd.out⟩, by simp [intOf]; omega⟩
          · have hs := seenAt_no HD.out hdc
            rw [← HR.out] at hs
            have HS := Lib.hid hs
            have t1 : ((d.toNat : Int) == (c.toNat : Int)) = false := by
              simp
              intro e
              exact hdc (UInt8.toNat_inj.1 (by omega))
            clear hs
            go_wp2_with fail
            refine ⟨⟨m + 1, by rw [HS.out], by go_num, by omega, HBd.out⟩, by simp [intOf]; omega⟩
        · obtain rfl : m = A.length := by omega
          have hri : r = Lib.indexByte A c := by rw [HR.out, seenAt, List.take_length]
          have hC : turnC A B c = if Lib.indexByte A c < 0 then [c] else (B[(Lib.indexByte A c).toNat]?).toList := rfl
          rw [← hri] at hC
          have q3 : ¬ (A.length : Int) < (A.length : Int) := by omega
          have hown := (Below.toFrame HBm.out fun _ => False).owns HI.out.own (fun _ _ h => h)
          have HOw := Lib.hid hown
          have hsz := HBW.out.size
          obtain ⟨y2, y3, y4⟩ := HBt.out _ HBW.out
          clear hown hri
          by_cases h0 : r < 0
          · rw [if_pos h0] at hC
            obtain ⟨_, _, e, -, hcx⟩ := y4
            cases e
            obtain ⟨gx, fx, rfl, -, z4⟩ := hcx j c HC.out
            clear hcx y2 y3 hsl
            have hN := byte_new wr c
            have hown := HOw.out.alloc (.cells #[.int .u8 (c).toNat] 5)
            have HN := Lib.hid hN
            have HOwn := Lib.hid hown
            clear hN hown
            go_wp2_with (at_builtin; refine wpList_append_bytes rfl (.tmp 41) (.tmp 47) rfl W0.heap.size _ _ (turnL A B (x.take j)) [c] rfl HOwn.out rfl HN.out (by simp; omega) (by simp; omega) ?_; intro v' w2 hown' hgrow)
            have hb2 := owns_below_of HOwn.out (HBW.out.alloc HBW.out.size _) hgrow
            have HI2 := Lib.hid (show TurnInv A B x W0 v' (j + 1) w2 from ⟨by omega, by rw [HSn.out, hC]; exact hown', hb2⟩)
            clear hown' hgrow hb2
            go_roundw
            case rel => exact ⟨j + 1, _, rfl, by go_num, HI2.out⟩
            case measure => simp [intOf]; omega
          · rw [if_neg h0] at hC
            obtain ⟨n, rfl⟩ : ∃ n : Nat, r = n := ⟨r.toNat, by omega⟩
            obtain ⟨x2, x3, -, -, -⟩ := HX.out _ HBW.out
            by_cases hn : n < B.length
            · have q4 : (n : Int) < (B.length : Int) := by omega
              have q5 : (0 : Int) ≤ (n : Int) := by omega
              obtain ⟨d, hd⟩ : ∃ d, B[n]? = some d := ⟨B[n]'hn, List.getElem?_eq_getElem hn⟩
              obtain ⟨_, _, e, -, hcb⟩ := y3
              cases e
              obtain ⟨gB, fB, rfl, z3⟩ := hcb n d hd
              rw [show (n : Int).toNat = n from rfl, hd, Option.toList_some] at hC
              clear hcb y2 y4 hsl hd
              have hN := byte_new wr d
              have hown := HOw.out.alloc (.cells #[.int .u8 (d).toNat] 5)
              have HN := Lib.hid hN
              have HOwn := Lib.hid hown
              clear hN hown
              go_wp2_with (at_builtin; refine wpList_append_bytes rfl (.tmp 54) (.tmp 60) rfl W0.heap.size _ _ (turnL A B (x.take j)) [d] rfl HOwn.out rfl HN.out (by simp; omega) (by simp; omega) ?_; intro v' w2 hown' hgrow)
              have hb2 := owns_below_of HOwn.out (HBW.out.alloc HBW.out.size _) hgrow
              have HI2 := Lib.hid (show TurnInv A B x W0 v' (j + 1) w2 from ⟨by omega, by rw [HSn.out, hC]; exact hown', hb2⟩)
              clear hown' hgrow hb2
              go_roundw
              case rel => exact ⟨j + 1, _, rfl, by go_num, HI2.out⟩
              case measure => simp [intOf]; omega
            · rw [show B[(n : Int).toNat]? = none from List.getElem?_eq_none (by simp; omega)] at hC
              have q4 : ¬ (n : Int) < (B.length : Int) := by omega
              have HI2 := Lib.hid (show TurnInv A B x W0 (.slice oa (turnL A B (x.take j)).length oc) (j + 1) wr from ⟨by omega, by rw [HSn.out, hC, Option.toList_none, List.append_nil]; exact HOw.out, HBW.out⟩)
              clear y2 y3 y4 hsl hC
              go_wp2_with fail
              go_roundw
              case rel => exact ⟨j + 1, _, rfl, by go_num, HI2.out⟩
              case measure => simp [intOf]; omega
    · obtain rfl : j = x.length := by omega
      have q1 : ¬ (x.length : Int) < (x.length : Int) := by omega
      have hown := HI.out.own
      rw [List.take_length] at hown hll ⊢
      obtain ⟨m, hm⟩ : ∃ m, m = (turnL A B x).length := ⟨_, rfl⟩
      rw [← hm] at hll hown ⊢
      have hbs : IsBytes (W0.heap.size ≤ ·) wr (.slice oa m oc) (turnL A B x) := by
        have := isBytes_of_owns (b := turnL A B x) (v := .slice oa m oc) (w := wr) (base := W0.heap.size) (by rw [← hm]; exact hown)
        exact this
      have kc := conv_any hbs
      have hout := out_any (turnL A B x) ended e1 e2 e3 wr
      obtain ⟨SO, hSO⟩ : ∃ S : ByteArray, strV (turnL A B x) = .string S := ⟨_, rfl⟩
      rw [hSO] at kc hout
      have HOut := Lib.hid hout
      clear hbs hout hSO hown hm b2 b3
      go_wp2_with (first | (refine wpList_load_mid rfl 59 _ rfl (w.heap.size + 1) 2 rfl _ _ b6 Tryd.underlying59 rfl (by kernel_rfl) ?_))
      refine HOut.out.mono ?_
      rintro e w5 h5
      have h6 : OutEnd wr T e w5 := by rw [HT.out]; exact h5
      obtain ⟨v, rfl, hs, hb⟩ := h6.lower (HB1.out _ HI.out.below)
      have HS := Lib.hid hs
      have HBB := Lib.hid hb
      clear hs hb h5 h6
      go_wp2_with fail
      go_ret
      exact ⟨v, rfl, by rw [← HT.out]; exact HS.out, HBB.out⟩

/-! What turn comes to is what the document says. -/
theorem turn_case (N : Nat) (A B : List UInt8) (i : Strm) (g : GotL) (h1 : g.outs = (turnFin N A B i).outs) (h2 : g.need = (turnFin N A B i).need) (h3 : g.err = (turnFin N A B i).err) :
    g.outs 0 = (turnWant N A B i).bytes ∧ g.outs 1 = [] ∧ g.outs 2 = [] ∧ g.outs 3 = [] ∧ SameCase g [i] (turnWant N A B i) := by
  refine ⟨by rw [h1]; rfl, by rw [h1]; rfl, by rw [h1]; rfl, by rw [h1]; rfl, ?_⟩
  unfold SameCase turnWant
  simp only
  cases he : i.ended with
  | true => exact .inl ⟨rfl, by rw [h2, turnFin, he]; rfl, by rw [h3]; rfl⟩
  | false => exact .inr (.inr ⟨rfl, by rw [h3]; rfl, 0, i, by rw [h2, turnFin, he]; rfl, rfl, by simp, by simp, by simp⟩)

end Go.Proofs.YtacmbjamnmpmoaaDoor
