/- LineCuts: the walk. -/
import Derived.Test.YtgpholcooabbfaaLong
namespace Go.Proofs.Ytgpholcooabbfaa
open Go.RowKit

/-- Both splitters are in one state. -/
def Match (f : Bool) (b A : List UInt8) (told : Nat) : Prop := (f = false ∧ ∃ L, cutL [] A = (L, some b) ∧ told = L.length) ∨ (f = true ∧ (cutL [] A).2 = none)
theorem Match.rest {f : Bool} {b A : List UInt8} {told : Nat} (h : Match f b A told) (hf : f = true → b = []) : (cutL [] A).2.getD [] = b := by
  rcases h with ⟨rfl, L, h, _⟩ | ⟨rfl, h⟩
  · rw [h]; rfl
  · rw [h, hf rfl]; rfl
theorem isEmpty_of_ne {b : List UInt8} (h : b ≠ []) : b.isEmpty = false := by
  cases b with
  | nil => exact absurd rfl h
  | cons c r => rfl
theorem cell_below {w w' : World} (hb : Below w.heap.size w w') {a : Addr} {v : Value} (h : w.cell? a = some v) : w'.cell? a = some v := by rw [hb.cell (block_lt_of_cell h), h]
/-- What Cut answers. -/
def outL (f : Bool) (b x : List UInt8) : Lines := if f then [] else (cutL b x).1
def outO (f : Bool) (b x : List UInt8) : Option (List UInt8) := if f then none else (cutL b x).2
theorem cut_both (g : Nat) (f : Bool) (b : List UInt8) (v : Value) (bs : List UInt8) (w : World) (h : Spl g f b w) (hB : IsBytes (· ≠ g) w v bs) (hsz : bs.length ≤ 1000000) :
    Calls Try.prog 12 #[.pointer (some ⟨g, 0, none⟩), v] w (CutEnd g w (outL f b bs) (outO f b bs)) := by
  cases f with
  | false => exact cut_any g b v bs w h hB hsz
  | true =>
    refine (cut_failed g b v w h).mono ?_
    rintro e w' ⟨rfl, rfl⟩
    have hb := h.fail rfl
    subst hb
    exact ⟨_, rfl, World.ownsRow_nil _ _ 9 1, h, Frame.refl _ _⟩
theorem refCut_both {p : Nat → Prop} (g told : Nat) (A : List UInt8) (f : Bool) (b : List UInt8) (av v : Value) (bs : List UInt8) (w : World) (h : RSpl g A told f av w) (hB : IsBytes p w v bs) (hsz : A.length + bs.length ≤ 1000000) (hM : Match f b A told) :
    Calls Try.prog 13 #[.pointer (some ⟨g, 0, none⟩), v] w fun e w' => ∃ yv av' A' told', e = .returned (.tuple #[yv, .bool (outO f b bs).isNone]) ∧ IsTexts (w.heap.size ≤ ·) w' yv (outL f b bs) ∧
      RSpl g A' told' (outO f b bs).isNone av' w' ∧ A'.length ≤ A.length + bs.length ∧ Match (outO f b bs).isNone ((outO f b bs).getD []) A' told' ∧ Frame (fun k => k = g ∨ av.ownBlock = some k) w w' := by
  rcases hM with ⟨rfl, L, hcut, rfl⟩ | ⟨rfl, hcut⟩
  · have hca := cutL_append A bs []
    rw [hcut] at hca
    simp only at hca
    refine (refCut_any g L.length A av v bs w h hB hsz (by rw [hca]; simp)).mono ?_
    rintro e w' ⟨yv, av', rfl, hy, hr, hf⟩
    rw [hca] at hy hr
    simp only [List.drop_left] at hy
    refine ⟨yv, av', A ++ bs, _, by rw [hca]; rfl, hy, hr, by simp, ?_, hf⟩
    unfold Match outO
    cases ho : (cutL b bs).2 with
    | none => right; simp [hca, ho]
    | some d => left; simp [hca, ho]
  · refine (refCut_failed g told A av v w h).mono ?_
    rintro e w' ⟨rfl, rfl⟩
    exact ⟨_, av, A, told, rfl, ⟨none, 0, rfl, fun j b hj => by simp [outL] at hj⟩, h, by omega, .inr ⟨rfl, hcut⟩, Frame.refl _ _⟩

theorem outL_count (f : Bool) (b x : List UInt8) : (outL f b x).length ≤ x.length := by
  unfold outL
  cases f
  · exact cutL_count x b
  · simp
/-- While the copy's bytes are turned one by one. -/
def BInv (gB : Nat) (x : List UInt8) (q : Nat) (W : World) : Prop := ∃ cur, W.heap[gB]? = some (.cells cur 5 (0, 0)) ∧ ∀ (j : Nat) c, q ≤ j → x[j]? = some c → cur[j]? = some (.int .u8 c.toNat)
theorem BInv.cell {gB : Nat} {x : List UInt8} {q : Nat} {W : World} (h : BInv gB x q W) {c : UInt8} (hc : x[q]? = some c) : W.cell? ⟨gB, q, none⟩ = some (.int .u8 c.toNat) ∧ W.frozen? ⟨gB, q, none⟩ = false := by
  obtain ⟨cur, h1, h2⟩ := h
  exact ⟨by rw [cell_of_row _ _ _ _ _ _ h1]; exact h2 q c (Nat.le_refl _) hc, frozen_of_row _ _ _ _ _ h1⟩
theorem BInv.next {gB : Nat} {x : List UInt8} {q : Nat} {W : World} (h : BInv gB x q W) (v : Value) : BInv gB x (q + 1) (W.setCell ⟨gB, q, none⟩ v) := by
  obtain ⟨cur, h1, h2⟩ := h
  refine ⟨_, setCell_row h1 q v, fun j c hj hc => ?_⟩
  rw [Array.getElem?_setIfInBounds, if_neg (by omega)]
  exact h2 j c (by omega) hc
theorem binv_of_owns {base gB cap : Nat} {x : List UInt8} {W : World} {n : Nat} (h : W.ownsRow base 5 1 (.slice (some ⟨gB, 0, none⟩) n cap) x.length (bytesL x)) : BInv gB x 0 W := by
  have h' := h
  rcases h.2 with ⟨e, _⟩ | ⟨g, c2, cur, e, _, hh, _⟩
  · cases e
  · cases e
    refine ⟨cur, hh, fun j c _ hj => ?_⟩
    have := World.ownsRow.cells h' (g := gB) rfl j (.int .u8 c.toNat) (by simp [bytesL, hj])
    rw [Addr.add_mid, Nat.zero_add, cell_of_row _ _ _ _ _ _ hh] at this
    exact this

/-- What holds between the calls. -/
structure CInv (w : World) (m : Nat) (wr : World) : Prop where
  ex : ∃ f b A told av, Spl w.heap.size f b wr ∧ RSpl (w.heap.size + 1) A told f av wr ∧ A.length ≤ m ∧ Match f b A told
  bel : Below w.heap.size w wr

set_option maxRecDepth 100000 in
set_option maxHeartbeats 2000000 in
theorem cuts_yes (v : Value) (r : Int) (ps : List (List UInt8)) (w : World) (hP : IsPieces (· < w.heap.size) w v ps) (sP : Sized ps) : Calls Try.prog 3 #[v, .int .u64 r] w (TrueBelow w) := by
  have HP := Lib.hid hP
  obtain ⟨a, cap, rfl, -⟩ := hP
  have hI : CInv w 0 ((w.alloc (.cells (splA false []) 29)).alloc (.cells #[.slice none 0 0, .int .i64 0, .bool false] 33)) := by
    refine ⟨⟨false, [], [], 0, .slice none 0 0, ⟨heap_alloc2_old w _ _, by simp, fun h => by cases h⟩, ⟨heap_alloc2_new w _ _, World.ownsRow_nil _ _ 5 1⟩, by simp, .inl ⟨rfl, [], rfl, rfl⟩⟩, ((Below.refl _ _).alloc (Nat.le_refl _) _).alloc (by simp) _⟩
  have HI := Lib.hid hI
  clear hI
  go_enter Try.func3, Try.ntmps3
  go_wp2_with fail
  refine (long_any _ ps w HP.out sP).mono ?_
  rintro e w' ⟨bl, rfl, hshort, rfl⟩
  cases bl with
  | true =>
    go_wp2_with fail
    refine (awake_true _).mono ?_
    rintro e w' ⟨rfl, hb⟩
    go_wp2_with fail
    go_ret
    exact ⟨rfl, hb⟩
  | false =>
    obtain ⟨hn, htot⟩ := hshort rfl
    clear hshort
    go_wp2_with (with_reducible refine wpList_build0 rfl 29 rfl (splA false []) Try.built29_zero ?_)
    have hI := HI.out
    clear HI
    generalize (w.alloc (.cells (splA false []) 29)).alloc (.cells #[.slice none 0 0, .int .i64 0, .bool false] 33) = W1 at hI ⊢
    go_loopw [7] (fun i wr => ∃ k : Nat, k ≤ ps.length ∧ i = .int .i64 k ∧ CInv w (ps.take k).flatten.length wr) (fun i _ => ps.length - (intOf i).toNat)
    case atStart => exact ⟨0, Nat.zero_le _, rfl, by simpa using hI⟩
    case round =>
      clear hI
      obtain ⟨k, hk, rfl, hC⟩ := hrel
      by_cases hlt : k < ps.length
      · have g1 : (0 : Int) ≤ (k : Int) := by omega
        have g2 : (k : Int) < (ps.length : Int) := by omega
        go_upto_if 36 with fail
        go_cut [7] (fun i W => i = .int .i64 k ∧ CInv w (ps.take k).flatten.length W)
        case first =>
          generalize (bits BinOp.and IntKind.u64 (r / 2 ^ (k % 64)) 1 == 1) = bit
          cases bit with
          | false =>
            go_wp2_with fail
            go_meet
            case rel => exact ⟨rfl, hC⟩
          | true =>
            obtain ⟨⟨f, b, A, told, av, hs, hr, hA, hm⟩, hbel⟩ := hC
            have hfl := flat_le ps k
            have hrest := hm.rest hs.fail
            have hof : ∀ k, av.ownBlock = some k → w.heap.size + 1 < k := fun k e => (hr.own.lt k e).1
            have HS := Lib.hid hs
            have HR := Lib.hid hr
            have HM := Lib.hid hm
            have HRE := Lib.hid hrest
            clear hs hr hm hrest
            go_wp2_with fail
            refine (rest_any w.heap.size f b _ HS.out).mono ?_
            rintro e w1 ⟨rfl, hs1, hf1⟩
            have hr1 := HR.out.frame hf1 (by omega) (fun k e h => by have := hof k e; omega)
            have hbel1 := hbel.trans (hf1.below hbel.size (fun k e => by omega))
            have HS1 := Lib.hid hs1
            have HR1 := Lib.hid hr1
            clear hs1 hr1 hf1
            obtain ⟨S, hS⟩ : ∃ S : ByteArray, strV b = .string S := ⟨_, rfl⟩
            by_cases hb : b = []
            · subst hb
              rw [hS]
              simp only [List.isEmpty_nil, Bool.not_true]
              have HSS := Lib.hid hS
              clear hS
              go_wp2_with fail
              refine (refRest_none (w.heap.size + 1) told A f av w1 HR1.out (by omega) HRE.out).mono ?_
              rintro e w2 ⟨rfl, hr2, hf2⟩
              rw [HSS.out]
              have hs2 := HS1.out.frame hf2 (by omega)
              have hbel2 := hbel1.trans (hf2.below hbel1.size (fun k e => by omega))
              have HS2 := Lib.hid hs2
              have HR2 := Lib.hid hr2
              clear hs2 hr2 hf2
              go_wp2_with fail
              go_meet
              case rel => exact ⟨rfl, ⟨f, [], A, told, av, HS2.out, HR2.out, hA, HM.out⟩, hbel2⟩
            · have he : b.isEmpty = false := isEmpty_of_ne hb
              have hff : f = false := by
                cases f
                · rfl
                · exact absurd (HS.out.fail rfl) hb
              subst hff
              rw [hS, he]
              simp only [Bool.not_false]
              have HSS := Lib.hid hS
              have HNB := Lib.hid hb
              clear hS he hb
              go_wp2_with fail
              refine (refRest_some (w.heap.size + 1) told A b false av w1 HR1.out (by omega) HRE.out HNB.out).mono ?_
              rintro e w2 ⟨rfl, hr2, hf2⟩
              rw [HSS.out]
              have hs2 := HS1.out.frame hf2 (by omega)
              have hbel2 := hbel1.trans (hf2.below hbel1.size (fun k e => by omega))
              have HS2 := Lib.hid hs2
              have HR2 := Lib.hid hr2
              clear hs2 hr2 hf2
              go_wp2_with fail
              go_meet
              case rel => exact ⟨rfl, ⟨false, [], [], 0, _, HS2.out, HR2.out, by simp, .inl ⟨rfl, [], rfl, rfl⟩⟩, hbel2⟩
        case rest =>
          obtain ⟨rfl, hC⟩ := hcut
          obtain ⟨⟨f, b, A, told, av, hs, hr, hA, hm⟩, hbel⟩ := hC
          obtain ⟨x, hx⟩ : ∃ x, ps[k]? = some x := ⟨ps[k], by simp⟩
          have hfl := flat_le ps (k + 1)
          have htf := take_flat hx
          rw [htf, List.length_append] at hfl
          obtain ⟨_, _, e, hcell⟩ := HP.out.below hbel
          cases e
          obtain ⟨gb, off, bv, rfl, hgb, hc, hbv⟩ := hcell k x hx
          have hsl : ∃ a c, bv = .slice a x.length c := by obtain ⟨a, c, rfl, _⟩ := hbv; exact ⟨a, c, rfl⟩
          obtain ⟨a3, c3, rfl⟩ := hsl
          have hof : ∀ k, av.ownBlock = some k → w.heap.size + 1 < k ∧ k < wc.heap.size := fun k e => hr.own.lt k e
          have hltm := hr.lt
          have hA' : A.length + x.length ≤ (ps.take (k + 1)).flatten.length := by rw [htf, List.length_append]; omega
          have HS := Lib.hid hs
          have HR := Lib.hid hr
          have HM := Lib.hid hm
          have HV := Lib.hid hbv
          have HA := Lib.hid hA'
          have hcB := fun o => cell_below (w' := wc.alloc o) ((Below.refl _ _).alloc (Nat.le_refl _) _) hc
          have HMk := Lib.hid (World.ownsRow_made (base := wc.heap.size) (e := 5) (size := 1) wc #[] 0 (Nat.le_refl _) (by decide) rfl)
          clear hs hr hm hbv hA' hcell hx htf
          go_upto_region 13 with (at_builtin; refine wpList_append_bytes rfl (.tmp 55) (.tmp 59) rfl wc.heap.size _ _ [] x rfl HMk.out rfl (HV.out.below ((Below.refl _ _).alloc (Nat.le_refl _) _)) (by simp; omega) (by simp) ?_; intro v1 w1 hown1 hgrow1)
          simp only [List.nil_append] at hown1
          obtain ⟨a1, c1, rfl⟩ := owns_slice hown1
          have hb1 : Below wc.heap.size wc w1 := ((Below.refl _ _).alloc (Nat.le_refl _) _).grown hgrow1 (by simp) (fun k e => by cases e; exact Nat.le_refl _)
          have hs1 := HS.out.frame (Below.toFrame hb1 (fun _ => False)) (fun h => h)
          have hr1 := HR.out.below hb1
          have hbel1 := hbel.trans (hb1.mono hbel.size)
          have hv1 := HV.out.below hb1
          have hc1 := cell_below hb1 hc
          have hB1 := isBytes_of_owns hown1
          have hw1 := hb1.size
          have hbk : ∀ k, (Value.slice a1 x.length c1).ownBlock = some k → k < w1.heap.size := fun k e => (hown1.lt k e).2
          have HO1 := Lib.hid hown1
          have HS1 := Lib.hid hs1
          have HR1 := Lib.hid hr1
          have HV1 := Lib.hid hv1
          have HB1 := Lib.hid hB1
          clear hown1 hs1 hr1 hv1 hB1 hgrow1 HS HR HV HMk hb1 hc hcB hbel
          go_wp2_with fail
          refine (cut_both w.heap.size f b _ x w1 HS1.out (HB1.out.mono (fun k _ h => by omega)) (by omega)).mono ?_
          rintro e w2 ⟨lv, rfl, ho2, hs2, hf2⟩
          obtain ⟨LL, hLL⟩ : ∃ LL, LL = outL f b x := ⟨_, rfl⟩
          obtain ⟨o, hoo⟩ : ∃ o, o = outO f b x := ⟨_, rfl⟩
          rw [← hLL] at ho2
          rw [← hoo] at hs2 ⊢
          obtain ⟨E, hE⟩ : ∃ E : Int, E = if o = none then 20 else 0 := ⟨_, rfl⟩
          rw [← hE]
          have HEE := Lib.hid hE
          clear hE
          obtain ⟨al, cl, rfl⟩ := owns_slice ho2
          have hr2 := HR1.out.frame hf2 (by omega) (fun k e h => by have := hof k e; omega)
          have hbel2 := hbel1.trans (hf2.below hbel1.size (fun k e => by omega))
          have hv2 := HV1.out.frame hf2 (fun k h => by omega)
          have hB2 := HB1.out.frame hf2 (fun k h e => by omega)
          have hc2 := hf2.cell? hc1 (fun e => by simp at e; omega)
          have hown2 := hf2.owns HO1.out (fun k e h => by have := (HO1.out.lt k e).1; omega)
          have hw2 := hf2.size
          have HLL := Lib.hid hLL
          have HOO := Lib.hid hoo
          have HX2 := Lib.hid ho2
          have HS2 := Lib.hid hs2
          have HR2 := Lib.hid hr2
          have HV2 := Lib.hid hv2
          have HO2 := Lib.hid hown2
          have hcv1 := fun (n : Nat) => conv_any (W := w2.drewN n) (hB2.below (Quiet.below ⟨n, rfl⟩ _))
          have hcv2 := fun (n : Nat) => conv_any (W := w2.drewN n) (hv2.below (Quiet.below ⟨n, rfl⟩ _))
          obtain ⟨S, hS⟩ : ∃ S : ByteArray, strV x = .string S := ⟨_, rfl⟩
          rw [hS] at hcv1 hcv2
          have hcv10 := hcv1 0
          have hcv20 := hcv2 0
          clear hLL hoo ho2 hs2 hr2 hv2 hown2 hf2 hc1 hS HO1 HS1 HR1 HV1 HB1 hbel1 hB2
          go_upto_region 14 with fail
          go_quiet (fail)
          have hbel3 : Below w.heap.size w (w2.drewN nq) := hbel2.trans (Quiet.below ⟨nq, rfl⟩ _)
          have hq3 : Below w2.heap.size w2 (w2.drewN nq) := Quiet.below ⟨nq, rfl⟩ _
          have hs3 := HS2.out.frame (Below.toFrame hq3 (fun _ => False)) (fun h => h)
          have hr3 := HR2.out.below hq3
          have hv3 := HV2.out.below hq3
          have hx3 := isTexts_of_owns ((Below.toFrame hq3 (fun _ => False)).owns HX2.out (fun _ _ h => h))
          have hown3 := (Below.toFrame hq3 (fun _ => False)).owns HO2.out (fun _ _ h => h)
          have hc3 := cell_below hq3 hc2
          have hw3 : w2.heap.size = (w2.drewN nq).heap.size := rfl
          clear hcv1 hcv2 hcv10 hcv20 hq3 HS2 HR2 HV2 HX2 HO2 hc2 hbel2
          generalize w2.drewN nq = W3 at hbel3 hs3 hr3 hv3 hx3 hown3 hc3 hw3 ⊢
          have HS3 := Lib.hid hs3
          have HR3 := Lib.hid hr3
          have HV3 := Lib.hid hv3
          have HX3 := Lib.hid hx3
          have HC3 := Lib.hid hc3
          have hblt : ∀ k, (Value.slice a1 x.length c1).ownBlock = some k → wc.heap.size ≤ k ∧ k < w1.heap.size := fun k e => ⟨(hown3.lt k e).1, hbk k e⟩
          have hBI : ∀ gB, a1 = some ⟨gB, 0, none⟩ → BInv gB x 0 W3 := fun gB e => by subst e; exact binv_of_owns hown3
          have ha1 : a1 = none ∧ x.length = 0 ∨ ∃ gB, a1 = some ⟨gB, 0, none⟩ := by
            rcases hown3.2 with ⟨e, e2⟩ | ⟨g, c2, cur, e, _⟩
            · simp only [Value.slice.injEq] at e
              exact .inl ⟨e.1, e2⟩
            · simp only [Value.slice.injEq] at e
              exact .inr ⟨g, e.1⟩
          have HBI := Lib.hid hBI
          have HA1 := Lib.hid ha1
          clear hs3 hr3 hv3 hx3 hc3 hown3 hBI ha1
          go_wp2
          go_loopw [15] (fun j W => ∃ q : Nat, q ≤ x.length ∧ j = .int .i64 q ∧ Frame (fun k => (Value.slice a1 x.length c1).ownBlock = some k) W3 W ∧ ∀ gB, a1 = some ⟨gB, 0, none⟩ → BInv gB x q W) (fun j _ => x.length - (intOf j).toNat)
          case atStart => exact ⟨0, Nat.zero_le _, rfl, Frame.refl _ _, HBI.out⟩
          case round =>
            obtain ⟨q, hq, rfl, hfq, hbq⟩ := hrel
            by_cases hql : q < x.length
            · obtain ⟨c, hcx⟩ : ∃ c, x[q]? = some c := ⟨x[q], by simp⟩
              rcases HA1.out with ⟨_, h0⟩ | ⟨gB, rfl⟩
              · omega
              have hbg := hbq gB rfl
              obtain ⟨hcc, hff⟩ := hbg.cell hcx
              have HBG := Lib.hid hbg
              have q1 : (0 : Int) ≤ (q : Int) := by omega
              have q2 : (q : Int) < (x.length : Int) := by omega
              clear hbg hbq hcx
              go_wp2
              exact ⟨⟨q + 1, by omega, by go_num, hfq.trans ((Frame.cell _ ⟨gB, q, none⟩ _).mono (fun k _ e => by subst e; rfl)), fun g e => by cases e; exact HBG.out.next _⟩, by simp [intOf]; omega⟩
            · have q2 : ¬ (q : Int) < (x.length : Int) := by omega
              clear hql
              go_upto_region 20 with fail
              have hs4 := HS3.out.frame hfq (fun e => by have := (hblt _ e).1; omega)
              have hr4 := HR3.out.frame hfq (fun e => by have := (hblt _ e).1; omega) (fun k e h => by have := (hblt _ h).1; have := (hof k e).2; omega)
              have hv4 := HV3.out.frame hfq (fun k hk e => by have := (hblt _ e).1; omega)
              have hx4 := HX3.out.frame hfq (fun k hk e => by have := (hblt _ e).2; omega)
              have hc4 := hfq.cell? HC3.out (fun e => by have := (hblt _ e).1; simp at this; omega)
              have hbel4 := hbel3.trans (hfq.below hbel3.size (fun k e => by have := (hblt _ e).1; omega))
              have hLc := outL_count f b x
              rw [← HLL.out] at hLc
              have HS4 := Lib.hid hs4
              have HR4 := Lib.hid hr4
              have HV4 := Lib.hid hv4
              have HX4 := Lib.hid hx4
              clear hs4 hr4 hv4 hx4 hfq hbq HS3 HR3 HV3 HX3 HC3 hbel3 HBI
              go_wp2_with fail
              refine (refCut_both (w.heap.size + 1) told A f b av _ x wr HR4.out HV4.out (by omega) HM.out).mono ?_
              rintro e w5 ⟨yv, av', A', told', rfl, hy, hr5, hA5, hm5, hf5⟩
              rw [← HLL.out] at hy
              rw [← HOO.out] at hr5 hm5 ⊢
              have hs5 := HS4.out.frame hf5 (fun e => e.elim (fun e => by omega) (fun e => by have := (hof _ e).1; omega))
              have hx5 := HX4.out.frame hf5 (fun k hk e => e.elim (fun e => by omega) (fun e => by have := (hof _ e).2; omega))
              have hbel5 := hbel4.trans (hf5.below hbel4.size (fun k e => e.elim (fun e => by omega) (fun e => by have := (hof _ e).1; omega)))
              have hyv : ∃ a c, yv = .slice a LL.length c := by obtain ⟨a, c, e, _⟩ := hy; exact ⟨a, c, e⟩
              obtain ⟨ay, cy, rfl⟩ := hyv
              have hA6 : A'.length ≤ (ps.take (k + 1)).flatten.length := Nat.le_trans hA5 HA.out
              have hfl6 := flat_le ps (k + 1)
              have HS5 := Lib.hid hs5
              have HR5 := Lib.hid hr5
              have HX5 := Lib.hid hx5
              have HY5 := Lib.hid hy
              have HM5 := Lib.hid hm5
              clear hs5 hr5 hx5 hy hm5 hf5 HS4 HR4 HV4 HX4 hbel4 hc4 hA5
              go_wp2_with fail
              refine (same_true _ _ LL w5 (by omega) HX5.out HY5.out).mono ?_
              rintro e w6 ⟨rfl, n6, rfl⟩
              have hq6 : Below w5.heap.size w5 (w5.drewN n6) := Quiet.below ⟨n6, rfl⟩ _
              have hs6 := HS5.out.frame (Below.toFrame hq6 (fun _ => False)) (fun h => h)
              have hr6 := HR5.out.below hq6
              have hbel6 := hbel5.trans (hq6.mono hbel5.size)
              have HS6 := Lib.hid hs6
              have HR6 := Lib.hid hr6
              clear hs6 hr6 hq6 HS5 HR5 HX5 HY5 hbel5
              generalize w5.drewN n6 = W6 at HS6 HR6 hbel6 ⊢
              have hrest := HM5.out.rest HS6.out.fail
              have HRE := Lib.hid hrest
              clear hrest
              cases o with
              | none =>
                obtain rfl : E = 20 := by have := HEE.out; simpa using this
                simp only [Option.isNone_none, Option.getD_none] at HS6 HR6 HM5 HRE ⊢
                go_wp2_with fail
                refine (begun_any w.heap.size true [] W6 HS6.out).mono ?_
                rintro e w' ⟨rfl, rfl⟩
                go_wp2_with fail
                exact ⟨⟨k + 1, by omega, by go_num, ⟨true, [], A', told', av', HS6.out, HR6.out, hA6, HM5.out⟩, hbel6⟩, by simp [intOf]; omega⟩
              | some d =>
                obtain rfl : E = 0 := by have := HEE.out; simpa using this
                simp only [Option.isNone_some, Option.getD_some] at HS6 HR6 HM5 HRE ⊢
                go_wp2_with fail
                refine (begun_any w.heap.size false d W6 HS6.out).mono ?_
                rintro e w' ⟨rfl, rfl⟩
                go_wp2_with fail
                refine (refBegun_any (w.heap.size + 1) told' A' d false av' w' HR6.out (by omega) HRE.out).mono ?_
                rintro e w7 ⟨rfl, hb7⟩
                go_wp2_with fail
                exact ⟨⟨k + 1, by omega, by go_num, ⟨false, d, A', told', av', HS6.out.frame (Below.toFrame hb7 (fun _ => False)) (fun h => h), HR6.out.below hb7, hA6, HM5.out⟩, hbel6.trans (hb7.mono hbel6.size)⟩, by simp [intOf]; omega⟩
      · have g2 : ¬ (k : Int) < (ps.length : Int) := by omega
        go_wp2_with fail
        refine (awake_true _).mono ?_
        rintro e w' ⟨rfl, hb⟩
        go_wp2_with fail
        go_ret
        exact ⟨rfl, hC.bel.trans (hb.mono hC.bel.size)⟩

end Go.Proofs.Ytgpholcooabbfaa
