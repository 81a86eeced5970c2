/- SpoolSorts's walk. -/
import Derived.Test.YtpgigpajpcianaaGreatDoorSpHolds
import Derived.Test.YtpgigpajpcianaaGreatDoorSpsorted
import Derived.Test.YtpgigpajpcianaaGreatDoorSptimes
import Derived.Test.YtpgigpajpcianaaGreatDoorMany
import Derived.Lib.ConvBytes
namespace Go.Proofs.YtpgigpajpcianaaGreatDoor
open Go.RowKit

theorem field_lines (la : Option Addr) (n lc : Nat) (b : Bool) (x1 x2 x3 : Int) (W : World) : (Instr.field 70 (.agg #[.slice la n lc, .bool b, .int .i64 x1, .int .i64 x2, .int .i64 x3]) 0).run Tryz.prog W = .ok (.slice la n lc) W := by
  simp [go_sem, Instr.field, part, asAgg]
theorem sortRep.smallD {F : Bool} {S : Script} {base h g gd : Nat} {s : SpS} {own : Nat → Prop} {w : World} (hr : sortRep F S base h g gd s own w) : SmallD 300100 17000 s.x.d := by
  obtain ⟨lab, ownD, Bs, o, h1, h2, h3, h4, h5, rfl⟩ := hr
  exact h5.small
set_option maxRecDepth 100000 in
set_option maxHeartbeats 16000000 in
theorem spSortsLaw_any (k n : Int) (hn : Pm.Fits n) (va vb xv cv : Value) (A B : List UInt8) (X : List UInt8) (cuts : List Int) (w : World) (hT : MaxTab w) (hA : Pm.IsBytes w va A) (hB : Pm.IsBytes w vb B) (hX : IsBytes (· < w.heap.size) w xv X) (hC : IsInts (· < w.heap.size) w cv cuts) :
    Calls Tryz.prog 7 #[Pm.parV k n va vb, xv, cv] w (Pm.Gives w (.bool true)) := by
  have HT := Lib.hid (show ∀ W, Below w.heap.size w W → MaxTab W from fun W hb => hT.below hb)
  have HA := Lib.hid (show ∀ W, Below w.heap.size w W → Pm.IsBytes W va A from fun W hb => hA.below hb)
  have HB := Lib.hid (show ∀ W, Below w.heap.size w W → Pm.IsBytes W vb B from fun W hb => hB.below hb)
  have HX := Lib.hid (show ∀ W, Below w.heap.size w W → IsBytes (· < w.heap.size) W xv X from fun W hb => hX.below hb)
  have HC := Lib.hid (show ∀ W, Below w.heap.size w W → IsInts (· < w.heap.size) W cv cuts from fun W hb => hC.below hb)
  obtain ⟨i, hi⟩ : ∃ i : Strm, i = ⟨X, true, 0, 0, 0⟩ := ⟨_, rfl⟩
  obtain ⟨H, hH⟩ : ∃ H, H = heavyS A B [i] [] [cuts] := ⟨_, rfl⟩
  obtain ⟨G, hG⟩ : ∃ G, G = fitS k n A B [i] := ⟨_, rfl⟩
  have HH := Lib.hid hH
  have HG := Lib.hid hG
  have HIs := Lib.hid hi
  obtain ⟨ax, cx, hxv, -⟩ := id hX
  obtain ⟨ac, cc, hcv, -⟩ := id hC
  subst hxv hcv
  clear hT hA hB hX hC hH hG hi
  unfold Pm.parV
  go_enter Tryz.func7, Tryz.ntmps7
  go_wp2_with fail
  have hbox : Below w.heap.size w (w.alloc (.cells #[.int .i64 k, .int .i64 n, va, vb] 24)) := (Below.refl _ _).alloc (Nat.le_refl _) _
  have hbx1 : Below w.heap.size w ((w.alloc (.cells #[.int .i64 k, .int .i64 n, va, vb] 24)).alloc (.cells #[.slice ax X.length cx, .bool true, .int .i64 0, .int .i64 0, .int .i64 0] 59)) := hbox.alloc (by simp) _
  have hbx2 : Below w.heap.size w (((w.alloc (.cells #[.int .i64 k, .int .i64 n, va, vb] 24)).alloc (.cells #[.slice ax X.length cx, .bool true, .int .i64 0, .int .i64 0, .int .i64 0] 59)).alloc (.cells #[.slice ac cuts.length cc] 38)) := hbx1.alloc (by simp; omega) _
  have hst := strms_new (w.alloc (.cells #[.int .i64 k, .int .i64 n, va, vb] 24)) (.slice ax X.length cx) i (fun k => k < w.heap.size + 2) (by simp) (by rw [HIs.out]; exact (HX.out _ hbox).mono (fun k _ h => by omega)) (0, 0)
  rw [HIs.out] at hst
  rw [World.size_alloc] at hst
  have hst2 := hst.below ((Below.refl _ _).alloc (Nat.le_refl _) (.cells #[.slice ac cuts.length cc] 38))
  have hcc := ints_list ((w.alloc (.cells #[.int .i64 k, .int .i64 n, va, vb] 24)).alloc (.cells #[.slice ax X.length cx, .bool true, .int .i64 0, .int .i64 0, .int .i64 0] 59)) (.slice ac cuts.length cc) cuts (fun _ => True) trivial ((HC.out _ hbx1).mono (fun _ _ _ => trivial)) (0, 0)
  rw [World.size_alloc, World.size_alloc] at hcc
  have hheavy := heavySp_any k n va vb _ (.slice none 0 0) _ A B [i] [] [cuts] _ (HA.out _ hbx2) (HB.out _ hbx2) (by rw [HIs.out]; exact hst2) (script_nil _) hcc (by simp)
  unfold Pm.parV at hheavy
  refine hheavy.mono ?_
  clear hheavy hcc hst
  rintro e w1 ⟨rfl, hb1⟩
  obtain ⟨c0, c1, c2, c3⟩ := box_cells (((((Below.refl _ _).alloc (Nat.le_refl _) _).alloc (by simp) _)).trans (hb1.mono (by simp)))
  have HI := Lib.hid (show ∀ W, Below w1.heap.size w1 W → IsStrms (fun k => k < w.heap.size + 2) W (.slice (some ⟨w.heap.size + 1, 0, none⟩) 1 1) [i] from fun W hb => by rw [HIs.out]; exact (hst2.below hb1).below hb)
  have hb := hbx2.trans (hb1.mono hbx2.size)
  have HW := Lib.hid hb
  have HLow := Lib.hid (show w.heap.size + 2 ≤ w1.heap.size by have := hb1.size; simp at this; omega)
  clear hbox hbx1 hbx2 hb1 hb hst2
  rw [← HH.out]
  cases H with
  | true =>
    go_wp2_with fail
    refine (awakeSp_true _ (HT.out _ HW.out)).mono ?_
    rintro e w2 ⟨rfl, hb2⟩
    go_wp2_with fail
    go_ret
    exact ⟨rfl, HW.out.trans (hb2.mono HW.out.size)⟩
  | false =>
    obtain ⟨sA, sB, -, -, sI, sC⟩ := heavyS_no HH.out.symm
    have hlen := sI i (by simp)
    have hcl := sC cuts (by simp)
    have HBX := Lib.hid (show ∀ W, Below w1.heap.size w1 W → W.cell? ⟨w.heap.size, 0, none⟩ = some (.int .i64 k) ∧ W.cell? ⟨w.heap.size, 1, none⟩ = some (.int .i64 n) ∧ W.cell? ⟨w.heap.size, 2, none⟩ = some va ∧ W.cell? ⟨w.heap.size, 3, none⟩ = some vb from fun W hb => ⟨Pm.Below.cell hb c0, Pm.Below.cell hb c1, Pm.Below.cell hb c2, Pm.Below.cell hb c3⟩)
    clear sI sC
    go_wp2_with fail
    have hfit := fitSp_any k n hn va vb _ A B [i] w1 (HA.out _ HW.out) (HB.out _ HW.out) (HI.out _ (Below.refl _ _)) (by omega)
    unfold Pm.parV at hfit
    refine hfit.mono ?_
    clear hfit
    rintro e w2 ⟨rfl, hb2⟩
    have HW2 := Lib.hid (HW.out.trans (hb2.mono HW.out.size))
    have HB2 := Lib.hid hb2
    clear hb2 c0 c1 c2 c3
    rw [← HG.out]
    cases G with
    | false =>
      go_wp2_with fail
      refine (awakeSp_true _ (HT.out _ HW2.out)).mono ?_
      rintro e w3 ⟨rfl, hb3⟩
      go_wp2_with fail
      go_ret
      exact ⟨rfl, HW2.out.trans (hb3.mono HW2.out.size)⟩
    | true =>
      obtain ⟨rfl, F, hnF, htake, -, -, -⟩ := fitS_yes HG.out.symm
      have HTk := Lib.hid htake
      have HNF := Lib.hid hnF
      have HDk := Lib.hid (show ∀ W, Calls Tryz.prog 15 #[.slice none 0 0] W fun e w' => ∃ g own, e = .returned (.pointer (some ⟨g, 0, none⟩)) ∧ DiskAt W.heap.size g own [] dst0 w' ∧ Below W.heap.size W w' from fun W => new_any (.slice none 0 0) [] W (script_nil W) (by simp) (fun f hf => by cases hf))
      clear htake hnF
      go_wp2_with fail
      refine (HDk.out w2).mono ?_
      rintro e w3 ⟨gd, ownD, rfl, hd3, hb3⟩
      have hw3 := HW2.out.trans (hb3.mono HW2.out.size)
      have hsn := spoolNew_yes 11 F va vb A B w3 (HT.out _ hw3).1 (HT.out _ hw3).2 (HA.out _ hw3) (HB.out _ hw3) (by rw [← HNF.out]; exact HTk.out) hd3 (by have h1 := (HT.out _ (Below.refl _ _)).2.lt; have h2 := HW2.out.size; exact Nat.lt_of_lt_of_le h1 h2) hb3.size
      rw [← HNF.out] at hsn
      unfold Pm.parV ptrV at hsn
      have HSN := Lib.hid hsn
      have HW3 := Lib.hid hw3
      have HBd := Lib.hid hd3.bnd
      have HB3 := Lib.hid hb3
      obtain ⟨c0, c1, c2, c3⟩ := HBX.out _ (HB2.out.trans (hb3.mono HB2.out.size))
      clear hsn hd3 hb3 hw3 HDk
      go_wp2_with fail
      refine HSN.out.mono ?_
      rintro e w4 ⟨h, g, rfl, hs4, hst4, hg4, hh4, hne4, hb4⟩
      obtain ⟨hR, -, hq2, hq3⟩ := SorterMade.new (w0 := w2) hs4 hst4 hh4 hne4 HB3.out.size (Nat.le_refl _) hb4 HBd.out
      obtain ⟨own, hown⟩ : ∃ own, own = (fun k => deadLab g ownD k ≠ 0 ∨ k = h) := ⟨_, rfl⟩
      rw [← hown] at hR hq3
      have HR4 := Lib.hid hR
      have HOwn := Lib.hid hq3
      have HQ4 := Lib.hid hq2
      have HW4 := Lib.hid (HW3.out.trans (hb4.mono HW3.out.size))
      have HB14 := Lib.hid ((HB2.out.trans (HB3.out.mono HB2.out.size)).trans (hb4.mono (HB2.out.trans (HB3.out.mono HB2.out.size)).size))
      clear hs4 hst4 hg4 hh4 hne4 hb4 hR hq2 hq3 hown HSN c0 c1 c2 c3
      go_wp2_with fail
      have hsz2 := HB2.out.size
      have hlow := HLow.out
      refine (driveSp_any F [] w2.heap.size h g gd (freshS dst0) own _ _ i cuts w4 HQ4.out HR4.out ((HI.out _ HB14.out).mono (fun k _ h e => by have := HOwn.out k e; have h' : k < w.heap.size + 2 := h; omega)) ((HC.out _ HW4.out).mono (fun k _ h e => by have := HOwn.out k e; omega)) (by omega) (by omega)).mono ?_
      rintro e w5 ⟨rfl, ⟨now, hR5, -⟩, hf5⟩
      have hdr := sort_drive [] F i cuts (by omega)
      generalize drive (spMach [] F) [i] cuts 100000 0 (start (spMach [] F) (freshS dst0)) = D at hdr hR5 ⊢
      have hb5 : Below w1.heap.size w1 w5 := Frame.belowO HB14.out (fun k e => by have := HOwn.out k e; omega) HB14.out.size hf5
      obtain ⟨sp1, sp2⟩ := sorts_plain F i (by rw [HIs.out])
      rw [← hdr.err] at sp1 sp2
      obtain ⟨S0, S1, S2, S3, f0, f1, f2, f3, hlit⟩ := got_lit D.got
      rw [hlit]
      obtain ⟨_, _, _, o5, -, -, -, hd5, -⟩ := hR5.at_
      have hsm5 := hR5.smallD
      rw [hdr.d] at hd5 hsm5
      have hout := hdr.out0
      have HB5 := Lib.hid hb5
      have HSp1 := Lib.hid sp1
      have HSp2 := Lib.hid sp2
      have HD5 := Lib.hid hd5
      have HSm := Lib.hid hsm5
      have HOut := Lib.hid hout
      have HF0 := Lib.hid f0
      have HW5 := Lib.hid (HW.out.trans (hb5.mono HW.out.size))
      have hsz5 := hb5.size
      clear hlit hR5 hf5 hb5 sp1 sp2 hd5 hsm5 hout f0 f1 f2 f3 hdr
      by_cases he : D.got.err = 0
      case neg =>
        have q1 : (D.got.err != 0) = true := by simpa using he
        have q2 : (D.got.err == 20) = true ∨ ((D.got.err == 20) = false ∧ (D.got.err == 17) = true) := by
          rcases HSp2.out with e | e | e
          · exact absurd e he
          · exact .inr ⟨by rw [e]; rfl, by rw [e]; rfl⟩
          · exact .inl (by rw [e]; rfl)
        clear he
        rcases q2 with q2 | ⟨q2, q3⟩
        all_goals
          go_wp2_with fail
          refine (awakeSp_true _ (HT.out _ (HW5.out.alloc HW5.out.size _))).mono ?_
          rintro e w7 ⟨rfl, hb7⟩
          go_wp2_with fail
          go_ret
          exact ⟨rfl, (HW5.out.alloc HW5.out.size _).trans (hb7.mono (by have := HW5.out.size; simp; omega))⟩
      case pos =>
      obtain ⟨p1, p2, p3, p4⟩ := HSp1.out he
      have q1 : (D.got.err != 0) = false := by rw [he]; rfl
      obtain ⟨M, hM⟩ : ∃ M, M = (spOut [] F i).told := ⟨_, rfl⟩
      rw [← hM] at p1 p2 p3
      have HP1 := Lib.hid p1
      have HP2 := Lib.hid p2
      have HP3 := Lib.hid p3
      have HP4 := Lib.hid p4
      have HM := Lib.hid hM
      clear he p1 p2 p3 p4 hM
      go_upto_region 9 with fail
      have hr6 := heap_alloc_last w5 (.cells #[.string S0, .string S1, .string S2, .string S3, .int .i64 D.got.need, .int .i64 D.got.err, .int .i64 D.got.held, .int .i64 (D.got.taken 0), .int .i64 (D.got.taken 1), .int .i64 (D.got.taken 2), .int .i64 (D.got.taken 3), .bool false] 43)
      have hb6 : Below w5.heap.size w5 (w5.alloc (.cells #[.string S0, .string S1, .string S2, .string S3, .int .i64 D.got.need, .int .i64 D.got.err, .int .i64 D.got.held, .int .i64 (D.got.taken 0), .int .i64 (D.got.taken 1), .int .i64 (D.got.taken 2), .int .i64 (D.got.taken 3), .bool false] 43)) := (Below.refl _ _).alloc (Nat.le_refl _) _
      generalize w5.alloc (.cells #[.string S0, .string S1, .string S2, .string S3, .int .i64 D.got.need, .int .i64 D.got.err, .int .i64 D.got.held, .int .i64 (D.got.taken 0), .int .i64 (D.got.taken 1), .int .i64 (D.got.taken 2), .int .i64 (D.got.taken 3), .bool false] 43) = W6 at hr6 hb6 ⊢
      have d0 : W6.cell? ⟨w5.heap.size, 0, none⟩ = some (.string S0) := by rw [cell_of_row _ _ _ _ _ _ hr6]; rfl
      have d5 : W6.cell? ⟨w5.heap.size, 5, none⟩ = some (.int .i64 D.got.err) := by rw [cell_of_row _ _ _ _ _ _ hr6]; rfl
      have hb16 : Below w1.heap.size w1 W6 := HB5.out.trans (hb6.mono HB5.out.size)
      have hI6 := HI.out W6 hb16
      rw [HIs.out] at hI6
      obtain ⟨_, _, e, hcs⟩ := hI6
      cases e
      obtain ⟨gb, off, bv, e2, -, c0, c1, c2, c3, c4, hbytes⟩ := hcs 0 _ rfl
      cases e2
      simp only [Nat.zero_mul, Nat.add_zero, Nat.zero_add] at c0 c1 c2 c3 c4 hbytes
      have hxl : X.length ≤ 4500 := by rw [HIs.out] at hlen; exact hlen
      have hlines := lines_any bv X true 0 0 0 W6 hbytes (by omega)
      obtain ⟨L, all, x1, x2, x3, hr⟩ : ∃ L all x1 x2 x3, readL X true (0, 0, 0) = (L, all, x1, x2, x3) := ⟨_, _, _, _, _, rfl⟩
      have hrl := (readL_lines X true (0, 0, 0)).2
      have hp := HP1.out
      rw [HIs.out] at hp
      simp only [] at hp
      rw [hr] at hp hrl
      unfold ReadEnd at hlines
      rw [hr] at hlines
      simp only [readV] at hp hrl hlines
      have hmid : W6.rangeAt (w.heap.size + 1) 0 [bv, .bool true, .int .i64 0, .int .i64 0, .int .i64 0] := fun j v hv => by
        rcases j with _ | _ | _ | _ | _ | j
        · cases hv; exact c0
        · cases hv; exact c1
        · cases hv; exact c2
        · cases hv; exact c3
        · cases hv; exact c4
        · simp at hv
      have hpl := hp.length_eq
      have HL := Lib.hid hlines
      have HB6 := Lib.hid hb6
      have HP := Lib.hid hp
      have HRl := Lib.hid hrl
      have HPl := Lib.hid hpl
      obtain ⟨ab, cb, rfl, -, -⟩ := hbytes
      clear hr6 hb6 hb16 hcs c0 c1 c2 c3 c4 hlines hr hrl hp hpl HP1
      go_wp2_with (first | (refine wpList_load_mid rfl 59 (.tmp 63) rfl (w.heap.size + 1) 0 rfl _ _ hmid Tryz.underlying59 rfl (by kernel_rfl) ?_))
      refine HL.out.mono ?_
      rintro e w7 ⟨lv, rfl, hown7, hb7⟩
      obtain ⟨la, lc, rfl⟩ := Pm.owns_slice hown7
      have hTx := isTexts_of_owns hown7
      have d7 := Pm.Below.cell hb7 d0
      have hb67 : Below w5.heap.size w5 w7 := HB6.out.trans (hb7.mono HB6.out.size)
      obtain ⟨ca, w8, hcv, -, hby, hb8⟩ := conv_str (joinL M) w7
      have e0 : strV (joinL M) = .string S0 := by rw [HM.out, ← HOut.out]; exact HF0.out
      rw [e0] at hcv
      have hjl := joinL_len (L := M) (fun l hl => (HP3.out l hl).1)
      have hml : M.length ≤ 4501 := by have := HPl.out; have := HRl.out; omega
      have hlines := lines_any _ (joinL M) true 0 0 0 w8 hby (by omega)
      unfold ReadEnd at hlines
      rw [readL_joinL (fun l hl => (HP3.out l hl).1) (fun l hl => (HP3.out l hl).2)] at hlines
      simp only [readV] at hlines
      have hb58 : Below w5.heap.size w5 w8 := hb67.trans (hb8.mono hb67.size)
      have HL2 := Lib.hid hlines
      have HTx := Lib.hid (hTx.below (hb8.mono (Nat.le_refl _)))
      have HB8 := Lib.hid hb58
      have HMl := Lib.hid hml
      have hfl := field_lines la L.length lc all x1 x2 x3 w7
      clear hown7 hb7 hb67 hby hb8 e0 hjl hml hlines hb58 hTx d0 d5 hmid HL
      go_wp2_with fail
      refine HL2.out.mono ?_
      rintro e w9 ⟨lv2, rfl, hown9, hb9⟩
      obtain ⟨lb, lcb, rfl⟩ := Pm.owns_slice hown9
      have HTy := Lib.hid (isTexts_of_owns hown9)
      have HTx9 := Lib.hid (HTx.out.below hb9)
      have hb59 : Below w5.heap.size w5 w9 := HB8.out.trans (hb9.mono HB8.out.size)
      have HLi := Lib.hid (live_any (HD5.out.below hb59) HSm.out.T)
      have HB9 := Lib.hid hb59
      have hfl2 := field_lines lb M.length lcb true 0 0 0 w9
      rw [HPl.out] at hfl2 ⊢
      clear hfl hown9 hb9 hb59 HL2 HTx hcv d7
      go_wp2_with fail
      refine HLi.out.mono ?_
      rintro e w10 ⟨lv3, rfl, hown10, hb10⟩
      rw [HP4.out] at hown10
      obtain ⟨l3, lc3, rfl⟩ := Pm.owns_slice hown10
      have hb510 : Below w5.heap.size w5 w10 := HB9.out.trans (hb10.mono HB9.out.size)
      have HTy10 := Lib.hid (HTy.out.below hb10)
      have HTx10 := Lib.hid (HTx9.out.below hb10)
      have HB10 := Lib.hid hb510
      have HW10 := Lib.hid (HW5.out.trans (hb510.mono HW5.out.size))
      have hpn := (HBX.out w10 (HB5.out.trans (hb510.mono HB5.out.size))).2.1
      rw [HNF.out] at hpn
      have HPn := Lib.hid hpn
      clear hown10 hb10 hb510 HTy HTx9 HLi hpn
      go_wp2_with fail
      have HDr := Lib.hid (show ∀ d, Below w10.heap.size w10 (w10.drewN d) from fun d => ⟨rfl, rfl, rfl, Nat.le_refl _, fun _ _ => rfl⟩)
      have HCy := Lib.hid (show ∀ d (k : Nat) x, M[k]? = some x → ∃ gb off, lb = some ⟨gb, off, none⟩ ∧ (w10.drewN d).cell? ⟨gb, off + k, none⟩ = some (strV x) from fun d k x hx => by
        obtain ⟨_, _, e, hc⟩ := HTy10.out.below (HDr.out d)
        cases e
        obtain ⟨gb, off, h1, -, h2⟩ := hc k x hx
        exact ⟨gb, off, h1, h2⟩)
      have HTm := Lib.hid (show ∀ d x, Calls Tryz.prog 31 #[.slice la L.length lc, strV x] (w10.drewN d) (fun e w' => e = .returned (.int .i64 (M.count x : Nat)) ∧ w' = w10.drewN d) from fun d x => by
        have h := times_any _ L x (w10.drewN d) (HTx10.out.below (HDr.out d)) (by have := HRl.out; omega)
        rw [← HP.out.count_eq] at h
        exact h.mono fun _ _ h => ⟨h.1, h.2.symm⟩)
      have HTn := Lib.hid (show ∀ d x, Calls Tryz.prog 31 #[.slice lb L.length lcb, strV x] (w10.drewN d) (fun e w' => e = .returned (.int .i64 (M.count x : Nat)) ∧ w' = w10.drewN d) from fun d x => by
        have h := times_any _ M x (w10.drewN d) (HTy10.out.below (HDr.out d)) (by have := HMl.out; omega)
        rw [HPl.out] at h
        exact h.mono fun _ _ h => ⟨h.1, h.2.symm⟩)
      go_loopw [14] (fun iv wr => ∃ k d : Nat, iv = .int .i64 k ∧ k ≤ L.length ∧ wr = w10.drewN d) (fun iv _ => L.length - (intOf iv).toNat)
      case atStart => exact ⟨0, 0, rfl, Nat.zero_le _, rfl⟩
      case round =>
        obtain ⟨k, d, rfl, hk, rfl⟩ := hrel
        have hmm : L.length ≤ 4501 := by rw [← HPl.out]; exact HMl.out
        by_cases hlt : k < L.length
        · obtain ⟨x, hx⟩ : ∃ x, M[k]? = some x := ⟨M[k]'(by rw [HPl.out]; exact hlt), List.getElem?_eq_getElem _⟩
          obtain ⟨gb, off, hlv, cx⟩ := HCy.out d k x hx
          cases hlv
          have q1 : (0 : Int) ≤ (k : Int) := by omega
          have q2 : (k : Int) < (L.length : Int) := by omega
          obtain ⟨SX, hSX⟩ : ∃ S : ByteArray, strV x = .string S := ⟨_, rfl⟩
          rw [hSX] at cx
          obtain ⟨c, hc⟩ : ∃ c, c = M.count x := ⟨_, rfl⟩
          have ht1 := fun d => HTm.out d x
          have ht2 := fun d => HTn.out d x
          rw [← hc, hSX] at ht1 ht2
          have HTA := Lib.hid ht1
          have HTB := Lib.hid ht2
          have cn : (w10.drewN d).cell? ⟨w.heap.size, 1, none⟩ = _ := HPn.out
          have HX := Lib.hid hx
          have HSX := Lib.hid hSX
          clear hx hSX hc ht1 ht2
          have hwd : Below w10.heap.size w10 (w10.drewN d) := HDr.out d
          obtain ⟨W, hW⟩ : ∃ W, W = w10.drewN d := ⟨_, rfl⟩
          rw [← hW] at cx cn ⊢
          have HWd := Lib.hid hW
          clear hW hwd
          rcases k with _ | m
          · have q3 : (0 : Int) < (L.length : Int) := by omega
            go_wp2_with fail
            go_quiet (fail)
            have cx2 : (W.drewN nq).cell? ⟨gb, off, none⟩ = some (.string SX) := cx
            have HV := Lib.hid (show W.drewN nq = w10.drewN (d + nq) from by rw [HWd.out, World.drewN_drewN])
            generalize W.drewN nq = V at cx2 HV ⊢
            have HTA2 := Lib.hid (show ∀ m, Calls Tryz.prog 31 #[.slice la L.length lc, .string SX] (V.drewN m) (fun e w' => e = .returned (.int .i64 (c : Nat)) ∧ w' = V.drewN m) from fun m => by rw [HV.out, World.drewN_drewN]; exact HTA.out _)
            have HTB2 := Lib.hid (show ∀ m, Calls Tryz.prog 31 #[.slice (some ⟨gb, off, none⟩) L.length lcb, .string SX] (V.drewN m) (fun e w' => e = .returned (.int .i64 (c : Nat)) ∧ w' = V.drewN m) from fun m => by rw [HV.out, World.drewN_drewN]; exact HTB.out _)
            clear cx cn HTA HTB
            go_wp2_with fail
            go_quiet (first
              | (go_at_call_of 31 (Value.slice la L.length lc); exact Calls.quiet_of_same (HTA2.out _))
              | (go_at_call_of 31 (Value.slice (some ⟨gb, off, none⟩) L.length lcb); exact Calls.quiet_of_same (HTB2.out _)))
            have HV2 := Lib.hid (show ∃ d', V.drewN nq = w10.drewN d' from ⟨_, by rw [HV.out, World.drewN_drewN]⟩)
            generalize V.drewN nq = V2 at HV2 ⊢
            go_wp2_with fail
            go_roundw
            case rel =>
              obtain ⟨d', hd'⟩ := HV2.out
              exact ⟨0 + 1, d', by go_num, by omega, hd'⟩
            case measure => simp [intOf]; omega
          · obtain ⟨y, hy⟩ : ∃ y, M[m]? = some y := ⟨M[m]'(by rw [HPl.out]; omega), List.getElem?_eq_getElem _⟩
            obtain ⟨_, _, hlv2, cy⟩ := HCy.out d m y hy
            cases hlv2
            obtain ⟨SY, hSY⟩ : ∃ S : ByteArray, strV y = .string S := ⟨_, rfl⟩
            rw [hSY, ← HWd.out] at cy
            have hah := sorted_next HP2.out hy HX.out
            have q4 : ((m + 1 : Nat) : Int) - 1 = (m : Int) := by omega
            have q5 : (m : Int) < (L.length : Int) := by omega
            have q6 : (0 : Int) ≤ (m : Int) := by omega
            have q7 : (0 : Int) < ((m + 1 : Nat) : Int) := by omega
            have q8 : IntKind.i64.wrap (m : Int) = (m : Int) := by simp [IntKind.wrap, IntKind.bits, IntKind.signed]; omega
            have z1 := (str_cmp HSX.out hSY).1
            have z3 := (str_cmp HSX.out hSY).2
            have hcs : (F = false ∧ Op.bytesLess x y = false) ∨ (F = true ∧ Op.bytesLess x y = true) ∨ (F = true ∧ Op.bytesLess x y = false ∧ decide (x = y) = true) := by
              unfold aheadB at hah
              cases F
              · exact .inl ⟨rfl, hah⟩
              · cases hb : Op.bytesLess x y
                · exact .inr (.inr ⟨rfl, rfl, decide_eq_true (less_tri x y hb hah)⟩)
                · exact .inr (.inl ⟨rfl, rfl⟩)
            clear hy hSY hah
            rcases hcs with ⟨rfl, hah⟩ | ⟨rfl, hah⟩ | ⟨rfl, hah, h4⟩
            all_goals
              simp only [Bool.false_eq_true, if_false, if_true] at cn
              rw [hah] at z1
              try rw [h4] at z3
              clear hah
              go_wp2_with fail
              go_quiet (fail)
              have cx2 : (W.drewN nq).cell? ⟨gb, off + (m + 1), none⟩ = some (.string SX) := cx
              have HV := Lib.hid (show W.drewN nq = w10.drewN (d + nq) from by rw [HWd.out, World.drewN_drewN])
              generalize W.drewN nq = V at cx2 HV ⊢
              have HTA2 := Lib.hid (show ∀ m, Calls Tryz.prog 31 #[.slice la L.length lc, .string SX] (V.drewN m) (fun e w' => e = .returned (.int .i64 (c : Nat)) ∧ w' = V.drewN m) from fun m => by rw [HV.out, World.drewN_drewN]; exact HTA.out _)
              have HTB2 := Lib.hid (show ∀ m, Calls Tryz.prog 31 #[.slice (some ⟨gb, off, none⟩) L.length lcb, .string SX] (V.drewN m) (fun e w' => e = .returned (.int .i64 (c : Nat)) ∧ w' = V.drewN m) from fun m => by rw [HV.out, World.drewN_drewN]; exact HTB.out _)
              clear cx cn HTA HTB
              go_wp2_with fail
              go_quiet (first
                | (go_at_call_of 31 (Value.slice la L.length lc); exact Calls.quiet_of_same (HTA2.out _))
                | (go_at_call_of 31 (Value.slice (some ⟨gb, off, none⟩) L.length lcb); exact Calls.quiet_of_same (HTB2.out _)))
              have HV2 := Lib.hid (show ∃ d', V.drewN nq = w10.drewN d' from ⟨_, by rw [HV.out, World.drewN_drewN]⟩)
              generalize V.drewN nq = V2 at HV2 ⊢
              go_wp2_with fail
              go_roundw
              case rel =>
                obtain ⟨d', hd'⟩ := HV2.out
                exact ⟨m + 1 + 1, d', by go_num, by omega, hd'⟩
              case measure => simp [intOf]; omega
        · have q2 : ¬ (k : Int) < (L.length : Int) := by omega
          clear hk hlt hmm
          go_wp2_with fail
          refine (awakeSp_true _ (HT.out _ (HW10.out.trans ((HDr.out d).mono HW10.out.size)))).mono ?_
          rintro e w11 ⟨rfl, hb11⟩
          go_wp2_with fail
          go_ret
          exact ⟨rfl, (HW10.out.trans ((HDr.out d).mono HW10.out.size)).trans (hb11.mono (HW10.out.trans ((HDr.out d).mono HW10.out.size)).size)⟩

end Go.Proofs.YtpgigpajpcianaaGreatDoor
