/- SpoolHolds's walk. -/
import Derived.Test.YtpgigpajpcianaaGreatDoorSpH
import Derived.Test.YtpgigpajpcianaaGreatDoorPD
namespace Go.Proofs.YtpgigpajpcianaaGreatDoor
open Go.RowKit

theorem newDrew {p : Nat → Prop} (v : Value) (S : Script) (w : World) (hS : IsScript p w v S) (hl : S.length ≤ 1000000) (hI : Script64 S) :
    Calls Tryz.prog 15 #[v] w.drew fun e w' => ∃ g own, e = .returned (.pointer (some ⟨g, 0, none⟩)) ∧ DiskAt w.heap.size g own S dst0 w' ∧ Below w.heap.size w w' :=
  (new_any v S w.drew (hS.below ((Below.refl _ _).drew)) hl hI).mono fun _ _ ⟨g, own, he, hd, hb⟩ => ⟨g, own, he, hd, ((Below.refl w.heap.size w).drew).trans hb⟩
set_option maxRecDepth 100000 in
set_option maxHeartbeats 16000000 in
theorem spHoldsLaw_any (k n : Int) (hn : Pm.Fits n) (va vb iv sv cv : Value) (A B : List UInt8) (ins : List Strm) (S : Script) (cuts : List Int) (w : World) (hT : MaxTab w) (hA : Pm.IsBytes w va A) (hB : Pm.IsBytes w vb B) (hI : IsStrms (· < w.heap.size) w iv ins) (hS : IsScript (· < w.heap.size) w sv S) (h64 : Script64 S) (hC : IsInts (· < w.heap.size) w cv cuts) :
    Calls Tryz.prog 5 #[Pm.parV k n va vb, iv, sv, cv] w (Pm.Gives w (.bool true)) := by
  have HT := Lib.hid (show ∀ W, Below w.heap.size w W → MaxTab W from fun W hb => hT.below hb)
  have HA := Lib.hid (show ∀ W, Below w.heap.size w W → Pm.IsBytes W va A from fun W hb => hA.below hb)
  have HB := Lib.hid (show ∀ W, Below w.heap.size w W → Pm.IsBytes W vb B from fun W hb => hB.below hb)
  have HI := Lib.hid (show ∀ W, Below w.heap.size w W → IsStrms (· < w.heap.size) W iv ins from fun W hb => hI.below hb)
  have HS := Lib.hid (show ∀ W, Below w.heap.size w W → IsScript (· < w.heap.size) W sv S from fun W hb => hS.below hb)
  have H64 := Lib.hid h64
  have HC := Lib.hid (show ∀ W, Below w.heap.size w W → IsInts (· < w.heap.size) W cv cuts from fun W hb => hC.below hb)
  obtain ⟨H, hH⟩ : ∃ H, H = heavyS A B ins S [cuts] := ⟨_, rfl⟩
  obtain ⟨G, hG⟩ : ∃ G, G = fitS k n A B ins := ⟨_, rfl⟩
  have HH := Lib.hid hH
  have HG := Lib.hid hG
  obtain ⟨ai, ci, hiv, -⟩ := id hI
  obtain ⟨as', cs', hsv, -⟩ := id hS
  obtain ⟨ac, cc, hcv, -⟩ := id hC
  subst hiv hsv hcv
  clear hT hA hB hI hS h64 hC hH hG
  unfold Pm.parV
  go_enter Tryz.func5, Tryz.ntmps5
  go_wp2_with fail
  have hbox : Below w.heap.size w (w.alloc (.cells #[.int .i64 k, .int .i64 n, va, vb] 24)) := (Below.refl _ _).alloc (Nat.le_refl _) _
  have hbx2 : Below w.heap.size w ((w.alloc (.cells #[.int .i64 k, .int .i64 n, va, vb] 24)).alloc (.cells #[.slice ac cuts.length cc] 38)) := hbox.alloc (by simp) _
  have hcc := ints_list (w.alloc (.cells #[.int .i64 k, .int .i64 n, va, vb] 24)) (.slice ac cuts.length cc) cuts (fun _ => True) trivial ((HC.out _ hbox).mono (fun _ _ _ => trivial)) (0, 0)
  rw [World.size_alloc] at hcc
  have hheavy := heavySp_any k n va vb (.slice ai ins.length ci) (.slice as' S.length cs') _ A B ins S [cuts] _ (HA.out _ hbx2) (HB.out _ hbx2) (HI.out _ hbx2) (HS.out _ hbx2) hcc (by simp)
  unfold Pm.parV at hheavy
  refine hheavy.mono ?_
  clear hheavy hcc
  rintro e w1 ⟨rfl, hb1⟩
  obtain ⟨c0, c1, c2, c3⟩ := box_cells (((Below.refl _ _).alloc (Nat.le_refl _) _).trans (hb1.mono (by simp)))
  have hb := hbx2.trans (hb1.mono hbx2.size)
  have HW := Lib.hid hb
  clear hbox hbx2 hb1 hb
  rw [← HH.out]
  cases H with
  | true =>
    go_wp2_with fail
    refine (awakeSp_true _ (HT.out _ HW.out)).mono ?_
    rintro e w2 ⟨rfl, hb2⟩
    go_wp2_with fail
    go_ret
    exact ⟨rfl, HW.out.trans (hb2.mono HW.out.size)⟩
  | false =>
    obtain ⟨sA, sB, s8, sS, sI, sC⟩ := heavyS_no HH.out.symm
    have SI := Lib.hid sI
    have SC := Lib.hid sC
    have SS := Lib.hid sS
    have HBX := Lib.hid (show ∀ W, Below w1.heap.size w1 W → W.cell? ⟨w.heap.size, 0, none⟩ = some (.int .i64 k) ∧ W.cell? ⟨w.heap.size, 1, none⟩ = some (.int .i64 n) ∧ W.cell? ⟨w.heap.size, 2, none⟩ = some va ∧ W.cell? ⟨w.heap.size, 3, none⟩ = some vb from fun W hb => ⟨Pm.Below.cell hb c0, Pm.Below.cell hb c1, Pm.Below.cell hb c2, Pm.Below.cell hb c3⟩)
    clear sI sC sS
    go_wp2_with fail
    have hfit := fitSp_any k n hn va vb (.slice ai ins.length ci) A B ins w1 (HA.out _ HW.out) (HB.out _ HW.out) (HI.out _ HW.out) (by omega)
    unfold Pm.parV at hfit
    refine hfit.mono ?_
    clear hfit
    rintro e w2 ⟨rfl, hb2⟩
    have HW2 := Lib.hid (HW.out.trans (hb2.mono HW.out.size))
    have HB2 := Lib.hid hb2
    clear hb2 c0 c1 c2 c3
    rw [← HG.out]
    cases G with
    | false =>
      go_wp2_with fail
      refine (awakeSp_true _ (HT.out _ HW2.out)).mono ?_
      rintro e w3 ⟨rfl, hb3⟩
      go_wp2_with fail
      go_ret
      exact ⟨rfl, HW2.out.trans (hb3.mono HW2.out.size)⟩
    | true =>
      obtain ⟨rfl, F, hnF, htake, hbound, hcheck, i, rfl⟩ := fitS_yes HG.out.symm
      have HTk := Lib.hid htake
      have HBo := Lib.hid hbound
      have HCh := Lib.hid hcheck
      have hlen := SI.out i (by simp)
      have hcl := SC.out cuts (by simp)
      have HNF := Lib.hid hnF
      obtain ⟨c0, c1, c2, c3⟩ := HBX.out _ HB2.out
      have HNew := Lib.hid (newDrew (.slice as' S.length cs') S w2 (HS.out _ HW2.out) (by have := SS.out; omega) H64.out)
      have HSN := Lib.hid (show ∀ gd ownD W, Below w2.heap.size w2 W → DiskAt w2.heap.size gd ownD S dst0 W → Calls Tryz.prog 13 #[.agg #[.int .i64 11, .int .i64 n, va, vb], .pointer (some ⟨gd, 0, none⟩)] W (SorterMade F S w2.heap.size gd ownD dst0 W) from fun gd ownD W hb hd => by
        have hbw := HW2.out.trans (hb.mono HW2.out.size)
        have := spoolNew_yes 11 F va vb A B W (HT.out _ hbw).1 (HT.out _ hbw).2 (HA.out _ hbw) (HB.out _ hbw) (by rw [← HNF.out]; exact HTk.out) hd (by have h1 := (HT.out _ (Below.refl _ _)).2.lt; have h2 := HW2.out.size; exact Nat.lt_of_lt_of_le h1 h2) hb.size
        rw [← HNF.out] at this
        exact this)
      clear htake hbound hcheck hnF
      go_upto_region 3 with fail
      go_cut [9, 10] (fun mv ev W => ∃ base h g gd own, mv = .pointer (some ⟨h, 0, none⟩) ∧ ev = .int .i64 0 ∧ RowKit.Hid (SortNew F S w2 base h g gd own W ∧ Below w2.heap.size w2 W))
      case first =>
        go_region_with (first | (go_at_call 15; refine HNew.out.mono ?_; rintro e w3 ⟨gd, ownD, rfl, hd3, hb3⟩; obtain ⟨c0, c1, c2, c3⟩ := HBX.out _ (HB2.out.trans (hb3.mono HB2.out.size)); have HD3 := Lib.hid hd3; have HB3 := Lib.hid hb3; clear hd3 hb3) | (go_at_call 13; refine (HSN.out _ _ _ HB3.out HD3.out).mono ?_; rintro e w4 ⟨h, g, rfl, hs4, hst4, hg4, hh4, hne4, hb4⟩; have HNw := Lib.hid (And.intro (SorterMade.new (w0 := w2) hs4 hst4 hh4 hne4 HB3.out.size (Nat.le_refl _) hb4 HD3.out.bnd) (HB3.out.trans (hb4.mono HB3.out.size))); clear hs4 hst4 hg4 hh4 hne4 hb4))
        all_goals
          go_wp2_with fail
          go_meet
          case rel => exact ⟨_, h, g, gd, _, rfl, rfl, HNw⟩
      case rest =>
      obtain ⟨base, h, g, gd, own, rfl, rfl, HNw⟩ := hcut
      obtain ⟨⟨hR, hq1, hq2, hq3⟩, hb4⟩ := HNw.out
      rename World => w4
      have HBase := Lib.hid (Nat.le_trans HW2.out.size hq1)
      have HR := Lib.hid hR
      have HOwn := Lib.hid hq3
      have HQ2 := Lib.hid hq2
      have HW4 := Lib.hid (HW2.out.trans (hb4.mono HW2.out.size))
      have HB4 := Lib.hid (HB2.out.trans (hb4.mono HB2.out.size))
      clear c0 c1 c2 c3 hR hq1 hq2 hq3 hb4 HNw HSN HNew
      obtain ⟨c0, c1, c2, c3⟩ := HBX.out _ HB4.out
      go_wp2_with fail
      have hbd := Pm.refBound_any 11 n hn va vb A B w4 (HA.out _ HW4.out) (HB.out _ HW4.out) (by omega)
      rw [HBo.out, HCh.out] at hbd
      unfold Pm.parV at hbd
      refine hbd.mono ?_
      clear hbd
      rintro e w5 ⟨rfl, hb5⟩
      have HR5 := Lib.hid (HR.out.below hb5)
      have HW5 := Lib.hid (HW4.out.trans (hb5.mono HW4.out.size))
      have HQ5 := Lib.hid (Nat.le_trans HQ2.out hb5.size)
      clear hb5 c0 c1 c2 c3
      go_wp2_with fail
      refine (driveSp_any F S base h g gd (freshS dst0) own _ _ i cuts w5 HQ5.out HR5.out ((HI.out _ HW5.out).mono (fun k _ h e => by have := HOwn.out k e; have := HBase.out; omega)) ((HC.out _ HW5.out).mono (fun k _ h e => by have := HOwn.out k e; have := HBase.out; omega)) (by omega) (by omega)).mono ?_
      rintro e w6 ⟨rfl, ⟨now, hR6, -⟩, hf6⟩
      have hh1 := sort_held S F [i] cuts
      generalize drive (spMach S F) [i] cuts 100000 0 (start (spMach S F) (freshS dst0)) = D at hh1 hR6 ⊢
      obtain ⟨S0, S1, S2, S3, -, -, -, -, hlit⟩ := got_lit D.got
      rw [hlit]
      have hb6 : Below w.heap.size w w6 := Frame.belowO HW5.out (fun k e => Nat.le_trans HBase.out (HOwn.out k e)) HW5.out.size hf6
      have HW6 := Lib.hid hb6
      have hsz6 := hb6.size
      clear hlit hR6 hf6 hb6
      go_wp2_with fail
      refine (awakeSp_true _ (HT.out _ (HW6.out.alloc hsz6 _))).mono ?_
      rintro e w7 ⟨rfl, hb7⟩
      go_wp2_with fail
      go_ret
      exact ⟨rfl, (HW6.out.alloc hsz6 _).trans (hb7.mono (by simp; omega))⟩

end Go.Proofs.YtpgigpajpcianaaGreatDoor
