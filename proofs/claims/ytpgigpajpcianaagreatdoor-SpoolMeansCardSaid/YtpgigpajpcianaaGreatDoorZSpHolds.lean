/- SpoolHolds's walk. -/
import Derived.Test.YtpgigpajpcianaaGreatDoorZSpH
import Derived.Test.YtpgigpajpcianaaGreatDoorZPD
import Derived.Test.YtpgigpajpcianaaGreatDoorZSdD
import Derived.Test.YtpgigpajpcianaaGreatDoorZFsown
import Derived.Test.YtpgigpajpcianaaGreatDoorZFsD
import Derived.Test.YtpgigpajpcianaaGreatDoorZPB
import Derived.Test.YtpgigpajpcianaaGreatDoorZSpints
import Derived.Deep.RegionHeld3
namespace Go.Proofs.YtpgigpajpcianaaGreatDoor
open Go.RowKit

end Go.Proofs.YtpgigpajpcianaaGreatDoor
namespace Go.Proofs.YtpgigpajpcianaaGreatDoor
open Go.RowKit

set_option maxRecDepth 100000 in
set_option maxHeartbeats 16000000 in
theorem spMeansLaw_any (k n : Int) (hn : Pm.Fits n) (va vb iv sv cv : Value) (A B : List UInt8) (ins : List Strm) (S : Script) (cuts : List Int) (w : World) (hT : MaxTab w) (hA : Pm.IsBytes w va A) (hB : Pm.IsBytes w vb B) (hI : IsStrms (· < w.heap.size) w iv ins) (hS : IsScript (· < w.heap.size) w sv S) (h64 : Script64 S) (hC : IsInts (· < w.heap.size) w cv cuts) :
    Calls Tryz.prog 4 #[Pm.parV k n va vb, iv, sv, cv] w (Pm.Gives w (.bool true)) := by
  have HT := Lib.hid (show ∀ W, Below w.heap.size w W → MaxTab W from fun W hb => hT.below hb)
  have HA := Lib.hid (show ∀ W, Below w.heap.size w W → Pm.IsBytes W va A from fun W hb => hA.below hb)
  have HB := Lib.hid (show ∀ W, Below w.heap.size w W → Pm.IsBytes W vb B from fun W hb => hB.below hb)
  have HI := Lib.hid (show ∀ W, Below w.heap.size w W → IsStrms (· < w.heap.size) W iv ins from fun W hb => hI.below hb)
  have HS := Lib.hid (show ∀ W, Below w.heap.size w W → IsScript (· < w.heap.size) W sv S from fun W hb => hS.below hb)
  have H64 := Lib.hid h64
  have HC := Lib.hid (show ∀ W, Below w.heap.size w W → IsInts (· < w.heap.size) W cv cuts from fun W hb => hC.below hb)
  obtain ⟨H, hH⟩ : ∃ H, H = heavyS A B ins S [cuts] := ⟨_, rfl⟩
  obtain ⟨G, hG⟩ : ∃ G, G = fitS k n A B ins := ⟨_, rfl⟩
  have HH := Lib.hid hH
  have HG := Lib.hid hG
  obtain ⟨ai, ci, hiv, -⟩ := id hI
  obtain ⟨as', cs', hsv, -⟩ := id hS
  obtain ⟨ac, cc, hcv, -⟩ := id hC
  subst hiv hsv hcv
  clear hT hA hB hI hS h64 hC hH hG
  unfold Pm.parV
  go_enter Tryz.func4, Tryz.ntmps4
  go_wp2_with fail
  have hbox : Below w.heap.size w (w.alloc (.cells #[.int .i64 k, .int .i64 n, va, vb] 24)) := (Below.refl _ _).alloc (Nat.le_refl _) _
  have hbx2 : Below w.heap.size w ((w.alloc (.cells #[.int .i64 k, .int .i64 n, va, vb] 24)).alloc (.cells #[.slice ac cuts.length cc] 38)) := hbox.alloc (by simp) _
  have hcc := ints_list (w.alloc (.cells #[.int .i64 k, .int .i64 n, va, vb] 24)) (.slice ac cuts.length cc) cuts (fun _ => True) trivial ((HC.out _ hbox).mono (fun _ _ _ => trivial)) (0, 0)
  rw [World.size_alloc] at hcc
  have hheavy := heavySp_any k n va vb (.slice ai ins.length ci) (.slice as' S.length cs') _ A B ins S [cuts] _ (HA.out _ hbx2) (HB.out _ hbx2) (HI.out _ hbx2) (HS.out _ hbx2) hcc (by simp)
  unfold Pm.parV at hheavy
  refine hheavy.mono ?_
  clear hheavy hcc
  rintro e w1 ⟨rfl, hb1⟩
  obtain ⟨c0, c1, c2, c3⟩ := box_cells (((Below.refl _ _).alloc (Nat.le_refl _) _).trans (hb1.mono (by simp)))
  have hb := hbx2.trans (hb1.mono hbx2.size)
  have HW := Lib.hid hb
  clear hbox hbx2 hb1 hb
  rw [← HH.out]
  cases H with
  | true =>
    go_wp2_with fail
    refine (awakeSp_true _ (HT.out _ HW.out)).mono ?_
    rintro e w2 ⟨rfl, hb2⟩
    go_wp2_with fail
    go_ret
    exact ⟨rfl, HW.out.trans (hb2.mono HW.out.size)⟩
  | false =>
    obtain ⟨sA, sB, s8, sS, sI, sC⟩ := heavyS_no HH.out.symm
    have SI := Lib.hid sI
    have SC := Lib.hid sC
    have SS := Lib.hid sS
    have HBX := Lib.hid (show ∀ W, Below w1.heap.size w1 W → W.cell? ⟨w.heap.size, 0, none⟩ = some (.int .i64 k) ∧ W.cell? ⟨w.heap.size, 1, none⟩ = some (.int .i64 n) ∧ W.cell? ⟨w.heap.size, 2, none⟩ = some va ∧ W.cell? ⟨w.heap.size, 3, none⟩ = some vb from fun W hb => ⟨Pm.Below.cell hb c0, Pm.Below.cell hb c1, Pm.Below.cell hb c2, Pm.Below.cell hb c3⟩)
    clear sI sC sS
    go_wp2_with fail
    have hfit := fitSp_any k n hn va vb (.slice ai ins.length ci) A B ins w1 (HA.out _ HW.out) (HB.out _ HW.out) (HI.out _ HW.out) (by omega)
    unfold Pm.parV at hfit
    refine hfit.mono ?_
    clear hfit
    rintro e w2 ⟨rfl, hb2⟩
    have HW2 := Lib.hid (HW.out.trans (hb2.mono HW.out.size))
    have HB2 := Lib.hid hb2
    clear hb2 c0 c1 c2 c3
    rw [← HG.out]
    cases G with
    | false =>
      go_wp2_with fail
      refine (awakeSp_true _ (HT.out _ HW2.out)).mono ?_
      rintro e w3 ⟨rfl, hb3⟩
      go_wp2_with fail
      go_ret
      exact ⟨rfl, HW2.out.trans (hb3.mono HW2.out.size)⟩
    | true =>
      obtain ⟨rfl, F, hnF, htake, hbound, hcheck, i, rfl⟩ := fitS_yes HG.out.symm
      have HTk := Lib.hid htake
      have HBo := Lib.hid hbound
      have HCh := Lib.hid hcheck
      have hlen := SI.out i (by simp)
      have hcl := SC.out cuts (by simp)
      have HNF := Lib.hid hnF
      obtain ⟨c0, c1, c2, c3⟩ := HBX.out _ HB2.out
      have HSN := Lib.hid (show ∀ xa xb base gd ownD W, Below w.heap.size w W → Pm.IsBytes W xa A → Pm.IsBytes W xb B → w.heap.size ≤ base → base ≤ W.heap.size → DiskAt base gd ownD S dst0 W → Calls Tryz.prog 13 #[.agg #[.int .i64 11, .int .i64 n, xa, xb], .pointer (some ⟨gd, 0, none⟩)] W (SorterMade F S base gd ownD dst0 W) from fun xa xb base gd ownD W hbw hxa hxb hb1 hb2 hd => by
        have := spoolNew_yes 11 F xa xb A B W (HT.out _ hbw).1 (HT.out _ hbw).2 hxa hxb (by rw [← HNF.out]; exact HTk.out) hd (by have h1 := (HT.out _ (Below.refl _ _)).2.lt; exact Nat.lt_of_lt_of_le h1 hb1) hb2
        rw [← HNF.out] at this
        exact this)
      have HnF := Lib.hid (show F = (n == 1) by rw [HNF.out]; cases F <;> rfl)
      clear htake hbound hcheck hnF
      go_upto_region 3 with fail
      have hown := World.ownsRow_made (base := w2.heap.size) (e := 90) (size := 2) w2 #[] 0 (Nat.le_refl _) (Nat.zero_le _) rfl
      have hbA : Below w2.heap.size w2 (w2.alloc (.cells #[] 90)) := (Below.refl _ _).alloc (Nat.le_refl _) _
      have HOW := Lib.hid hown
      have HBA := Lib.hid hbA
      have HSA := Lib.hid (HS.out _ (HW2.out.trans (hbA.mono HW2.out.size)))
      clear hown hbA
      go_wp2_with (at_builtin; refine wpList_append_script rfl (.tmp 29) (.tmp 30) 37 rfl Tryz.underlying37 w2.heap.size _ _ S rfl HOW.out rfl HSA.out (by have := SS.out; omega) (by simp) ?_; intro v2 W3 ho3 hg3)
      have hb3 : Below w2.heap.size w2 W3 := owns_below_of HOW.out HBA.out hg3
      have hs3 := isScript_of_owns ho3
      have HB3 := Lib.hid hb3
      have HN3 := Lib.hid (new_any v2 S W3 hs3 (by have := SS.out; omega) H64.out)
      clear hb3 hs3 ho3 hg3 HOW HBA HSA
      refine HN3.out.mono ?_
      rintro e w3 ⟨gd, ownD, rfl, hd3, hb3⟩
      have hb23 := HB3.out.trans (hb3.mono HB3.out.size)
      have HB23 := Lib.hid hb23
      have HD3 := Lib.hid hd3
      have HB33 := Lib.hid hb3
      have HW3 := Lib.hid (HW2.out.trans (hb23.mono HW2.out.size))
      clear c0 c1 c2 c3 HN3
      obtain ⟨c0, c1, c2, c3⟩ := HBX.out _ (HB2.out.trans (hb23.mono HB2.out.size))
      clear hb23 hd3 hb3
      have hcp := Pm.copy_any 11 n va vb A B w3 (HA.out _ HW3.out) (HB.out _ HW3.out) (by omega) (by omega)
      unfold Pm.parV at hcp
      go_wp2_with fail
      refine hcp.mono ?_
      clear hcp
      rintro e w4 ⟨xa, xb, rfl, hxa, hxb, hb4⟩
      have HW4 := Lib.hid (HW3.out.trans (hb4.mono HW3.out.size))
      have hsn := HSN.out xa xb W3.heap.size gd ownD w4 HW4.out hxa hxb (Nat.le_trans HW2.out.size HB3.out.size) (Nat.le_trans HB33.out.size hb4.size) (HD3.out.below hb4)
      have HSn := Lib.hid hsn
      have HB4 := Lib.hid hb4
      clear hb4 hsn hxa hxb c0 c1 c2 c3 HSN
      unfold Pm.parV
      go_wp2_with fail
      refine HSn.out.mono ?_
      rintro e w5 ⟨h, g, rfl, hs5, hst5, hg5, hh5, hne5, hb5⟩
      have hbd := HD3.out.bnd
      obtain ⟨hR, hq1, hq2, hq3⟩ := SorterMade.new (w0 := w2) hs5 hst5 hh5 hne5 (Nat.le_trans HB33.out.size HB4.out.size) HB3.out.size hb5 (fun k hk => ⟨(hbd k hk).1, Nat.lt_of_lt_of_le (hbd k hk).2 HB4.out.size⟩)
      have HW5 := Lib.hid (HW4.out.trans (hb5.mono HW4.out.size))
      obtain ⟨base, hbase⟩ : ∃ base, base = W3.heap.size := ⟨_, rfl⟩
      obtain ⟨own, hown⟩ : ∃ own, own = (fun k => deadLab g ownD k ≠ 0 ∨ k = h) := ⟨_, rfl⟩
      rw [← hown] at hR hq3
      rw [← hbase] at hR hq2
      have HR := Lib.hid hR
      have HOwn := Lib.hid (show ∀ k, own k → w2.heap.size ≤ k from fun k hk => Nat.le_trans HB3.out.size (by have := hq3 k hk; omega))
      have HQ2 := Lib.hid hq2
      have HBs := Lib.hid HW2.out.size
      have HB15 := Lib.hid (HB2.out.trans ((HB23.out.trans ((HB4.out.trans (hb5.mono HB4.out.size)).mono HB23.out.size)).mono HB2.out.size))
      clear hs5 hst5 hg5 hh5 hne5 hb5 hbd hR hq1 hq2 hq3 hbase hown HSn HD3
      go_wp2_with fail
      have hsz2 := HBs.out
      refine (driveSp_any F S base h g gd (freshS dst0) own _ _ i cuts w5 HQ2.out HR.out ((HI.out _ HW5.out).mono (fun k _ h e => by have := HOwn.out k e; omega)) ((HC.out _ HW5.out).mono (fun k _ h e => by have := HOwn.out k e; omega)) (by omega) (by omega)).mono ?_
      rintro e w6 ⟨rfl, ⟨now, hR6, -⟩, hf6⟩
      have hsd := sort_drive S F i cuts (by omega)
      generalize drive (spMach S F) [i] cuts 100000 0 (start (spMach S F) (freshS dst0)) = D at hsd hR6 ⊢
      obtain ⟨m1, m2, m3, m4⟩ := spMeans_case S F i D hsd
      have o1 := hsd.out 1 (by decide)
      have o2 := hsd.out 2 (by decide)
      have o3 := hsd.out 3 (by decide)
      have hb6 : Below w.heap.size w w6 := Frame.belowO HW5.out (fun k e => by have := HOwn.out k e; omega) HW5.out.size hf6
      have hb16 : Below w1.heap.size w1 w6 := Frame.belowO HB15.out (fun k e => Nat.le_trans HB2.out.size (HOwn.out k e)) HB15.out.size hf6
      obtain ⟨S0, S1, S2, S3, f0, f1, f2, f3, hlit⟩ := got_lit D.got
      have hgot : Below w6.heap.size w6 (w6.alloc (.cells #[.string S0, .string S1, .string S2, .string S3, .int .i64 D.got.need, .int .i64 D.got.err, .int .i64 D.got.held, .int .i64 (D.got.taken 0), .int .i64 (D.got.taken 1), .int .i64 (D.got.taken 2), .int .i64 (D.got.taken 3), .bool false] 43)) := (Below.refl _ _).alloc (Nat.le_refl _) _
      have hrg := heap_alloc_last w6 (.cells #[.string S0, .string S1, .string S2, .string S3, .int .i64 D.got.need, .int .i64 D.got.err, .int .i64 D.got.held, .int .i64 (D.got.taken 0), .int .i64 (D.got.taken 1), .int .i64 (D.got.taken 2), .int .i64 (D.got.taken 3), .bool false] 43)
      obtain ⟨W6, hW6⟩ : ∃ W6, W6 = w6.alloc (.cells #[.string S0, .string S1, .string S2, .string S3, .int .i64 D.got.need, .int .i64 D.got.err, .int .i64 D.got.held, .int .i64 (D.got.taken 0), .int .i64 (D.got.taken 1), .int .i64 (D.got.taken 2), .int .i64 (D.got.taken 3), .bool false] 43) := ⟨_, rfl⟩
      have hSame := fun (wv : Value) (W : World) (p : Nat → Prop) (h1 : Below w.heap.size w W) (h2 : IsStrms p W wv [(runWant S F i).2]) => same_one D.got _ wv [i] (runWant S F i).2 W (HI.out _ h1) h2 m2 o1 o2 o3 m3
      rw [hlit] at hSame ⊢
      rw [← hW6] at hgot hrg
      have HSame := Lib.hid hSame
      have HW6 := Lib.hid (hb6.trans (hgot.mono hb6.size))
      have HB16 := Lib.hid (hb16.trans (hgot.mono hb16.size))
      have HRg := Lib.hid hrg
      have HR6 := Lib.hid (hR6.below hgot)
      have HM1 := Lib.hid m1
      have HM4 := Lib.hid m4
      clear hsd m1 m2 m3 m4 o1 o2 o3 hb6 hb16 hf6 hR6 f0 f1 f2 f3 hlit hgot hrg hSame
      obtain ⟨c0, c1, c2, c3⟩ := HBX.out _ HB16.out
      have hrun := docRun_any (F := F) 11 n va vb (.slice ai 1 ci) (.slice as' S.length cs') i W6 HnF.out (HI.out _ HW6.out) ((HS.out _ HW6.out).mono (fun k _ h => Nat.lt_of_lt_of_le h HW6.out.size)) (by have := SS.out; omega) (by omega)
      unfold Pm.parV at hrun
      rw [hW6] at c0 c1 c2 c3
      go_upto_region 8 with fail
      rw [← hW6]
      rw [← hW6] at c0 c1 c2 c3
      clear hW6
      go_wp2_with fail
      refine hrun.mono ?_
      clear hrun
      rintro e w7 ⟨v7, r, own7, rfl, hs7, hd7, hb7⟩
      obtain ⟨a7, cc7, e7, hc7⟩ := id hs7
      subst e7
      have hrow7 : ∀ W, Below w7.heap.size w7 W → W.cell? ⟨w6.heap.size, 0, none⟩ = some (.string S0) ∧ W.cell? ⟨w6.heap.size, 1, none⟩ = some (.string S1) ∧ W.cell? ⟨w6.heap.size, 2, none⟩ = some (.string S2) ∧ W.cell? ⟨w6.heap.size, 3, none⟩ = some (.string S3) ∧ W.cell? ⟨w6.heap.size, 4, none⟩ = some (.int .i64 D.got.need) ∧ W.cell? ⟨w6.heap.size, 5, none⟩ = some (.int .i64 D.got.err) ∧ W.cell? ⟨w6.heap.size, 6, none⟩ = some (.int .i64 D.got.held) ∧ W.cell? ⟨w6.heap.size, 7, none⟩ = some (.int .i64 (D.got.taken 0)) ∧ W.cell? ⟨w6.heap.size, 8, none⟩ = some (.int .i64 (D.got.taken 1)) ∧ W.cell? ⟨w6.heap.size, 9, none⟩ = some (.int .i64 (D.got.taken 2)) ∧ W.cell? ⟨w6.heap.size, 10, none⟩ = some (.int .i64 (D.got.taken 3)) ∧ W.cell? ⟨w6.heap.size, 11, none⟩ = some (.bool false) ∧ W.cell? ⟨r, 3, none⟩ = some (.int .i64 D.s.x.d.n) := fun W hb => by
        have h1 := hb7.trans (hb.mono hb7.size)
        have hg := (Below.toFrame h1 (fun _ => False)).heap HRg.out (fun h => h)
        have hr3 : W.cell? ⟨r, 3, none⟩ = some (.int .i64 D.s.x.d.n) := by
          obtain ⟨_, _, _, hx⟩ := hd7.below hb
          rw [HM1.out] at hx
          exact hx.c3
        refine ⟨?_, ?_, ?_, ?_, ?_, ?_, ?_, ?_, ?_, ?_, ?_, ?_, hr3⟩
        all_goals
          rw [cell_of_row _ _ _ _ _ _ hg]
          rfl
      have hw67 := HB16.out.trans (hb7.mono HB16.out.size)
      have hR7 : sortRep F S base h g gd D.s now w7 := HR6.out.below hb7
      obtain ⟨_, _, _, o7, -, s7, -, dd7, rr7, rw7, -⟩ := hR7.at_
      have hsm : SmallD 300100 17000 D.s.x.d := by
        obtain ⟨_, _, _, _, _, _, _, _, k5, -⟩ := hR7
        exact k5.small
      rw [HM1.out] at hd7
      have HX := Lib.hid hrow7
      have HW7 := Lib.hid (HW6.out.trans (hb7.mono HW6.out.size))
      have HS7 := Lib.hid hs7
      have HD7 := Lib.hid hd7
      have HDd := Lib.hid dd7
      have HSs := Lib.hid s7
      have HRr := Lib.hid rr7
      have HRw := Lib.hid rw7
      have HSm := Lib.hid hsm
      have HGt := Lib.hid (show ∀ W, Below w7.heap.size w7 W → Below w.heap.size w W from fun W hb => (HW6.out.trans (hb7.mono HW6.out.size)).trans (hb.mono (Nat.le_trans HW6.out.size hb7.size)))
      have n1 : (D.s.x.d.n != D.s.x.d.n) = false := by simp
      clear c0 c1 c2 c3 hc7 hrow7 hw67 hR7 hs7 hd7 dd7 s7 rr7 rw7 hsm hb7 HR6 HRg
      have hw : Below w7.heap.size w7 w7.drew := (Below.refl _ _).drew
      obtain ⟨g0, g1, g2, g3, g4, g5, g6, g7, g8, g9, g10, g11, g12⟩ := HX.out _ hw
      go_upto_region 9 with fail
      go_region_held3 (fun W => W.cell? ⟨w6.heap.size, 0, none⟩ = some (.string S0) ∧ W.cell? ⟨w6.heap.size, 1, none⟩ = some (.string S1) ∧ W.cell? ⟨w6.heap.size, 2, none⟩ = some (.string S2) ∧ W.cell? ⟨w6.heap.size, 3, none⟩ = some (.string S3) ∧ W.cell? ⟨w6.heap.size, 4, none⟩ = some (.int .i64 D.got.need) ∧ W.cell? ⟨w6.heap.size, 5, none⟩ = some (.int .i64 D.got.err) ∧ W.cell? ⟨w6.heap.size, 6, none⟩ = some (.int .i64 D.got.held) ∧ W.cell? ⟨w6.heap.size, 7, none⟩ = some (.int .i64 (D.got.taken 0)) ∧ W.cell? ⟨w6.heap.size, 8, none⟩ = some (.int .i64 (D.got.taken 1)) ∧ W.cell? ⟨w6.heap.size, 9, none⟩ = some (.int .i64 (D.got.taken 2)) ∧ W.cell? ⟨w6.heap.size, 10, none⟩ = some (.int .i64 (D.got.taken 3)) ∧ W.cell? ⟨w6.heap.size, 11, none⟩ = some (.bool false) ∧ W.cell? ⟨r, 3, none⟩ = some (.int .i64 D.s.x.d.n))
        (exact HX.out _ hw)
        (first
        | (go_at_call 21; refine (intsSp_any _ _ (liveL D.s.x.d.T) _ (HL1.out.below hb12.out) HL2.out (by have := live_len D.s.x.d.T 0; have := HSm.out.T; show (liveFrom 0 D.s.x.d.T).length ≤ 1000000; omega)).mono ?_; rintro e w11 ⟨rfl, hb1⟩; have hw := hw.trans (hb1.mono hw.size); clear hb1)
        | (go_at_call 23; refine (refLive_any (HD7.out.below hw) HSm.out.T).mono ?_; rintro e w8 ⟨v8, rfl, hl8, hb1⟩; have HL2 := Lib.hid (ints_own hl8); have hb12 := Lib.hid hb1; have hw := hw.trans (hb1.mono hw.size); clear hb1 hl8)
        | (go_at_call 22; refine (live_any (HDd.out.below hw) HSm.out.T).mono ?_; rintro e w9 ⟨v9, rfl, hl9, hb1⟩; have HL1 := Lib.hid (ints_own hl9); have hw := hw.trans (hb1.mono hw.size); clear hb1 hl9)
        | (go_at_call 20; refine (calls_any (HDd.out.below hw)).mono ?_; rintro e wx ⟨rfl, rfl⟩)
        | (go_at_call 19; refine (HSame.out _ _ _ (HGt.out _ hw) (HS7.out.below hw)).mono ?_; rintro e w10 ⟨rfl, hb1⟩; have hw := hw.trans (hb1.mono hw.size); clear hb1))
      all_goals
        rename_i WZ
        obtain ⟨g0, g1, g2, g3, g4, g5, g6, g7, g8, g9, g10, g11, g12⟩ := HX.out _ hw
        obtain ⟨_, _, ez, hcz⟩ := HS7.out.below hw
        cases ez
        obtain ⟨gz, oz, bz, rfl, -, z0, z1, z2, z3, z4, -⟩ := hcz 0 _ rfl
        have hraw := sRaw_any (HSs.out.frame (Below.toFrame hw fun _ => False) (fun h => h)) (HRr.out.frame (Below.toFrame hw fun _ => False) (fun h => h))
        rw [HRw.out, HM4.out] at hraw
        have HRaw := Lib.hid hraw
        have HWz := Lib.hid hw
        clear hraw hcz
        by_cases h25 : D.got.err = 25
        · have q1 : (D.got.err == 25) = true := by simpa using h25
          have q2 : ((runWant S F i).2.id == (runWant S F i).2.id) = true := by simp
          rw [if_pos h25] at HRaw
          simp only [Nat.zero_mul, Nat.add_zero] at z4
          clear h25 hw
          go_wp2_with fail
          refine HRaw.out.mono ?_
          rintro e wx ⟨rfl, rfl⟩
          go_wp2_with fail
          refine (awakeSp_true _ (HT.out _ (HGt.out _ HWz.out))).mono ?_
          rintro e w13 ⟨rfl, hb13⟩
          go_wp2_with fail
          go_ret
          exact ⟨rfl, (HGt.out _ HWz.out).trans (hb13.mono (HGt.out _ HWz.out).size)⟩
        · have q1 : (D.got.err == 25) = false := by simpa using h25
          rw [if_neg h25] at HRaw
          clear h25 hw
          go_wp2_with fail
          refine HRaw.out.mono ?_
          rintro e wx ⟨rfl, rfl⟩
          go_wp2_with fail
          refine (awakeSp_true _ (HT.out _ (HGt.out _ HWz.out))).mono ?_
          rintro e w13 ⟨rfl, hb13⟩
          go_wp2_with fail
          go_ret
          exact ⟨rfl, (HGt.out _ HWz.out).trans (hb13.mono (HGt.out _ HWz.out).size)⟩
end Go.Proofs.YtpgigpajpcianaaGreatDoor
