/- CountHolds's walk. -/
import Derived.Test.YtlflhjgfegflfaaDoorCountAwake
import Derived.Test.YtlflhjgfegflfaaDoorCountFit
import Derived.Test.YtlflhjgfegflfaaDoorPD
import Derived.Outline
namespace Go.Proofs.YtlflhjgfegflfaaDoor
open Go.RowKit
variable [Inhabited TabBox]

set_option maxRecDepth 100000 in
set_option maxHeartbeats 16000000 in
theorem holdsLaw_any (k n : Int) (hn : Pm.Fits n) (va vb iv cv : Value) (A B : List UInt8) (ins : List Strm) (cuts : List Int) (w : World) (hT : TabP w) (hA : Pm.IsBytes w va A) (hB : Pm.IsBytes w vb B) (hI : IsStrms (· < w.heap.size) w iv ins) (hC : IsInts (· < w.heap.size) w cv cuts) :
    Calls Tryd.prog 5 #[Pm.parV k n va vb, iv, cv] w (Pm.Gives w (.bool true)) := by
  have HT := Lib.hid (show ∀ W, Below w.heap.size w W → TabP W from fun W hb => hT.below hb)
  have HA := Lib.hid (show ∀ W, Below w.heap.size w W → Pm.IsBytes W va A from fun W hb => hA.below hb)
  have HB := Lib.hid (show ∀ W, Below w.heap.size w W → Pm.IsBytes W vb B from fun W hb => hB.below hb)
  have HI := Lib.hid (show ∀ W, Below w.heap.size w W → IsStrms (· < w.heap.size) W iv ins from fun W hb => hI.below hb)
  have HC := Lib.hid (show ∀ W, Below w.heap.size w W → IsInts (· < w.heap.size) W cv cuts from fun W hb => hC.below hb)
  obtain ⟨H, hH⟩ : ∃ H, H = heavyB A B ins [cuts] := ⟨_, rfl⟩
  obtain ⟨F, hF⟩ : ∃ F, F = fitB k n A B ins := ⟨_, rfl⟩
  have HH := Lib.hid hH
  have HF := Lib.hid hF
  obtain ⟨ai, ci, hiv, -⟩ := id hI
  obtain ⟨ac, cc, hcv, -⟩ := id hC
  subst hiv hcv
  clear hT hA hB hI hC hH hF
  unfold Pm.parV
  go_enter Tryd.func5, Tryd.ntmps5
  go_wp2_with fail
  have hbox : Below w.heap.size w (w.alloc (.cells #[.int .i64 k, .int .i64 n, va, vb] 24)) := (Below.refl _ _).alloc (Nat.le_refl _) _
  have hbx2 : Below w.heap.size w ((w.alloc (.cells #[.int .i64 k, .int .i64 n, va, vb] 24)).alloc (.cells #[.slice ac cuts.length cc] 37)) := hbox.alloc (by simp) _
  have hcc := ints_list (w.alloc (.cells #[.int .i64 k, .int .i64 n, va, vb] 24)) (.slice ac cuts.length cc) cuts (fun _ => True) trivial ((HC.out _ hbox).mono (fun _ _ _ => trivial)) (0, 0)
  rw [World.size_alloc] at hcc
  have hheavy := heavy_any k n va vb (.slice ai ins.length ci) _ A B ins [cuts] _ (HA.out _ hbx2) (HB.out _ hbx2) (HI.out _ hbx2) hcc (by simp)
  unfold Pm.parV at hheavy
  refine hheavy.mono ?_
  clear hheavy hcc
  rintro e w1 ⟨rfl, hb1⟩
  obtain ⟨c0, c1, c2, c3⟩ := box_cells (((Below.refl _ _).alloc (Nat.le_refl _) _).trans (hb1.mono (by simp)))
  have hb := hbx2.trans (hb1.mono hbx2.size)
  have HW := Lib.hid hb
  clear hbox hbx2 hb1 hb
  rw [← HH.out]
  cases H with
  | true =>
    go_wp2_with fail
    refine (awake_true _ (HT.out _ HW.out)).mono ?_
    rintro e w2 ⟨rfl, hb2⟩
    go_wp2_with fail
    go_ret
    exact ⟨rfl, HW.out.trans (hb2.mono HW.out.size)⟩
  | false =>
    obtain ⟨sA, sB, s8, sI, sC⟩ := heavy_no HH.out.symm
    have SI := Lib.hid sI
    have SC := Lib.hid sC
    have HBX := Lib.hid (show ∀ W, Below w1.heap.size w1 W → W.cell? ⟨w.heap.size, 0, none⟩ = some (.int .i64 k) ∧ W.cell? ⟨w.heap.size, 1, none⟩ = some (.int .i64 n) ∧ W.cell? ⟨w.heap.size, 2, none⟩ = some va ∧ W.cell? ⟨w.heap.size, 3, none⟩ = some vb from fun W hb => ⟨Pm.Below.cell hb c0, Pm.Below.cell hb c1, Pm.Below.cell hb c2, Pm.Below.cell hb c3⟩)
    clear sI sC
    go_wp2_with fail
    have hfit := fit_any k n hn va vb (.slice ai ins.length ci) A B ins w1 (HA.out _ HW.out) (HB.out _ HW.out) (HI.out _ HW.out) (by omega)
    unfold Pm.parV at hfit
    refine hfit.mono ?_
    clear hfit
    rintro e w2 ⟨rfl, hb2⟩
    have HW2 := Lib.hid (HW.out.trans (hb2.mono HW.out.size))
    have HB2 := Lib.hid hb2
    clear hb2 c0 c1 c2 c3
    rw [← HF.out]
    cases F with
    | false =>
      go_wp2_with fail
      refine (awake_true _ (HT.out _ HW2.out)).mono ?_
      rintro e w3 ⟨rfl, hb3⟩
      go_wp2_with fail
      go_ret
      exact ⟨rfl, HW2.out.trans (hb3.mono HW2.out.size)⟩
    | true =>
      obtain ⟨rfl, N, rfl, n9, htake, hbound, hcheck, i, rfl⟩ := fit_yes HF.out.symm
      have HTk := Lib.hid htake
      have HBo := Lib.hid hbound
      have HCh := Lib.hid hcheck
      have hlen := SI.out i (by simp)
      have hcl := SC.out cuts (by simp)
      obtain ⟨c0, c1, c2, c3⟩ := HBX.out _ HB2.out
      clear htake hbound hcheck
      go_wp2_with fail
      have hnew := count_yes 9 N va vb A B w2 (HT.out _ HW2.out) (HA.out _ HW2.out) (HB.out _ HW2.out) HTk.out n9
      unfold Pm.parV at hnew
      refine hnew.mono ?_
      clear hnew
      rintro e w3 ⟨g, own, rfl, hR, hg, hb3⟩
      have HR := Lib.hid hR
      have HW3 := Lib.hid (HW2.out.trans (hb3.mono HW2.out.size))
      obtain ⟨c0, c1, c2, c3⟩ := HBX.out _ (HB2.out.trans (hb3.mono HB2.out.size))
      have hgw : ∀ k, own k → w.heap.size ≤ k := fun k hk => Nat.le_trans HW2.out.size (hg k hk)
      have HGw := Lib.hid hgw
      have HB3 := Lib.hid hb3
      clear hR hb3 hg hgw
      go_wp2_with fail
      have hbd := Pm.refBound_any 9 N hn va vb A B w3 (HA.out _ HW3.out) (HB.out _ HW3.out) (by omega)
      rw [HBo.out, HCh.out] at hbd
      unfold Pm.parV at hbd
      refine hbd.mono ?_
      clear hbd
      rintro e w4 ⟨rfl, hb4⟩
      have HR4 := Lib.hid (count_below HR.out hb4)
      have HW4 := Lib.hid (HW3.out.trans (hb4.mono HW3.out.size))
      clear hb4 c0 c1 c2 c3
      go_wp2_with fail
      refine (driveCount_any N A B g (countI N A B) own _ _ i cuts w4 HR4.out ((HI.out _ HW4.out).mono (fun k _ h e => by have := HGw.out k e; omega)) ((HC.out _ HW4.out).mono (fun k _ h e => by have := HGw.out k e; omega)) (by omega) (by omega)).mono ?_
      rintro e w5 ⟨rfl, ⟨now, hR5, -⟩, hf5⟩
      have hh1 := count_held N A B i cuts
      generalize drive (countF N A B) [i] cuts 100000 0 (start (countF N A B) (countI N A B)) = D at hh1 hR5 ⊢
      obtain ⟨S0, S1, S2, S3, -, -, -, -, hlit⟩ := got_lit D.got
      rw [hlit]
      have hb5 : Below w.heap.size w w5 := Frame.belowO HW4.out HGw.out HW4.out.size hf5
      have HW5 := Lib.hid hb5
      have hsz5 := hb5.size
      obtain ⟨fN, fH, fF, fE, fM, rN, rH, rF, rE, rM, hD⟩ := count_drives N A B g
      have goH := hD.goH
      have inH := hD.inH
      unfold Goes at goH
      unfold Enters at inH
      have HD := Lib.hid hD
      have hhb := hD.heldB _ _ _ hR5
      have HR6 := Lib.hid (show ∀ o, countR N A B g D.s now (w5.alloc o) from fun o => count_below hR5 ((Below.refl _ _).alloc (Nat.le_refl _) _))
      obtain ⟨Hb, hHb⟩ : ∃ Hb, Hb = (countF N A B).held D.s := ⟨_, rfl⟩
      rw [← hHb] at hhb
      have HHb := Lib.hid hHb
      obtain ⟨q1, q2⟩ := hhb
      clear hlit hR5 hf5 hb5 hD hHb
      go_wp2_with fail
      refine (HD.out.held _ _ _ (HR6.out _)).mono ?_
      rintro e w6 ⟨rfl, hb6⟩
      have HBd := Lib.hid (show Below w.heap.size w w6 from (HW5.out.alloc hsz5 _).trans (hb6.mono (by simp; omega)))
      clear hb6
      rw [← HHb.out]
      clear goH inH
      go_wp2_with fail
      refine (awake_true _ (HT.out _ HBd.out)).mono ?_
      rintro e w7 ⟨rfl, hb7⟩
      go_wp2_with fail
      go_ret
      exact ⟨rfl, HBd.out.trans (hb7.mono HBd.out.size)⟩

end Go.Proofs.YtlflhjgfegflfaaDoor
