/- PasteMeans's walk. -/
import Derived.Test.YteghdepedlaneaaDoorPasteAwake
import Derived.Test.YteghdepedlaneaaDoorPasteFit
import Derived.Test.YteghdepedlaneaaDoorPsC
import Derived.Test.YteghdepedlaneaaDoorPB
import Derived.Outline
import Derived.Deep.RegionHeld3
namespace Go.Proofs.YteghdepedlaneaaDoor
open Go.RowKit

set_option maxRecDepth 100000 in
set_option maxHeartbeats 16000000 in
theorem meansLaw_any (k n : Int) (hn : Pm.Fits n) (va vb iv cv : Value) (A B : List UInt8) (ins : List Strm) (cuts : List Int) (w : World) (hT : Pm.Tab w) (hA : Pm.IsBytes w va A) (hB : Pm.IsBytes w vb B) (hI : IsStrms (· < w.heap.size) w iv ins) (hC : IsInts (· < w.heap.size) w cv cuts) :
    Calls Tryd.prog 4 #[Pm.parV k n va vb, iv, cv] w (Pm.Gives w (.bool true)) := by
  have HT := Lib.hid (show ∀ W, Below w.heap.size w W → Pm.Tab W from fun W hb => hT.below hb)
  have HA := Lib.hid (show ∀ W, Below w.heap.size w W → Pm.IsBytes W va A from fun W hb => hA.below hb)
  have HB := Lib.hid (show ∀ W, Below w.heap.size w W → Pm.IsBytes W vb B from fun W hb => hB.below hb)
  have HI := Lib.hid (show ∀ W, Below w.heap.size w W → IsStrms (· < w.heap.size) W iv ins from fun W hb => hI.below hb)
  have HC := Lib.hid (show ∀ W, Below w.heap.size w W → IsInts (· < w.heap.size) W cv cuts from fun W hb => hC.below hb)
  obtain ⟨H, hH⟩ : ∃ H, H = heavyB A B ins [cuts] := ⟨_, rfl⟩
  obtain ⟨F, hF⟩ : ∃ F, F = fitB k n A B ins := ⟨_, rfl⟩
  have HH := Lib.hid hH
  have HF := Lib.hid hF
  obtain ⟨ai, ci, hiv, -⟩ := id hI
  obtain ⟨ac, cc, hcv, -⟩ := id hC
  subst hiv hcv
  clear hT hA hB hI hC hH hF
  unfold Pm.parV
  go_enter Tryd.func4, Tryd.ntmps4
  go_wp2_with fail
  have hbox : Below w.heap.size w (w.alloc (.cells #[.int .i64 k, .int .i64 n, va, vb] 24)) := (Below.refl _ _).alloc (Nat.le_refl _) _
  have hbx2 : Below w.heap.size w ((w.alloc (.cells #[.int .i64 k, .int .i64 n, va, vb] 24)).alloc (.cells #[.slice ac cuts.length cc] 37)) := hbox.alloc (by simp) _
  have hcc := ints_list (w.alloc (.cells #[.int .i64 k, .int .i64 n, va, vb] 24)) (.slice ac cuts.length cc) cuts (fun _ => True) trivial ((HC.out _ hbox).mono (fun _ _ _ => trivial)) (0, 0)
  rw [World.size_alloc] at hcc
  have hheavy := heavy_any k n va vb (.slice ai ins.length ci) _ A B ins [cuts] _ (HA.out _ hbx2) (HB.out _ hbx2) (HI.out _ hbx2) hcc (by simp)
  unfold Pm.parV at hheavy
  refine hheavy.mono ?_
  clear hheavy hcc
  rintro e w1 ⟨rfl, hb1⟩
  obtain ⟨c0, c1, c2, c3⟩ := box_cells (((Below.refl _ _).alloc (Nat.le_refl _) _).trans (hb1.mono (by simp)))
  have hb := hbx2.trans (hb1.mono hbx2.size)
  have HW := Lib.hid hb
  clear hbox hbx2 hb1 hb
  rw [← HH.out]
  cases H with
  | true =>
    go_wp2_with fail
    refine (awake_true _ (HT.out _ HW.out)).mono ?_
    rintro e w2 ⟨rfl, hb2⟩
    go_wp2_with fail
    go_ret
    exact ⟨rfl, HW.out.trans (hb2.mono HW.out.size)⟩
  | false =>
    obtain ⟨sA, sB, s8, sI, sC⟩ := heavy_no HH.out.symm
    have SI := Lib.hid sI
    have SC := Lib.hid sC
    have HBX := Lib.hid (show ∀ W, Below w1.heap.size w1 W → W.cell? ⟨w.heap.size, 0, none⟩ = some (.int .i64 k) ∧ W.cell? ⟨w.heap.size, 1, none⟩ = some (.int .i64 n) ∧ W.cell? ⟨w.heap.size, 2, none⟩ = some va ∧ W.cell? ⟨w.heap.size, 3, none⟩ = some vb from fun W hb => ⟨Pm.Below.cell hb c0, Pm.Below.cell hb c1, Pm.Below.cell hb c2, Pm.Below.cell hb c3⟩)
    clear sI sC
    go_wp2_with fail
    have hfit := fit_any k n hn va vb (.slice ai ins.length ci) A B ins w1 (HA.out _ HW.out) (HB.out _ HW.out) (HI.out _ HW.out) (by omega)
    unfold Pm.parV at hfit
    refine hfit.mono ?_
    clear hfit
    rintro e w2 ⟨rfl, hb2⟩
    have HW2 := Lib.hid (HW.out.trans (hb2.mono HW.out.size))
    have HB2 := Lib.hid hb2
    clear hb2 c0 c1 c2 c3
    rw [← HF.out]
    cases F with
    | false =>
      go_wp2_with fail
      refine (awake_true _ (HT.out _ HW2.out)).mono ?_
      rintro e w3 ⟨rfl, hb3⟩
      go_wp2_with fail
      go_ret
      exact ⟨rfl, HW2.out.trans (hb3.mono HW2.out.size)⟩
    | true =>
      obtain ⟨rfl, N, rfl, n9, htake, hbound, hcheck, hins⟩ := fit_yes HF.out.symm
      have HN9 := Lib.hid n9
      clear n9
      have HLen := Lib.hid (show ∀ t ∈ ins, t.bytes.length ≤ 4000 from fun t ht => by have := SI.out t ht; omega)
      have HIns := Lib.hid hins
      have HTk := Lib.hid htake
      have HBo := Lib.hid hbound
      have HCh := Lib.hid hcheck
      clear hins
      have hcl := SC.out cuts (by simp)
      obtain ⟨c0, c1, c2, c3⟩ := HBX.out _ HB2.out
      clear htake hbound hcheck
      have hcp := Pm.copy_any 13 N va vb A B w2 (HA.out _ HW2.out) (HB.out _ HW2.out) (by omega) (by omega)
      unfold Pm.parV at hcp
      have HCP := Lib.hid hcp
      clear hcp
      go_wp2_with fail
      refine HCP.out.mono ?_
      rintro e w3 ⟨xa, xb, rfl, hxa, hxb, hb3⟩
      obtain ⟨aa, ca, rfl, -⟩ := id hxa
      obtain ⟨ab, cb, rfl, -⟩ := id hxb
      have HXA := Lib.hid hxa
      have HXB := Lib.hid hxb
      have HW3 := Lib.hid (HW2.out.trans (hb3.mono HW2.out.size))
      have HB3 := Lib.hid (HB2.out.trans (hb3.mono HB2.out.size))
      clear hb3 hxa hxb c0 c1 c2 c3
      unfold Pm.parV
      go_wp2_with fail
      have hnew := paste_yes 13 N (.slice aa A.length ca) (.slice ab B.length cb) A B w3 (HT.out _ HW3.out) HXA.out HXB.out HTk.out HN9.out
      unfold Pm.parV at hnew
      refine hnew.mono ?_
      clear hnew
      rintro e w4 ⟨g, own, rfl, hR, hg, hb4⟩
      have HR := Lib.hid hR
      have HW4 := Lib.hid (HW3.out.trans (hb4.mono HW3.out.size))
      have HB4 := Lib.hid (HB3.out.trans (hb4.mono HB3.out.size))
      have hgw : ∀ k, own k → w3.heap.size ≤ k := fun k hk => hg k hk
      have HGw := Lib.hid hgw
      clear hR hb4 hg hgw
      go_wp2_with fail
      have hs3 := HW3.out.size
      have hs3' := HB3.out.size
      refine (drivePaste_any N A B g (pasteI N A B) own _ _ ins cuts w4 HN9.out HIns.out HR.out ((HI.out _ HW4.out).mono (fun k _ h e => by have := HGw.out k e; omega)) ((HC.out _ HW4.out).mono (fun k _ h e => by have := HGw.out k e; omega)) (by omega) (fun t ht => by have := HLen.out t ht; omega)).mono ?_
      rintro e w5 ⟨rfl, -, hf5⟩
      obtain ⟨d1, d2, d3⟩ := paste_drive N A B ins cuts HN9.out HIns.out HLen.out
      generalize drive (pasteF N A B) ins cuts 100000 0 (start (pasteF N A B) (pasteI N A B)) = D at d1 d2 d3 ⊢
      have hcase := paste_case N A B ins D.got HIns.out d1 d2 d3
      have HCase := Lib.hid hcase
      have hb5 : Below w.heap.size w w5 := Frame.belowO HW4.out (fun k hk => by have := HGw.out k hk; omega) HW4.out.size hf5
      have hb15 : Below w1.heap.size w1 w5 := Frame.belowO HB4.out (fun k hk => by have := HGw.out k hk; omega) HB4.out.size hf5
      have HW5 := Lib.hid hb5
      have hsz5 := hb5.size
      obtain ⟨S0, S1, S2, S3, -, -, -, -, hlit⟩ := got_lit D.got
      rw [hlit]
      obtain ⟨W5, hW5⟩ : ∃ W5, W5 = w5.alloc (.cells #[.string S0, .string S1, .string S2, .string S3, .int .i64 D.got.need, .int .i64 D.got.err, .int .i64 D.got.held, .int .i64 (D.got.taken 0), .int .i64 (D.got.taken 1), .int .i64 (D.got.taken 2), .int .i64 (D.got.taken 3), .bool false] 42) := ⟨_, rfl⟩
      have hb5a : Below w5.heap.size w5 W5 := by rw [hW5]; exact (Below.refl _ _).alloc (Nat.le_refl _) _
      have hrow5 : W5.heap[w5.heap.size]? = some (.cells #[.string S0, .string S1, .string S2, .string S3, .int .i64 D.got.need, .int .i64 D.got.err, .int .i64 D.got.held, .int .i64 (D.got.taken 0), .int .i64 (D.got.taken 1), .int .i64 (D.got.taken 2), .int .i64 (D.got.taken 3), .bool false] 42 (0, 0)) := by rw [hW5]; exact heap_alloc_last w5 _
      have hy : ∀ W, Below W5.heap.size W5 W → Below w.heap.size w W := fun W hb => (hb5.trans (hb5a.mono hb5.size)).trans (hb.mono (Nat.le_trans hb5.size hb5a.size))
      have hx : ∀ W, Below W5.heap.size W5 W → W.cell? ⟨w.heap.size, 0, none⟩ = some (.int .i64 13) ∧ W.cell? ⟨w.heap.size, 1, none⟩ = some (.int .i64 N) ∧ W.cell? ⟨w.heap.size, 2, none⟩ = some (va) ∧ W.cell? ⟨w.heap.size, 3, none⟩ = some (vb) ∧ W.cell? ⟨w5.heap.size, 0, none⟩ = some (.string S0) ∧ W.cell? ⟨w5.heap.size, 1, none⟩ = some (.string S1) ∧ W.cell? ⟨w5.heap.size, 2, none⟩ = some (.string S2) ∧ W.cell? ⟨w5.heap.size, 3, none⟩ = some (.string S3) ∧ W.cell? ⟨w5.heap.size, 4, none⟩ = some (.int .i64 D.got.need) ∧ W.cell? ⟨w5.heap.size, 5, none⟩ = some (.int .i64 D.got.err) ∧ W.cell? ⟨w5.heap.size, 6, none⟩ = some (.int .i64 D.got.held) ∧ W.cell? ⟨w5.heap.size, 7, none⟩ = some (.int .i64 (D.got.taken 0)) ∧ W.cell? ⟨w5.heap.size, 8, none⟩ = some (.int .i64 (D.got.taken 1)) ∧ W.cell? ⟨w5.heap.size, 9, none⟩ = some (.int .i64 (D.got.taken 2)) ∧ W.cell? ⟨w5.heap.size, 10, none⟩ = some (.int .i64 (D.got.taken 3)) ∧ W.cell? ⟨w5.heap.size, 11, none⟩ = some (.bool false) := fun W hb => by
        obtain ⟨x0, x1, x2, x3⟩ := HBX.out W ((hb15.trans (hb5a.mono hb15.size)).trans (hb.mono (Nat.le_trans hb15.size hb5a.size)))
        have hr := (hb.block w5.heap.size (Array.getElem?_eq_some_iff.1 hrow5).1).trans hrow5
        refine ⟨x0, x1, x2, x3, ?_, ?_, ?_, ?_, ?_, ?_, ?_, ?_, ?_, ?_, ?_, ?_⟩
        all_goals
          rw [cell_of_row _ _ _ _ _ _ hr]
          rfl
      obtain ⟨k0, k1, k2, k3, k4⟩ := hcase
      have hsame : ∀ (q : Nat → Prop) W wv, Below W5.heap.size W5 W → IsStrms q W wv [pasteWant N A B ins] → Calls Tryd.prog 18 #[.agg #[.string S0, .string S1, .string S2, .string S3, .int .i64 D.got.need, .int .i64 D.got.err, .int .i64 D.got.held, .int .i64 (D.got.taken 0), .int .i64 (D.got.taken 1), .int .i64 (D.got.taken 2), .int .i64 (D.got.taken 3), .bool false], .slice ai ins.length ci, wv] W (Pm.Gives W (.bool true)) := fun q W wv hb hs => by
        have := same_one D.got (.slice ai ins.length ci) wv ins (pasteWant N A B ins) W (HI.out _ (hy W hb)) hs k0 k1 k2 k3 k4
        rw [hlit] at this
        exact this
      have HX := Lib.hid hx
      have HY := Lib.hid hy
      have HSame := Lib.hid hsame
      have HW55 := Lib.hid hW5
      clear hf5 hb5 hb15 d1 d2 d3 hlit hsame hx hy hrow5 hb5a k0 k1 k2 k3 k4 HCase hW5
      go_upto_region 7 with fail
      rw [← HW55.out]
      have hw : Below W5.heap.size W5 W5.drew := (Below.refl _ _).drew
      go_region_held3 (fun W => W.cell? ⟨w.heap.size, 0, none⟩ = some (.int .i64 13) ∧ W.cell? ⟨w.heap.size, 1, none⟩ = some (.int .i64 N) ∧ W.cell? ⟨w.heap.size, 2, none⟩ = some (va) ∧ W.cell? ⟨w.heap.size, 3, none⟩ = some (vb) ∧ W.cell? ⟨w5.heap.size, 0, none⟩ = some (.string S0) ∧ W.cell? ⟨w5.heap.size, 1, none⟩ = some (.string S1) ∧ W.cell? ⟨w5.heap.size, 2, none⟩ = some (.string S2) ∧ W.cell? ⟨w5.heap.size, 3, none⟩ = some (.string S3) ∧ W.cell? ⟨w5.heap.size, 4, none⟩ = some (.int .i64 D.got.need) ∧ W.cell? ⟨w5.heap.size, 5, none⟩ = some (.int .i64 D.got.err) ∧ W.cell? ⟨w5.heap.size, 6, none⟩ = some (.int .i64 D.got.held) ∧ W.cell? ⟨w5.heap.size, 7, none⟩ = some (.int .i64 (D.got.taken 0)) ∧ W.cell? ⟨w5.heap.size, 8, none⟩ = some (.int .i64 (D.got.taken 1)) ∧ W.cell? ⟨w5.heap.size, 9, none⟩ = some (.int .i64 (D.got.taken 2)) ∧ W.cell? ⟨w5.heap.size, 10, none⟩ = some (.int .i64 (D.got.taken 3)) ∧ W.cell? ⟨w5.heap.size, 11, none⟩ = some (.bool false))
        (exact HX.out _ hw)
        (first
        | (go_at_call 18; refine (HSame.out _ _ _ hw HS6.out).mono ?_; rintro e w7 ⟨rfl, hb1⟩; have hw := hw.trans (hb1.mono hw.size); clear hb1)
        | (go_at_call 19; refine (pasteMeans_any 13 N va vb A B (.slice ai ins.length ci) ins _ (HA.out _ (HY.out _ hw)) (HB.out _ (HY.out _ hw)) (HI.out _ (HY.out _ hw)) HN9.out HIns.out HLen.out).mono ?_; rintro e w6 ⟨wv, rfl, hs6, hb1⟩; have HS6 := Lib.hid hs6; have hw := hw.trans (hb1.mono hw.size); clear hb1 hs6)
        | (go_at_call 11; refine (awake_true _ (HT.out _ (HY.out _ hw))).mono ?_; rintro e w7 ⟨rfl, hb1⟩; have hw := hw.trans (hb1.mono hw.size); clear hb1))
      all_goals (go_wp2_with fail; go_ret; exact ⟨rfl, HY.out _ hw⟩)

end Go.Proofs.YteghdepedlaneaaDoor
