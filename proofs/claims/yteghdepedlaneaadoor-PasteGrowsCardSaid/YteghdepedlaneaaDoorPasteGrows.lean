/- PasteGrows's walk. -/
import Derived.Test.YteghdepedlaneaaDoorPasteAwake
import Derived.Test.YteghdepedlaneaaDoorPasteFit
import Derived.Test.YteghdepedlaneaaDoorPsD
import Derived.Test.YteghdepedlaneaaDoorGrowx
import Derived.Test.YteghdepedlaneaaDoorGcopy
import Derived.Test.YteghdepedlaneaaDoorGopen
import Derived.Test.YteghdepedlaneaaDoorGbegins
import Derived.Outline
import Derived.Deep.RegionHeld3
import Derived.Test.YteghdepedlaneaaDoorRA
namespace Go.Proofs.YteghdepedlaneaaDoor
open Go.RowKit

set_option maxRecDepth 100000 in
set_option maxHeartbeats 16000000 in
theorem growsLaw_any (k n : Int) (hn : Pm.Fits n) (va vb iv mv ev cv : Value) (A B : List UInt8) (more : List (List UInt8)) (ends : List Bool) (ins : List Strm) (cuts : List Int) (w : World) (hT : Pm.Tab w) (hA : Pm.IsBytes w va A) (hB : Pm.IsBytes w vb B) (hI : IsStrms (· < w.heap.size) w iv ins) (hC : IsInts (· < w.heap.size) w cv cuts) (hX : IsPieces (· < w.heap.size) w mv more) (hY : IsBools (· < w.heap.size) w ev ends) :
    Calls Tryd.prog 8 #[Pm.parV k n va vb, iv, mv, ev, cv] w (Pm.Gives w (.bool true)) := by
  have HT := Lib.hid (show ∀ W, Below w.heap.size w W → Pm.Tab W from fun W hb => hT.below hb)
  have HA := Lib.hid (show ∀ W, Below w.heap.size w W → Pm.IsBytes W va A from fun W hb => hA.below hb)
  have HB := Lib.hid (show ∀ W, Below w.heap.size w W → Pm.IsBytes W vb B from fun W hb => hB.below hb)
  have HI := Lib.hid (show ∀ W, Below w.heap.size w W → IsStrms (· < w.heap.size) W iv ins from fun W hb => hI.below hb)
  have HC := Lib.hid (show ∀ W, Below w.heap.size w W → IsInts (· < w.heap.size) W cv cuts from fun W hb => hC.below hb)
  have HMo := Lib.hid (show ∀ W, Below w.heap.size w W → IsPieces (· < w.heap.size) W mv more from fun W hb => hX.below hb)
  have HEn := Lib.hid (show ∀ W, Below w.heap.size w W → IsBools (· < w.heap.size) W ev ends from fun W hb => hY.below hb)
  obtain ⟨H, hH⟩ : ∃ H, H = heavyB A B ins [cuts] := ⟨_, rfl⟩
  obtain ⟨F, hF⟩ : ∃ F, F = fitB k n A B ins := ⟨_, rfl⟩
  have HH := Lib.hid hH
  have HF := Lib.hid hF
  obtain ⟨ai, ci, hiv, -⟩ := id hI
  obtain ⟨ac, cc, hcv, -⟩ := id hC
  obtain ⟨am, cm, hmv, -⟩ := id hX
  obtain ⟨ae, ce, hev, -⟩ := id hY
  subst hiv hcv hmv hev
  clear hT hA hB hI hC hH hF hX hY
  unfold Pm.parV
  go_enter Tryd.func8, Tryd.ntmps8
  go_wp2_with fail
  have hbox : Below w.heap.size w (w.alloc (.cells #[.int .i64 k, .int .i64 n, va, vb] 24)) := (Below.refl _ _).alloc (Nat.le_refl _) _
  have hbx2 : Below w.heap.size w ((w.alloc (.cells #[.int .i64 k, .int .i64 n, va, vb] 24)).alloc (.cells #[.slice ac cuts.length cc] 37)) := hbox.alloc (by simp) _
  have hcc := ints_list (w.alloc (.cells #[.int .i64 k, .int .i64 n, va, vb] 24)) (.slice ac cuts.length cc) cuts (fun _ => True) trivial ((HC.out _ hbox).mono (fun _ _ _ => trivial)) (0, 0)
  rw [World.size_alloc] at hcc
  have hheavy := heavy_any k n va vb (.slice ai ins.length ci) _ A B ins [cuts] _ (HA.out _ hbx2) (HB.out _ hbx2) (HI.out _ hbx2) hcc (by simp)
  unfold Pm.parV at hheavy
  refine hheavy.mono ?_
  clear hheavy hcc
  rintro e w1 ⟨rfl, hb1⟩
  obtain ⟨c0, c1, c2, c3⟩ := box_cells (((Below.refl _ _).alloc (Nat.le_refl _) _).trans (hb1.mono (by simp)))
  have hb := hbx2.trans (hb1.mono hbx2.size)
  have HW := Lib.hid hb
  clear hbox hbx2 hb1 hb
  rw [← HH.out]
  cases H with
  | true =>
    go_wp2_with fail
    refine (awake_true _ (HT.out _ HW.out)).mono ?_
    rintro e w2 ⟨rfl, hb2⟩
    go_wp2_with fail
    go_ret
    exact ⟨rfl, HW.out.trans (hb2.mono HW.out.size)⟩
  | false =>
    obtain ⟨sA, sB, s8, sI, sC⟩ := heavy_no HH.out.symm
    have SI := Lib.hid sI
    have SC := Lib.hid sC
    have HBX := Lib.hid (show ∀ W, Below w1.heap.size w1 W → W.cell? ⟨w.heap.size, 0, none⟩ = some (.int .i64 k) ∧ W.cell? ⟨w.heap.size, 1, none⟩ = some (.int .i64 n) ∧ W.cell? ⟨w.heap.size, 2, none⟩ = some va ∧ W.cell? ⟨w.heap.size, 3, none⟩ = some vb from fun W hb => ⟨Pm.Below.cell hb c0, Pm.Below.cell hb c1, Pm.Below.cell hb c2, Pm.Below.cell hb c3⟩)
    clear sI sC
    go_wp2_with fail
    have hfit := fit_any k n hn va vb (.slice ai ins.length ci) A B ins w1 (HA.out _ HW.out) (HB.out _ HW.out) (HI.out _ HW.out) (by omega)
    unfold Pm.parV at hfit
    refine hfit.mono ?_
    clear hfit
    rintro e w2 ⟨rfl, hb2⟩
    have HW2 := Lib.hid (HW.out.trans (hb2.mono HW.out.size))
    have HB2 := Lib.hid hb2
    clear hb2 c0 c1 c2 c3
    rw [← HF.out]
    cases F with
    | false =>
      go_wp2_with fail
      refine (awake_true _ (HT.out _ HW2.out)).mono ?_
      rintro e w3 ⟨rfl, hb3⟩
      go_wp2_with fail
      go_ret
      exact ⟨rfl, HW2.out.trans (hb3.mono HW2.out.size)⟩
    | true =>
      obtain ⟨rfl, N, rfl, n9, htake, hbound, hcheck, hins⟩ := fit_yes HF.out.symm
      have HN9 := Lib.hid n9
      have HLen := Lib.hid (show ∀ t ∈ ins, t.bytes.length ≤ 2000 from fun t ht => by have := SI.out t ht; omega)
      have HIns := Lib.hid hins
      have HBs := Lib.hid (paste_base (HT.out _ (Below.refl _ _)))
      have HTk := Lib.hid htake
      have HBo := Lib.hid hbound
      have HCh := Lib.hid hcheck
      have hpos := paste_some N A B n9
      rw [← hins] at hpos
      have HPos := Lib.hid hpos
      have hcl := SC.out cuts (by simp)
      obtain ⟨c0, c1, c2, c3⟩ := HBX.out _ HB2.out
      clear htake hbound hcheck n9 hins hpos
      by_cases hml : 8 < more.length
      · have qb : (8 : Int) < (more.length : Int) := by omega
        clear hml
        go_wp2_with fail
        refine (awake_true _ (HT.out _ HW2.out)).mono ?_
        rintro e w3 ⟨rfl, hb3⟩
        go_wp2_with fail
        go_ret
        exact ⟨rfl, HW2.out.trans (hb3.mono HW2.out.size)⟩
      have qb : ¬ (8 : Int) < (more.length : Int) := by omega
      clear hml
      go_wp2_with fail
      refine (copyX_any (.slice ai ins.length ci) ins w2 (HI.out _ HW2.out) (fun t ht => by have := HLen.out t ht; omega) s8).mono ?_
      rintro e w3 ⟨lv, X0, rfl, hX0, hown, hb3⟩
      have hXl : X0.length = ins.length := by rw [← hX0, List.length_map]
      obtain ⟨gs, lcap, e⟩ := hown.here (by rw [hXl]; exact HPos.out)
      rw [hXl] at e
      subst e
      have HW3 := Lib.hid (HW2.out.trans (hb3.mono HW2.out.size))
      have HB3 := Lib.hid (HB2.out.trans (hb3.mono HB2.out.size))
      have hs2 := HW2.out.size
      have hs2' := HB2.out.size
      have hs3 := hb3.size
      have HSt := Lib.hid (LongsX.start hX0 hown)
      have HGs := Lib.hid hown.lt.1
      clear hown hX0 hXl hb3 c0 c1 c2 c3
      go_wp2_with fail
      go_loopw [12] (fun jv wr => ∃ j : Nat, jv = .int .i64 j ∧ LongsX w2.heap.size w3 ins gs lcap j wr) (fun jv _ => ins.length - (intOf jv).toNat)
      case atStart => exact ⟨0, rfl, HSt.out⟩
      case round =>
        obtain ⟨j, rfl, hlong⟩ := hrel
        have hle := hlong.le
        have HLg := Lib.hid hlong
        have HWr := Lib.hid (HW3.out.trans (hlong.below.mono hs2))
        clear hlong
        by_cases hlt : j < ins.length
        · obtain ⟨i, hi⟩ : ∃ i, ins[j]? = some i := ⟨ins[j]'hlt, List.getElem?_eq_getElem hlt⟩
          have HSk := Lib.hid (HLg.out.skip hi)
          obtain ⟨X, bv, hXl, hown, hXj, hk⟩ := HLg.out.here hi
          have k0 : wr.cell? ⟨gs, j * 5, none⟩ = some bv := hown.cell hXj 0 (by omega)
          have k1 : wr.cell? ⟨gs, j * 5 + 1, none⟩ = some (.bool i.ended) := hown.cell hXj 1 (by omega)
          have k2 : wr.cell? ⟨gs, j * 5 + 2, none⟩ = some (.int .i64 i.code) := hown.cell hXj 2 (by omega)
          have z0 : wr.frozen? ⟨gs, j * 5, none⟩ = false := hown.froz _
          have z1 : wr.frozen? ⟨gs, j * 5 + 1, none⟩ = false := hown.froz _
          have q0 : (0 : Int) ≤ (j : Int) := by omega
          have q1 : (j : Int) < (ins.length : Int) := by omega
          have hil := HLen.out i (List.mem_of_getElem? hi)
          have HI' := Lib.hid hi
          have HXl := Lib.hid hXl
          have HOw := Lib.hid hown
          have HXj := Lib.hid hXj
          have HK := Lib.hid hk
          clear hi hXl hown hXj hk
          cases he : i.ended with
          | true =>
            rw [he] at k1
            go_wp2_with fail
            go_roundw
            case rel => exact ⟨j + 1, by go_num, HSk.out⟩
            case measure => simp [intOf]; omega
          | false =>
            rw [he] at k1
            by_cases hcode : i.code = 0
            · rw [hcode] at k2
              have HEnd := Lib.hid he
              clear hcode he
              have hE0 : (¬ (j : Int) < (ends.length : Int)) ∨ (j : Int) < (ends.length : Int) ∧ ∃ b geb eoff, ae = some ⟨geb, eoff, none⟩ ∧ ∀ W, Below w.heap.size w W → W.cell? ⟨geb, eoff + j, none⟩ = some (.bool b) := by
                obtain ⟨_, _, e, hcl2⟩ := HEn.out w (Below.refl _ _)
                cases e
                cases hends : ends[j]? with
                | none => exact .inl (by have := List.getElem?_eq_none_iff.1 hends; omega)
                | some b =>
                  obtain ⟨geb, eoff, e2, -, ke⟩ := hcl2 j b hends
                  exact .inr ⟨by have := (List.getElem?_eq_some_iff.1 hends).1; omega, b, geb, eoff, e2, fun W hb => Pm.Below.cell hb ke⟩
              have HE0 := Lib.hid hE0
              clear hE0
              cases hmj : more[j]? with
              | none =>
                have q6 : ¬ (j : Int) < (more.length : Int) := by have := List.getElem?_eq_none_iff.1 hmj; omega
                have hput : ∀ eb, LongsX w2.heap.size w3 ins gs lcap (j + 1) (wr.setCell ⟨gs, j * 5 + 1, none⟩ (.bool eb)) := fun eb =>
                  LongsX.step HXl.out HK.out HI'.out (.inr ⟨HEnd.out, [], eb, by rw [List.append_nil]⟩) (by simp) (HOw.out.set_ended HXj.out eb) (HLg.out.below.setCell HGs.out _)
                have HPut := Lib.hid hput
                clear hput hmj
                rcases HE0.out with q5 | ⟨q5, b, geb, eoff, rfl, hke⟩
                · go_wp2_with fail
                  go_roundw
                  case rel => exact ⟨j + 1, by go_num, HPut.out false⟩
                  case measure => simp [intOf]; omega
                · have ke := hke _ HWr.out
                  clear hke
                  go_wp2_with fail
                  go_roundw
                  case rel => exact ⟨j + 1, by go_num, HPut.out b⟩
                  case measure => simp [intOf]; omega
              | some x =>
                have q6 : (j : Int) < (more.length : Int) := by have := (List.getElem?_eq_some_iff.1 hmj).1; omega
                obtain ⟨_, _, e, hcm⟩ := HMo.out w (Below.refl _ _)
                obtain ⟨gm, moff, xv, e2, -, km, hxb⟩ := hcm j x hmj
                cases e
                cases e2
                obtain ⟨ax, cx, rfl, -, -⟩ := id hxb
                have HXv := Lib.hid (show ∀ W, Below w.heap.size w W → W.cell? ⟨gm, moff + j, none⟩ = some (.slice ax x.length cx) ∧ IsBytes (· < w.heap.size) W (.slice ax x.length cx) x from fun W hb => ⟨Pm.Below.cell hb km, hxb.below hb⟩)
                have km3 := (HXv.out _ HWr.out).1
                clear hcm hxb km hmj
                by_cases hx1 : 1000 < x.length
                · have q7 : (1000 : Int) < (x.length : Int) := by omega
                  clear hx1
                  go_wp2_with fail
                  refine (awake_true _ (HT.out _ HWr.out)).mono ?_
                  rintro e w4 ⟨rfl, hb4⟩
                  go_wp2_with fail
                  go_ret
                  exact ⟨rfl, HWr.out.trans (hb4.mono HWr.out.size)⟩
                · have q7 : ¬ (1000 : Int) < (x.length : Int) := by omega
                  have HX1 := Lib.hid hx1
                  clear hx1
                  go_upto_region 11 with fail
                  refine wp_region_noPanic ?_
                  refine wp_region_held (S := Below w.heap.size w) (by kernel_rfl) ?_
                  change wpAnyH _ _ _ _ _ _ _ _ wr.drew
                  have hM : Below w.heap.size w wr.drew := HWr.out.drew
                  have hbd : Below w2.heap.size w3 wr.drew := HLg.out.below.drew
                  have hod : OwnX w2.heap.size X (.slice (some ⟨gs, 0, none⟩) ins.length lcap) wr.drew := HOw.out.below ((Below.refl _ _).drew)
                  clear k0 k1 k2 z0 z1 km3
                  generalize wr.drew = W2 at hM hbd hod ⊢
                  have hyd := hod.bytes j _ HXj.out
                  have ksz := Nat.le_trans hs3 hbd.size
                  refine Pm.take_at (i := 0) 70 (.slice (some ⟨gs, 0, none⟩) ins.length lcap) rfl rfl (by kernel_rfl) (by kernel_rfl) (by kernel_rfl) rfl (fun _ _ => by go_simp) hM ?_
                  refine Pm.take_at (i := 1) 71 (.int .i64 j) rfl rfl (by kernel_rfl) (by kernel_rfl) (by kernel_rfl) rfl (fun _ _ => by go_simp) hM ?_
                  refine Pm.take_at (i := 2) 72 (.slice (some ⟨gs, 0, none⟩) ins.length lcap) rfl rfl (by kernel_rfl) (by kernel_rfl) (by kernel_rfl) rfl (fun _ _ => by go_simp) hM ?_
                  refine Pm.take_at (i := 3) 73 (.int .i64 j) rfl rfl (by kernel_rfl) (by kernel_rfl) (by kernel_rfl) rfl (fun _ _ => by go_simp) hM ?_
                  refine Pm.take_at (i := 4) 74 (.pointer (some ⟨gs, j * 5, none⟩)) rfl rfl (by kernel_rfl) (by kernel_rfl) (by kernel_rfl) rfl (fun _ _ => by go_simp) hM ?_
                  refine Pm.take_at (i := 5) 75 (.pointer (some ⟨gs, j * 5, none⟩)) rfl rfl (by kernel_rfl) (by kernel_rfl) (by kernel_rfl) rfl (fun _ _ => by go_simp) hM ?_
                  refine Pm.take_at (i := 7) 77 (.slice (some ⟨gm, moff, none⟩) more.length cm) rfl rfl (by kernel_rfl) (by kernel_rfl) (by kernel_rfl) rfl (fun _ _ => by go_simp) hM ?_
                  refine Pm.take_at (i := 8) 78 (.int .i64 j) rfl rfl (by kernel_rfl) (by kernel_rfl) (by kernel_rfl) rfl (fun _ _ => by go_simp) hM ?_
                  refine Pm.take_at (i := 9) 79 (.pointer (some ⟨gm, moff + j, none⟩)) rfl rfl (by kernel_rfl) (by kernel_rfl) (by kernel_rfl) rfl (fun _ _ => by go_simp) hM ?_
                  refine Pm.take_at (i := 10) 80 (.slice ax x.length cx) rfl rfl (by kernel_rfl) (by kernel_rfl) (by kernel_rfl) rfl (fun W h => by have hc := (HXv.out W h).1; go_simp) hM ?_
                  have k0 : W2.cell? ⟨gs, j * 5, none⟩ = some bv := hod.cell HXj.out 0 (by omega)
                  refine Pm.one_now (i := 6) rfl (by kernel_rfl) rfl ?_
                  go_wp2_with fail
                  refine Pm.one_now (i := 11) rfl (by kernel_rfl) rfl ?_
                  refine wp_append_more (.tmp 76) (.tmp 80) rfl w2.heap.size bv (.slice ax x.length cx) i.bytes x rfl hyd rfl (HXv.out _ hM).2 (by have := HX1.out; omega) (by omega) 81 rfl ?_
                  intro v7 W7 ho7 hg7 at7
                  have hb7 : Below w2.heap.size W2 W7 := (Below.refl _ _).grown hg7 (by omega) (fun j ej => (hyd.lt j ej).1)
                  have hne : some gs ≠ bv.ownBlock := fun e => hod.apart j _ HXj.out gs e.symm rfl
                  have hX8 := hod.set_bytes HXj.out x hg7 ho7 at7
                  have k7 : W7.cell? ⟨gs, j * 5, none⟩ = some bv := hg7.cell k0 hne
                  have z7 : W7.frozen? ⟨gs, j * 5, none⟩ = false := (World.frozen?_of_block (hg7.block gs hod.lt.2 hne)).trans (hod.froz _)
                  obtain ⟨a7, c7, rfl⟩ := Pm.owns_slice ho7
                  have hM7 : Below w.heap.size w W7 := hM.trans (hb7.mono hs2)
                  have hbw8 : Below w2.heap.size w3 (W7.setCell ⟨gs, j * 5, none⟩ (.slice a7 (i.bytes ++ x).length c7)) := (hbd.trans hb7).setCell HGs.out _
                  have hM8 : Below w.heap.size w (W7.setCell ⟨gs, j * 5, none⟩ (.slice a7 (i.bytes ++ x).length c7)) := hM7.setCell (Nat.le_trans hs2 HGs.out) _
                  have hX8 : OwnX w2.heap.size (X.set j ({ i with bytes := i.bytes ++ x }, .slice a7 (i.bytes ++ x).length c7)) (.slice (some ⟨gs, 0, none⟩) ins.length lcap) (W7.setCell ⟨gs, j * 5, none⟩ (.slice a7 (i.bytes ++ x).length c7)) := hX8
                  have HX8 := Lib.hid hX8
                  have HBw8 := Lib.hid hbw8
                  have HM8 := Lib.hid hM8
                  refine ⟨hM7, ?_⟩
                  simp only [Act.put]
                  refine Pm.take_at (i := 12) 82 (.pointer (some ⟨gs, j * 5, none⟩)) rfl rfl (by kernel_rfl) (by kernel_rfl) (by kernel_rfl) rfl (fun _ _ => by go_simp) hM7 ?_
                  refine Pm.take_at (i := 13) 83 (.pointer (some ⟨gs, j * 5, none⟩)) rfl rfl (by kernel_rfl) (by kernel_rfl) (by kernel_rfl) rfl (fun _ _ => by go_simp) hM7 ?_
                  clear hX8 hbw8 hM8 at7 hg7 ho7 hb7 hyd hod hbd hM k0 hne
                  refine Pm.one_now (i := 14) rfl (by kernel_rfl) rfl ?_
                  go_wp2_with fail
                  rw [show i.bytes.length + x.length = (i.bytes ++ x).length from List.length_append.symm]
                  generalize W7.setCell ⟨gs, j * 5, none⟩ (.slice a7 (i.bytes ++ x).length c7) = W8 at HX8 HBw8 HM8 ⊢
                  refine ⟨HM8.out, ?_⟩
                  refine wpAnyH_done (by kernel_rfl) (NoPanic.normal ?_) _
                  clear hM7 k7 z7
                  have hXj8 : (X.set j (({ i with bytes := i.bytes ++ x } : Strm), .slice a7 (i.bytes ++ x).length c7))[j]? = some ({ i with bytes := i.bytes ++ x }, .slice a7 (i.bytes ++ x).length c7) := List.getElem?_set_self (by have := HXl.out; omega)
                  have z1 : W8.frozen? ⟨gs, j * 5 + 1, none⟩ = false := HX8.out.froz _
                  have k1 : W8.cell? ⟨gs, j * 5 + 1, none⟩ = some (.bool i.ended) := HX8.out.cell hXj8 1 (by omega)
                  have hput : ∀ eb, LongsX w2.heap.size w3 ins gs lcap (j + 1) (W8.setCell ⟨gs, j * 5 + 1, none⟩ (.bool eb)) := fun eb => by
                    have h := HX8.out.set_ended hXj8 eb
                    rw [List.set_set] at h
                    exact LongsX.step HXl.out HK.out HI'.out (.inr ⟨HEnd.out, x, eb, rfl⟩) (by have := HX1.out; simp; omega) h (HBw8.out.setCell HGs.out _)
                  have HPut := Lib.hid hput
                  clear hput hXj8
                  rcases HE0.out with q5 | ⟨q5, b, geb, eoff, rfl, hke⟩
                  · go_wp2_with fail
                    exact ⟨⟨j + 1, by go_num, HPut.out false⟩, by simp [intOf]; omega⟩
                  · have ke := hke _ HM8.out
                    clear hke
                    go_wp2_with fail
                    exact ⟨⟨j + 1, by go_num, HPut.out b⟩, by simp [intOf]; omega⟩
            · have q8 : (i.code != 0) = true := by simpa using hcode
              clear hcode
              go_wp2_with fail
              go_roundw
              case rel => exact ⟨j + 1, by go_num, HSk.out⟩
              case measure => simp [intOf]; omega
        · obtain rfl : j = ins.length := by omega
          have q1 : ¬ (ins.length : Int) < (ins.length : Int) := by omega
          obtain ⟨ins', hlo, hll, hst⟩ := HLg.out.all
          have hil' := hlo.1
          rw [hil'] at hst
          have HLo := Lib.hid hlo
          have HLl := Lib.hid (show ∀ t ∈ ins', t.bytes.length ≤ 4000 from fun t ht => by obtain ⟨i, hi, h⟩ := hll t ht; have := HLen.out i hi; omega)
          have HLi := Lib.hid (show ∀ t ∈ ins, t.bytes.length ≤ 4000 from fun t ht => by have := HLen.out t ht; omega)
          have HIl := Lib.hid (hil'.trans HIns.out)
          have HSt := Lib.hid hst
          have HWl := Lib.hid HWr.out
          have HBl := Lib.hid (HB3.out.trans (HLg.out.below.mono hs2'))
          have hwr3 := HLg.out.below.size
          clear hlo hll hst hil' hle hlt
          obtain ⟨c0, c1, c2, c3⟩ := HBX.out _ HBl.out
          go_wp2_with fail
          have hnew := paste_yes 13 N va vb A B wr (HT.out _ HWl.out) (HA.out _ HWl.out) (HB.out _ HWl.out) HTk.out HN9.out
          unfold Pm.parV at hnew
          refine hnew.mono ?_
          clear hnew
          rintro e w3' ⟨g, own, rfl, hR, hg, hb3'⟩
          have HR := Lib.hid hR
          have HW3' := Lib.hid (HWl.out.trans (hb3'.mono HWl.out.size))
          obtain ⟨c0, c1, c2, c3⟩ := HBX.out _ (HBl.out.trans (hb3'.mono HBl.out.size))
          have HSt3 := Lib.hid ((HSt.out.mono (q := (· < wr.heap.size)) (fun _ h _ => h)).below hb3')
          have HWr3 := Lib.hid hb3'.size
          have HGw := Lib.hid (show ∀ k, own k → wr.heap.size ≤ k from fun k hk => hg k hk)
          have HG3 := Lib.hid (paste_old HN9.out hR)
          clear hR hb3' hg
          go_wp2_with fail
          have hnew := paste_yes 13 N va vb A B w3' (HT.out _ HW3'.out) (HA.out _ HW3'.out) (HB.out _ HW3'.out) HTk.out HN9.out
          unfold Pm.parV at hnew
          refine hnew.mono ?_
          clear hnew
          rintro e w4 ⟨g', own', rfl, hR', hg', hb4⟩
          have HR4' := Lib.hid hR'
          have HR4 := Lib.hid (paste_below HN9.out HR.out hb4)
          have HW4 := Lib.hid (HW3'.out.trans (hb4.mono HW3'.out.size))
          have HSt4 := Lib.hid (HSt3.out.below hb4)
          have HWr4 := Lib.hid (Nat.le_trans HWr3.out hb4.size)
          have HG4 := Lib.hid (show ∀ k, own' k → w3'.heap.size ≤ k ∧ k < w4.heap.size from fun k hk => ⟨hg' k hk, paste_old HN9.out hR' k hk⟩)
          clear hb4 c0 c1 c2 c3 hR' hg'
          go_wp2_with fail
          refine (drivePaste_any N A B g (pasteI N A B) own _ _ ins cuts w4 HN9.out HIns.out HR4.out ((HI.out _ HW4.out).mono (fun k _ h e => by have := HGw.out k e; have := HWl.out.size; omega)) ((HC.out _ HW4.out).mono (fun k _ h e => by have := HGw.out k e; have := HWl.out.size; omega)) (by omega) (fun t ht => by have := HLi.out t ht; omega)).mono ?_
          rintro e w5 ⟨rfl, -, hf5⟩
          have hb5 : Below w.heap.size w w5 := Frame.belowO HW4.out (fun k hk => Nat.le_trans HWl.out.size (HGw.out k hk)) HW4.out.size hf5
          have HW5 := Lib.hid hb5
          have HR5 := Lib.hid (paste_keep HN9.out HR4'.out hf5 (fun k hk h => by have hbs := HBs.out; rcases hk with hk | hk; (have := HG4.out k hk; rcases h with h | h; (have := HG3.out k h; omega); omega); rcases h with h | h; (have := HGw.out k h; have := HWl.out.size; omega); (have := HW4.out.size; omega)))
          have HSt5 := Lib.hid (HSt4.out.frame hf5 (fun k hk h => by have := HWr4.out; rcases h with h | h; (have := HGw.out k h; omega); omega))
          have HGw' := Lib.hid (show ∀ k, own' k → wr.heap.size ≤ k from fun k hk => Nat.le_trans HWr3.out (HG4.out k hk).1)
          obtain ⟨d2, d4, d3⟩ := paste_drive N A B ins cuts HN9.out HIns.out HLi.out
          generalize drive (pasteF N A B) ins cuts 100000 0 (start (pasteF N A B) (pasteI N A B)) = D at d2 d3 d4 ⊢
          have HD2 := Lib.hid d2
          have HD3 := Lib.hid d3
          have HD4 := Lib.hid d4
          clear hf5 hb5 d2 d3 d4
          go_wp2_with fail
          refine (drivePaste_any N A B g' (pasteI N A B) own' _ _ ins' cuts w5 HN9.out HIl.out HR5.out (HSt5.out.mono (fun k _ h e => by have := HGw'.out k e; omega)) ((HC.out _ HW5.out).mono (fun k _ h e => by have := HGw'.out k e; have := HWl.out.size; omega)) (by omega) (fun t ht => by have := HLl.out t ht; omega)).mono ?_
          rintro e w6 ⟨rfl, -, hf6⟩
          have hb6 : Below w.heap.size w w6 := Frame.belowO HW5.out (fun k hk => Nat.le_trans HWl.out.size (HGw'.out k hk)) HW5.out.size hf6
          have HW6 := Lib.hid hb6
          have hsz6 := hb6.size
          obtain ⟨d2, d4, d3⟩ := paste_drive N A B ins' cuts HN9.out HIl.out HLl.out
          generalize drive (pasteF N A B) ins' cuts 100000 0 (start (pasteF N A B) (pasteI N A B)) = D' at d2 d3 d4 ⊢
          have HGr := Lib.hid (paste_grows N A B ins ins' HLo.out)
          have HE2 := Lib.hid d2
          have HE3 := Lib.hid d3
          have HE4 := Lib.hid d4
          clear d2 d3 d4
          obtain ⟨S0, S1, S2, S3, e0, e1, e2, e3, hlit⟩ := got_lit D.got
          obtain ⟨T0, T1, T2, T3, f0, f1, f2, f3, hlit'⟩ := got_lit D'.got
          have hsay : ∀ j W, Calls Tryd.prog 23 #[strV (D.got.outs j), strV (D'.got.outs j)] W (Says W (.bool true)) := by
            intro j W
            obtain ⟨r, hr⟩ := HGr.out.1 j
            have h := begins_bytes (D.got.outs j) (D'.got.outs j) W
            rw [HE2.out, HD2.out, hr] at h
            rw [HE2.out, HD2.out, hr]
            simpa using h
          have hbeg : ∀ j W, Calls Tryd.prog 23 #[strV (D.got.outs j), strV (D'.got.outs j)] W (Pm.Gives W (.bool true)) :=
            fun j W => (hsay j W).mono fun e w' ⟨he, hw⟩ => ⟨he, hw ▸ Below.refl _ _⟩
          have s0 := fun W => hsay 0 W
          have s1 := fun W => hsay 1 W
          have s2 := fun W => hsay 2 W
          have s3 := fun W => hsay 3 W
          rw [e0, f0] at s0
          rw [e1, f1] at s1
          rw [e2, f2] at s2
          rw [e3, f3] at s3
          have b0 := fun W => hbeg 0 W
          have b1 := fun W => hbeg 1 W
          have b2 := fun W => hbeg 2 W
          have b3 := fun W => hbeg 3 W
          rw [e0, f0] at b0
          rw [e1, f1] at b1
          rw [e2, f2] at b2
          rw [e3, f3] at b3
          clear hf6 hb6 hbeg hsay hsz6
          by_cases hn : D.got.need = -1
          · obtain ⟨o1, o2, o3⟩ := HGr.out.2 (by rw [← HD4.out]; exact hn)
            obtain rfl : T0 = S0 := by have := f0.symm.trans ((by rw [HE2.out, HD2.out, o1] : strV (D'.got.outs 0) = strV (D.got.outs 0)).trans e0); injection this
            obtain rfl : T1 = S1 := by have := f1.symm.trans ((by rw [HE2.out, HD2.out, o1] : strV (D'.got.outs 1) = strV (D.got.outs 1)).trans e1); injection this
            obtain rfl : T2 = S2 := by have := f2.symm.trans ((by rw [HE2.out, HD2.out, o1] : strV (D'.got.outs 2) = strV (D.got.outs 2)).trans e2); injection this
            obtain rfl : T3 = S3 := by have := f3.symm.trans ((by rw [HE2.out, HD2.out, o1] : strV (D'.got.outs 3) = strV (D.got.outs 3)).trans e3); injection this
            have hn2 : D'.got.need = -1 := HE4.out.trans o2
            have he2 : D'.got.err = D.got.err := HE3.out.trans (o3.trans HD3.out.symm)
            rw [hlit, hlit', hn, hn2, he2]
            have q9 : (D.got.err == D.got.err) = true := by simp
            have B0 := Lib.hid b0
            have B1 := Lib.hid b1
            have B2 := Lib.hid b2
            have B3 := Lib.hid b3
            clear b0 b1 b2 b3 s0 s1 s2 s3 hn hn2 he2 hlit hlit' e0 e1 e2 e3 f0 f1 f2 f3 o1 o2 o3
            go_wp2_with fail
            have hy7 : ∀ o1 o2, Below w.heap.size w ((w6.alloc o1).alloc o2) := fun o1 o2 => (HW6.out.alloc HW6.out.size o1).alloc (by have := HW6.out.size; simp; omega) o2
            have hr7 : ∀ (o1 o2 : Obj), ((w6.alloc o1).alloc o2).heap[w6.heap.size]? = some o1 := fun o1 o2 => by
              rw [((Below.refl _ _).alloc (Nat.le_refl _) o2 : Below (w6.alloc o1).heap.size (w6.alloc o1) _).block w6.heap.size (by simp)]
              exact heap_alloc_last w6 o1
            have hr8 : ∀ (o1 o2 : Obj), ((w6.alloc o1).alloc o2).heap[w6.heap.size + 1]? = some o2 := fun o1 o2 => by
              have := heap_alloc_last (w6.alloc o1) o2
              rw [World.size_alloc] at this
              exact this
            have hx : ∃ W7 : World, W7 = ((w6.alloc (.cells #[.string T0, .string T1, .string T2, .string T3, .int .i64 (-1), .int .i64 (D.got.err), .int .i64 D.got.held, .int .i64 (D.got.taken 0), .int .i64 (D.got.taken 1), .int .i64 (D.got.taken 2), .int .i64 (D.got.taken 3), .bool false] 42)).alloc (.cells #[.string T0, .string T1, .string T2, .string T3, .int .i64 (-1), .int .i64 (D.got.err), .int .i64 D'.got.held, .int .i64 (D'.got.taken 0), .int .i64 (D'.got.taken 1), .int .i64 (D'.got.taken 2), .int .i64 (D'.got.taken 3), .bool false] 42)) := ⟨_, rfl⟩
            obtain ⟨W7, hW7⟩ := hx
            have q1 := hW7 ▸ hr7 (.cells #[.string T0, .string T1, .string T2, .string T3, .int .i64 (-1), .int .i64 (D.got.err), .int .i64 D.got.held, .int .i64 (D.got.taken 0), .int .i64 (D.got.taken 1), .int .i64 (D.got.taken 2), .int .i64 (D.got.taken 3), .bool false] 42) (.cells #[.string T0, .string T1, .string T2, .string T3, .int .i64 (-1), .int .i64 (D.got.err), .int .i64 D'.got.held, .int .i64 (D'.got.taken 0), .int .i64 (D'.got.taken 1), .int .i64 (D'.got.taken 2), .int .i64 (D'.got.taken 3), .bool false] 42)
            have q2 := hW7 ▸ hr8 (.cells #[.string T0, .string T1, .string T2, .string T3, .int .i64 (-1), .int .i64 (D.got.err), .int .i64 D.got.held, .int .i64 (D.got.taken 0), .int .i64 (D.got.taken 1), .int .i64 (D.got.taken 2), .int .i64 (D.got.taken 3), .bool false] 42) (.cells #[.string T0, .string T1, .string T2, .string T3, .int .i64 (-1), .int .i64 (D.got.err), .int .i64 D'.got.held, .int .i64 (D'.got.taken 0), .int .i64 (D'.got.taken 1), .int .i64 (D'.got.taken 2), .int .i64 (D'.got.taken 3), .bool false] 42)
            have hcells : ∀ W, Below W7.heap.size W7 W → W.cell? ⟨w6.heap.size, 0, none⟩ = some (.string T0) ∧ W.cell? ⟨w6.heap.size, 1, none⟩ = some (.string T1) ∧ W.cell? ⟨w6.heap.size, 2, none⟩ = some (.string T2) ∧ W.cell? ⟨w6.heap.size, 3, none⟩ = some (.string T3) ∧ W.cell? ⟨w6.heap.size, 4, none⟩ = some (.int .i64 (-1)) ∧ W.cell? ⟨w6.heap.size, 5, none⟩ = some (.int .i64 (D.got.err)) ∧ W.cell? ⟨w6.heap.size + 1, 0, none⟩ = some (.string T0) ∧ W.cell? ⟨w6.heap.size + 1, 1, none⟩ = some (.string T1) ∧ W.cell? ⟨w6.heap.size + 1, 2, none⟩ = some (.string T2) ∧ W.cell? ⟨w6.heap.size + 1, 3, none⟩ = some (.string T3) ∧ W.cell? ⟨w6.heap.size + 1, 4, none⟩ = some (.int .i64 (-1)) ∧ W.cell? ⟨w6.heap.size + 1, 5, none⟩ = some (.int .i64 (D.got.err)) := by
              intro W hb
              have hlt : w6.heap.size + 1 < W7.heap.size := by rw [hW7]; simp
              have r1 := (hb.block w6.heap.size (by omega)).trans q1
              have r2 := (hb.block (w6.heap.size + 1) hlt).trans q2
              refine ⟨?_, ?_, ?_, ?_, ?_, ?_, ?_, ?_, ?_, ?_, ?_, ?_⟩
              all_goals
                first | rw [cell_of_row _ _ _ _ _ _ r1]; rfl | rw [cell_of_row _ _ _ _ _ _ r2]; rfl
            have hY : ∀ W, Below W7.heap.size W7 W → Below w.heap.size w W := fun W hb => (hW7 ▸ hy7 _ _ : Below w.heap.size w W7).trans (hb.mono (hW7 ▸ hy7 _ _ : Below w.heap.size w W7).size)
            have HX := Lib.hid hcells
            have HY := Lib.hid hY
            have HW7 := Lib.hid hW7
            rw [← hW7]
            clear hy7 hr7 hr8 q1 q2 hcells hY hW7
            have hw : Below W7.heap.size W7 W7 := Below.refl _ _
            refine wp_loop_rounds 5 ?_
            all_goals
              rw [rounds_succ]
              go_upto_region 21 with fail
              have hw := hw.drew
              go_region_held3 (fun W => W.cell? ⟨w6.heap.size, 0, none⟩ = some (.string T0) ∧ W.cell? ⟨w6.heap.size, 1, none⟩ = some (.string T1) ∧ W.cell? ⟨w6.heap.size, 2, none⟩ = some (.string T2) ∧ W.cell? ⟨w6.heap.size, 3, none⟩ = some (.string T3) ∧ W.cell? ⟨w6.heap.size, 4, none⟩ = some (.int .i64 (-1)) ∧ W.cell? ⟨w6.heap.size, 5, none⟩ = some (.int .i64 (D.got.err)) ∧ W.cell? ⟨w6.heap.size + 1, 0, none⟩ = some (.string T0) ∧ W.cell? ⟨w6.heap.size + 1, 1, none⟩ = some (.string T1) ∧ W.cell? ⟨w6.heap.size + 1, 2, none⟩ = some (.string T2) ∧ W.cell? ⟨w6.heap.size + 1, 3, none⟩ = some (.string T3) ∧ W.cell? ⟨w6.heap.size + 1, 4, none⟩ = some (.int .i64 (-1)) ∧ W.cell? ⟨w6.heap.size + 1, 5, none⟩ = some (.int .i64 (D.got.err)))
                (exact HX.out _ hw)
                (first
                | (go_at_call 23; refine (B0.out _).mono ?_; rintro e w8 ⟨rfl, hb1⟩; have hw := hw.trans (hb1.mono hw.size); clear hb1))
            all_goals
              go_wp2_with fail
              rw [rounds_succ]
              go_upto_region 21 with fail
              have hw := hw.drew
              go_region_held3 (fun W => W.cell? ⟨w6.heap.size, 0, none⟩ = some (.string T0) ∧ W.cell? ⟨w6.heap.size, 1, none⟩ = some (.string T1) ∧ W.cell? ⟨w6.heap.size, 2, none⟩ = some (.string T2) ∧ W.cell? ⟨w6.heap.size, 3, none⟩ = some (.string T3) ∧ W.cell? ⟨w6.heap.size, 4, none⟩ = some (.int .i64 (-1)) ∧ W.cell? ⟨w6.heap.size, 5, none⟩ = some (.int .i64 (D.got.err)) ∧ W.cell? ⟨w6.heap.size + 1, 0, none⟩ = some (.string T0) ∧ W.cell? ⟨w6.heap.size + 1, 1, none⟩ = some (.string T1) ∧ W.cell? ⟨w6.heap.size + 1, 2, none⟩ = some (.string T2) ∧ W.cell? ⟨w6.heap.size + 1, 3, none⟩ = some (.string T3) ∧ W.cell? ⟨w6.heap.size + 1, 4, none⟩ = some (.int .i64 (-1)) ∧ W.cell? ⟨w6.heap.size + 1, 5, none⟩ = some (.int .i64 (D.got.err)))
                (exact HX.out _ hw)
                (first
                | (go_at_call 23; refine (B1.out _).mono ?_; rintro e w8 ⟨rfl, hb1⟩; have hw := hw.trans (hb1.mono hw.size); clear hb1))
            all_goals
              go_wp2_with fail
              rw [rounds_succ]
              go_upto_region 21 with fail
              have hw := hw.drew
              go_region_held3 (fun W => W.cell? ⟨w6.heap.size, 0, none⟩ = some (.string T0) ∧ W.cell? ⟨w6.heap.size, 1, none⟩ = some (.string T1) ∧ W.cell? ⟨w6.heap.size, 2, none⟩ = some (.string T2) ∧ W.cell? ⟨w6.heap.size, 3, none⟩ = some (.string T3) ∧ W.cell? ⟨w6.heap.size, 4, none⟩ = some (.int .i64 (-1)) ∧ W.cell? ⟨w6.heap.size, 5, none⟩ = some (.int .i64 (D.got.err)) ∧ W.cell? ⟨w6.heap.size + 1, 0, none⟩ = some (.string T0) ∧ W.cell? ⟨w6.heap.size + 1, 1, none⟩ = some (.string T1) ∧ W.cell? ⟨w6.heap.size + 1, 2, none⟩ = some (.string T2) ∧ W.cell? ⟨w6.heap.size + 1, 3, none⟩ = some (.string T3) ∧ W.cell? ⟨w6.heap.size + 1, 4, none⟩ = some (.int .i64 (-1)) ∧ W.cell? ⟨w6.heap.size + 1, 5, none⟩ = some (.int .i64 (D.got.err)))
                (exact HX.out _ hw)
                (first
                | (go_at_call 23; refine (B2.out _).mono ?_; rintro e w8 ⟨rfl, hb1⟩; have hw := hw.trans (hb1.mono hw.size); clear hb1))
            all_goals
              go_wp2_with fail
              rw [rounds_succ]
              go_upto_region 21 with fail
              have hw := hw.drew
              go_region_held3 (fun W => W.cell? ⟨w6.heap.size, 0, none⟩ = some (.string T0) ∧ W.cell? ⟨w6.heap.size, 1, none⟩ = some (.string T1) ∧ W.cell? ⟨w6.heap.size, 2, none⟩ = some (.string T2) ∧ W.cell? ⟨w6.heap.size, 3, none⟩ = some (.string T3) ∧ W.cell? ⟨w6.heap.size, 4, none⟩ = some (.int .i64 (-1)) ∧ W.cell? ⟨w6.heap.size, 5, none⟩ = some (.int .i64 (D.got.err)) ∧ W.cell? ⟨w6.heap.size + 1, 0, none⟩ = some (.string T0) ∧ W.cell? ⟨w6.heap.size + 1, 1, none⟩ = some (.string T1) ∧ W.cell? ⟨w6.heap.size + 1, 2, none⟩ = some (.string T2) ∧ W.cell? ⟨w6.heap.size + 1, 3, none⟩ = some (.string T3) ∧ W.cell? ⟨w6.heap.size + 1, 4, none⟩ = some (.int .i64 (-1)) ∧ W.cell? ⟨w6.heap.size + 1, 5, none⟩ = some (.int .i64 (D.got.err)))
                (exact HX.out _ hw)
                (first
                | (go_at_call 23; refine (B3.out _).mono ?_; rintro e w8 ⟨rfl, hb1⟩; have hw := hw.trans (hb1.mono hw.size); clear hb1))
            all_goals
              go_wp2_with fail
              obtain ⟨k0, k1, k2, k3, k4, k5, j0, j1, j2, j3, j4, j5⟩ := HX.out _ hw
              rw [rounds_succ]
              go_wp2_with fail
              refine (awake_true _ (HT.out _ (HY.out _ hw))).mono ?_
              rintro e w9 ⟨rfl, hb9⟩
              go_wp2_with fail
              go_ret
              exact ⟨rfl, (HY.out _ hw).trans (hb9.mono (HY.out _ hw).size)⟩
          all_goals
            have g1 : (D.got.need == -1) = false := by simpa using hn
            have g2 : (D.got.need != -1) = true := by simpa using hn
            rw [hlit, hlit']
            have B0 := Lib.hid (fun W => (s0 W).mono fun e w' h => (⟨h.1, h.2.symm⟩ : e = .returned (.bool true) ∧ w' = W))
            have B1 := Lib.hid (fun W => (s1 W).mono fun e w' h => (⟨h.1, h.2.symm⟩ : e = .returned (.bool true) ∧ w' = W))
            have B2 := Lib.hid (fun W => (s2 W).mono fun e w' h => (⟨h.1, h.2.symm⟩ : e = .returned (.bool true) ∧ w' = W))
            have B3 := Lib.hid (fun W => (s3 W).mono fun e w' h => (⟨h.1, h.2.symm⟩ : e = .returned (.bool true) ∧ w' = W))
            clear b0 b1 b2 b3 s0 s1 s2 s3 hn hlit hlit' e0 e1 e2 e3 f0 f1 f2 f3
            go_wp2_with fail
            have hy7 : ∀ o1 o2, Below w.heap.size w ((w6.alloc o1).alloc o2) := fun o1 o2 => (HW6.out.alloc HW6.out.size o1).alloc (by have := HW6.out.size; simp; omega) o2
            have hr7 : ∀ (o1 o2 : Obj), ((w6.alloc o1).alloc o2).heap[w6.heap.size]? = some o1 := fun o1 o2 => by
              rw [((Below.refl _ _).alloc (Nat.le_refl _) o2 : Below (w6.alloc o1).heap.size (w6.alloc o1) _).block w6.heap.size (by simp)]
              exact heap_alloc_last w6 o1
            have hr8 : ∀ (o1 o2 : Obj), ((w6.alloc o1).alloc o2).heap[w6.heap.size + 1]? = some o2 := fun o1 o2 => by
              have := heap_alloc_last (w6.alloc o1) o2
              rw [World.size_alloc] at this
              exact this
            obtain ⟨W7, hW7⟩ : ∃ W7 : World, W7 = ((w6.alloc (.cells #[.string S0, .string S1, .string S2, .string S3, .int .i64 D.got.need, .int .i64 D.got.err, .int .i64 D.got.held, .int .i64 (D.got.taken 0), .int .i64 (D.got.taken 1), .int .i64 (D.got.taken 2), .int .i64 (D.got.taken 3), .bool false] 42)).alloc (.cells #[.string T0, .string T1, .string T2, .string T3, .int .i64 D'.got.need, .int .i64 D'.got.err, .int .i64 D'.got.held, .int .i64 (D'.got.taken 0), .int .i64 (D'.got.taken 1), .int .i64 (D'.got.taken 2), .int .i64 (D'.got.taken 3), .bool false] 42)) := ⟨_, rfl⟩
            have q1 := hW7 ▸ hr7 (.cells #[.string S0, .string S1, .string S2, .string S3, .int .i64 D.got.need, .int .i64 D.got.err, .int .i64 D.got.held, .int .i64 (D.got.taken 0), .int .i64 (D.got.taken 1), .int .i64 (D.got.taken 2), .int .i64 (D.got.taken 3), .bool false] 42) (.cells #[.string T0, .string T1, .string T2, .string T3, .int .i64 D'.got.need, .int .i64 D'.got.err, .int .i64 D'.got.held, .int .i64 (D'.got.taken 0), .int .i64 (D'.got.taken 1), .int .i64 (D'.got.taken 2), .int .i64 (D'.got.taken 3), .bool false] 42)
            have q2 := hW7 ▸ hr8 (.cells #[.string S0, .string S1, .string S2, .string S3, .int .i64 D.got.need, .int .i64 D.got.err, .int .i64 D.got.held, .int .i64 (D.got.taken 0), .int .i64 (D.got.taken 1), .int .i64 (D.got.taken 2), .int .i64 (D.got.taken 3), .bool false] 42) (.cells #[.string T0, .string T1, .string T2, .string T3, .int .i64 D'.got.need, .int .i64 D'.got.err, .int .i64 D'.got.held, .int .i64 (D'.got.taken 0), .int .i64 (D'.got.taken 1), .int .i64 (D'.got.taken 2), .int .i64 (D'.got.taken 3), .bool false] 42)
            have hcells : ∀ W, Below W7.heap.size W7 W → W.cell? ⟨w6.heap.size, 0, none⟩ = some (.string S0) ∧ W.cell? ⟨w6.heap.size, 1, none⟩ = some (.string S1) ∧ W.cell? ⟨w6.heap.size, 2, none⟩ = some (.string S2) ∧ W.cell? ⟨w6.heap.size, 3, none⟩ = some (.string S3) ∧ W.cell? ⟨w6.heap.size, 4, none⟩ = some (.int .i64 D.got.need) ∧ W.cell? ⟨w6.heap.size, 5, none⟩ = some (.int .i64 D.got.err) ∧ W.cell? ⟨w6.heap.size + 1, 0, none⟩ = some (.string T0) ∧ W.cell? ⟨w6.heap.size + 1, 1, none⟩ = some (.string T1) ∧ W.cell? ⟨w6.heap.size + 1, 2, none⟩ = some (.string T2) ∧ W.cell? ⟨w6.heap.size + 1, 3, none⟩ = some (.string T3) ∧ W.cell? ⟨w6.heap.size + 1, 4, none⟩ = some (.int .i64 D'.got.need) ∧ W.cell? ⟨w6.heap.size + 1, 5, none⟩ = some (.int .i64 D'.got.err) := by
              intro W hb
              have hlt : w6.heap.size + 1 < W7.heap.size := by rw [hW7]; simp
              have r1 := (hb.block w6.heap.size (by omega)).trans q1
              have r2 := (hb.block (w6.heap.size + 1) hlt).trans q2
              refine ⟨?_, ?_, ?_, ?_, ?_, ?_, ?_, ?_, ?_, ?_, ?_, ?_⟩
              all_goals
                first | rw [cell_of_row _ _ _ _ _ _ r1]; rfl | rw [cell_of_row _ _ _ _ _ _ r2]; rfl
            have hY : ∀ W, Below W7.heap.size W7 W → Below w.heap.size w W := fun W hb => (hW7 ▸ hy7 _ _ : Below w.heap.size w W7).trans (hb.mono (hW7 ▸ hy7 _ _ : Below w.heap.size w W7).size)
            have HX := Lib.hid hcells
            have HY := Lib.hid hY
            rw [← hW7]
            clear hy7 hr7 hr8 q1 q2 hcells hY hW7
            have hw : Below W7.heap.size W7 W7 := Below.refl _ _
            refine wp_loop_rounds 5 ?_
            rw [rounds_succ]
            go_upto_region 21 with fail
            refine region_stillG (by kernel_rfl) (by kernel_rfl) ?_
            have hw := hw.drew
            generalize W7.drew = W8 at hw ⊢
            obtain ⟨k0, k1, k2, k3, k4, k5, j0, j1, j2, j3, j4, j5⟩ := HX.out _ hw
            iterate 8 (refine stillG_step (fun K hK => ?_); go_simp; refine hK.out _ ?_; clear hK K)
            refine stillG_step (fun K hK => ?_)
            go_simp
            refine ⟨_, B0.out _, hK.out _ ?_⟩
            clear hK K
            iterate 17 (refine stillG_step (fun K hK => ?_); go_simp; refine hK.out _ ?_; clear hK K)
            refine stillG_nil ?_
            clear k0 k1 k2 k3 k4 k5 j0 j1 j2 j3 j4 j5
            go_wp2_with fail
            rw [rounds_succ]
            go_upto_region 21 with fail
            refine region_stillG (by kernel_rfl) (by kernel_rfl) ?_
            have hw := hw.drew
            generalize W8.drew = W9 at hw ⊢
            obtain ⟨k0, k1, k2, k3, k4, k5, j0, j1, j2, j3, j4, j5⟩ := HX.out _ hw
            iterate 8 (refine stillG_step (fun K hK => ?_); go_simp; refine hK.out _ ?_; clear hK K)
            refine stillG_step (fun K hK => ?_)
            go_simp
            refine ⟨_, B1.out _, hK.out _ ?_⟩
            clear hK K
            iterate 17 (refine stillG_step (fun K hK => ?_); go_simp; refine hK.out _ ?_; clear hK K)
            refine stillG_nil ?_
            clear k0 k1 k2 k3 k4 k5 j0 j1 j2 j3 j4 j5
            go_wp2_with fail
            rw [rounds_succ]
            go_upto_region 21 with fail
            refine region_stillG (by kernel_rfl) (by kernel_rfl) ?_
            have hw := hw.drew
            generalize W9.drew = W10 at hw ⊢
            obtain ⟨k0, k1, k2, k3, k4, k5, j0, j1, j2, j3, j4, j5⟩ := HX.out _ hw
            iterate 8 (refine stillG_step (fun K hK => ?_); go_simp; refine hK.out _ ?_; clear hK K)
            refine stillG_step (fun K hK => ?_)
            go_simp
            refine ⟨_, B2.out _, hK.out _ ?_⟩
            clear hK K
            iterate 17 (refine stillG_step (fun K hK => ?_); go_simp; refine hK.out _ ?_; clear hK K)
            refine stillG_nil ?_
            clear k0 k1 k2 k3 k4 k5 j0 j1 j2 j3 j4 j5
            go_wp2_with fail
            rw [rounds_succ]
            go_upto_region 21 with fail
            refine region_stillG (by kernel_rfl) (by kernel_rfl) ?_
            have hw := hw.drew
            generalize W10.drew = W11 at hw ⊢
            obtain ⟨k0, k1, k2, k3, k4, k5, j0, j1, j2, j3, j4, j5⟩ := HX.out _ hw
            iterate 8 (refine stillG_step (fun K hK => ?_); go_simp; refine hK.out _ ?_; clear hK K)
            refine stillG_step (fun K hK => ?_)
            go_simp
            refine ⟨_, B3.out _, hK.out _ ?_⟩
            clear hK K
            iterate 17 (refine stillG_step (fun K hK => ?_); go_simp; refine hK.out _ ?_; clear hK K)
            refine stillG_nil ?_
            clear k0 k1 k2 k3 k4 k5 j0 j1 j2 j3 j4 j5
            go_wp2_with fail
            obtain ⟨k0, k1, k2, k3, k4, k5, j0, j1, j2, j3, j4, j5⟩ := HX.out _ hw
            rw [rounds_succ]
            go_wp2_with fail
            refine (awake_true _ (HT.out _ (HY.out _ hw))).mono ?_
            rintro e w9 ⟨rfl, hb9⟩
            go_wp2_with fail
            go_ret
            exact ⟨rfl, (HY.out _ hw).trans (hb9.mono (HY.out _ hw).size)⟩

end Go.Proofs.YteghdepedlaneaaDoor
