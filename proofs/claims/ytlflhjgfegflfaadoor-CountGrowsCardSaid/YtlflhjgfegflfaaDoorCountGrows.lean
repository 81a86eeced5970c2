/- CountGrows's walk. -/
import Derived.Test.YtlflhjgfegflfaaDoorCountAwake
import Derived.Test.YtlflhjgfegflfaaDoorCountFit
import Derived.Test.YtlflhjgfegflfaaDoorCountGrow
import Derived.Test.YtlflhjgfegflfaaDoorGcopy
import Derived.Test.YtlflhjgfegflfaaDoorGopen
import Derived.Test.YtlflhjgfegflfaaDoorGbegins
import Derived.Outline
import Derived.Deep.RegionHeld3
import Derived.Test.YtlflhjgfegflfaaDoorRA
namespace Go.Proofs.YtlflhjgfegflfaaDoor
open Go.RowKit

/-- The longer input in memory: behind the loop. -/
structure Longs (base : Nat) (w3 : World) (i : Strm) (gs lcap : Nat) (wr : World) : Prop where
  ex : ∃ i', Longer i i' ∧ i'.bytes.length ≤ i.bytes.length + 1000 ∧ IsStrms (base ≤ ·) wr (.slice (some ⟨gs, 0, none⟩) 1 lcap) [i'] ∧ Below base w3 wr

theorem longs_put {base : Nat} {w3 W : World} {i : Strm} {gs lcap : Nat} {bv : Value} {cs : Array Value} {e0 : Bool} {y : List UInt8} (hend : i.ended = false) (hrow : W.heap[gs]? = some (.cells (#[bv, .bool e0, .int .i64 i.code, .int .i64 i.stage, .int .i64 i.id] ++ cs) 61 (0, 0)))
    (hby : W.ownsRow base 5 1 bv (i.bytes ++ y).length (bytesL (i.bytes ++ y))) (hne : bv.ownBlock ≠ some gs) (hgs : base ≤ gs) (hb : Below base w3 W) (hl : y.length ≤ 1000) (eb : Bool) : Longs base w3 i gs lcap (W.setCell ⟨gs, 1, none⟩ (.bool eb)) :=
  ⟨⟨i.bytes ++ y, eb, i.code, i.stage, i.id⟩, .inr ⟨hend, y, eb, rfl⟩, by simp; omega, live_put hrow hby hne hgs eb, hb.setCell hgs _⟩

variable [Inhabited TabBox]
set_option maxRecDepth 100000 in
set_option maxHeartbeats 16000000 in
theorem growsLaw_any (k n : Int) (hn : Pm.Fits n) (va vb iv mv ev cv : Value) (A B : List UInt8) (more : List (List UInt8)) (ends : List Bool) (ins : List Strm) (cuts : List Int) (w : World) (hT : TabP w) (hA : Pm.IsBytes w va A) (hB : Pm.IsBytes w vb B) (hI : IsStrms (· < w.heap.size) w iv ins) (hC : IsInts (· < w.heap.size) w cv cuts) (hX : IsPieces (· < w.heap.size) w mv more) (hY : IsBools (· < w.heap.size) w ev ends) :
    Calls Tryd.prog 8 #[Pm.parV k n va vb, iv, mv, ev, cv] w (Pm.Gives w (.bool true)) := by
  have HT := Lib.hid (show ∀ W, Below w.heap.size w W → TabP W from fun W hb => hT.below hb)
  have HA := Lib.hid (show ∀ W, Below w.heap.size w W → Pm.IsBytes W va A from fun W hb => hA.below hb)
  have HB := Lib.hid (show ∀ W, Below w.heap.size w W → Pm.IsBytes W vb B from fun W hb => hB.below hb)
  have HI := Lib.hid (show ∀ W, Below w.heap.size w W → IsStrms (· < w.heap.size) W iv ins from fun W hb => hI.below hb)
  have HC := Lib.hid (show ∀ W, Below w.heap.size w W → IsInts (· < w.heap.size) W cv cuts from fun W hb => hC.below hb)
  have HMo := Lib.hid (show ∀ W, Below w.heap.size w W → IsPieces (· < w.heap.size) W mv more from fun W hb => hX.below hb)
  have HEn := Lib.hid (show ∀ W, Below w.heap.size w W → IsBools (· < w.heap.size) W ev ends from fun W hb => hY.below hb)
  obtain ⟨H, hH⟩ : ∃ H, H = heavyB A B ins [cuts] := ⟨_, rfl⟩
  obtain ⟨F, hF⟩ : ∃ F, F = fitB k n A B ins := ⟨_, rfl⟩
  have HH := Lib.hid hH
  have HF := Lib.hid hF
  obtain ⟨ai, ci, hiv, -⟩ := id hI
  obtain ⟨ac, cc, hcv, -⟩ := id hC
  obtain ⟨am, cm, hmv, -⟩ := id hX
  obtain ⟨ae, ce, hev, -⟩ := id hY
  subst hiv hcv hmv hev
  clear hT hA hB hI hC hH hF hX hY
  unfold Pm.parV
  go_enter Tryd.func8, Tryd.ntmps8
  go_wp2_with fail
  have hbox : Below w.heap.size w (w.alloc (.cells #[.int .i64 k, .int .i64 n, va, vb] 24)) := (Below.refl _ _).alloc (Nat.le_refl _) _
  have hbx2 : Below w.heap.size w ((w.alloc (.cells #[.int .i64 k, .int .i64 n, va, vb] 24)).alloc (.cells #[.slice ac cuts.length cc] 37)) := hbox.alloc (by simp) _
  have hcc := ints_list (w.alloc (.cells #[.int .i64 k, .int .i64 n, va, vb] 24)) (.slice ac cuts.length cc) cuts (fun _ => True) trivial ((HC.out _ hbox).mono (fun _ _ _ => trivial)) (0, 0)
  rw [World.size_alloc] at hcc
  have hheavy := heavy_any k n va vb (.slice ai ins.length ci) _ A B ins [cuts] _ (HA.out _ hbx2) (HB.out _ hbx2) (HI.out _ hbx2) hcc (by simp)
  unfold Pm.parV at hheavy
  refine hheavy.mono ?_
  clear hheavy hcc
  rintro e w1 ⟨rfl, hb1⟩
  obtain ⟨c0, c1, c2, c3⟩ := box_cells (((Below.refl _ _).alloc (Nat.le_refl _) _).trans (hb1.mono (by simp)))
  have hb := hbx2.trans (hb1.mono hbx2.size)
  have HW := Lib.hid hb
  clear hbox hbx2 hb1 hb
  rw [← HH.out]
  cases H with
  | true =>
    go_wp2_with fail
    refine (awake_true _ (HT.out _ HW.out)).mono ?_
    rintro e w2 ⟨rfl, hb2⟩
    go_wp2_with fail
    go_ret
    exact ⟨rfl, HW.out.trans (hb2.mono HW.out.size)⟩
  | false =>
    obtain ⟨sA, sB, s8, sI, sC⟩ := heavy_no HH.out.symm
    have SI := Lib.hid sI
    have SC := Lib.hid sC
    have HBX := Lib.hid (show ∀ W, Below w1.heap.size w1 W → W.cell? ⟨w.heap.size, 0, none⟩ = some (.int .i64 k) ∧ W.cell? ⟨w.heap.size, 1, none⟩ = some (.int .i64 n) ∧ W.cell? ⟨w.heap.size, 2, none⟩ = some va ∧ W.cell? ⟨w.heap.size, 3, none⟩ = some vb from fun W hb => ⟨Pm.Below.cell hb c0, Pm.Below.cell hb c1, Pm.Below.cell hb c2, Pm.Below.cell hb c3⟩)
    clear sI sC
    go_wp2_with fail
    have hfit := fit_any k n hn va vb (.slice ai ins.length ci) A B ins w1 (HA.out _ HW.out) (HB.out _ HW.out) (HI.out _ HW.out) (by omega)
    unfold Pm.parV at hfit
    refine hfit.mono ?_
    clear hfit
    rintro e w2 ⟨rfl, hb2⟩
    have HW2 := Lib.hid (HW.out.trans (hb2.mono HW.out.size))
    have HB2 := Lib.hid hb2
    clear hb2 c0 c1 c2 c3
    rw [← HF.out]
    cases F with
    | false =>
      go_wp2_with fail
      refine (awake_true _ (HT.out _ HW2.out)).mono ?_
      rintro e w3 ⟨rfl, hb3⟩
      go_wp2_with fail
      go_ret
      exact ⟨rfl, HW2.out.trans (hb3.mono HW2.out.size)⟩
    | true =>
      obtain ⟨rfl, N, rfl, n9, htake, hbound, hcheck, i, rfl⟩ := fit_yes HF.out.symm
      have HBs := Lib.hid (count_base (HT.out _ (Below.refl _ _)))
      have HTk := Lib.hid htake
      have HBo := Lib.hid hbound
      have HCh := Lib.hid hcheck
      have hlen := SI.out i (by simp)
      have hcl := SC.out cuts (by simp)
      obtain ⟨c0, c1, c2, c3⟩ := HBX.out _ HB2.out
      clear htake hbound hcheck
      by_cases hml : 8 < more.length
      · have qb : (8 : Int) < (more.length : Int) := by omega
        clear hml
        go_wp2_with fail
        refine (awake_true _ (HT.out _ HW2.out)).mono ?_
        rintro e w3 ⟨rfl, hb3⟩
        go_wp2_with fail
        go_ret
        exact ⟨rfl, HW2.out.trans (hb3.mono HW2.out.size)⟩
      have qb : ¬ (8 : Int) < (more.length : Int) := by omega
      clear hml
      go_wp2_with fail
      refine (copyOne_any (.slice ai 1 ci) i w2 (HI.out _ HW2.out) (by omega)).mono ?_
      rintro e w3 ⟨lv, rfl, hown, hb3⟩
      obtain ⟨gs, lcap, bv, cs, rfl, hgs, hrow, hby, hne⟩ := hown.ex
      have HW3 := Lib.hid (HW2.out.trans (hb3.mono HW2.out.size))
      have HB3 := Lib.hid (HB2.out.trans (hb3.mono HB2.out.size))
      have HRow := Lib.hid hrow
      have HBy := Lib.hid hby
      have HNe := Lib.hid hne
      have HGs := Lib.hid hgs
      have hs2 := HW2.out.size
      have hs2' := HB2.out.size
      have hs3 := hb3.size
      have k0 : w3.cell? ⟨gs, 0, none⟩ = some bv := by rw [cell_of_row _ _ _ _ _ _ hrow]; first | rfl | simp [Array.getElem?_append]
      have k1 : w3.cell? ⟨gs, 1, none⟩ = some (.bool i.ended) := by rw [cell_of_row _ _ _ _ _ _ hrow]; first | rfl | simp [Array.getElem?_append]
      have k2 : w3.cell? ⟨gs, 2, none⟩ = some (.int .i64 i.code) := by rw [cell_of_row _ _ _ _ _ _ hrow]; first | rfl | simp [Array.getElem?_append]
      have z0 : w3.frozen? ⟨gs, 0, none⟩ = false := by simp [World.frozen?, hrow]
      have z1 : w3.frozen? ⟨gs, 1, none⟩ = false := by simp [World.frozen?, hrow]
      have hlive : IsStrms (w2.heap.size ≤ ·) w3 (.slice (some ⟨gs, 0, none⟩) 1 lcap) [i] := by
        refine ⟨_, lcap, rfl, fun j t hj => ?_⟩
        match j, hj with
        | 0, hj =>
          simp at hj
          subst hj
          refine ⟨gs, 0, bv, rfl, hgs, k0, k1, k2, ?_, ?_, isBytes_of_owns hby⟩
          · rw [cell_of_row _ _ _ _ _ _ hrow]; first | rfl | simp [Array.getElem?_append]
          · rw [cell_of_row _ _ _ _ _ _ hrow]; first | rfl | simp [Array.getElem?_append]
        | j + 1, hj => simp at hj
      have HLive := Lib.hid hlive
      clear hown hrow hby hne hgs hb3 c0 c1 c2 c3 hlive
      have hE0 : (¬ (0 : Int) < (ends.length : Int)) ∨ (0 : Int) < (ends.length : Int) ∧ ∃ b geb eoff, ae = some ⟨geb, eoff, none⟩ ∧ ∀ W, Below w.heap.size w W → W.cell? ⟨geb, eoff, none⟩ = some (.bool b) := by
        obtain ⟨_, _, e, hcl2⟩ := HEn.out w (Below.refl _ _)
        cases e
        cases hends : ends[0]? with
        | none => exact .inl (by have := List.getElem?_eq_none_iff.1 hends; omega)
        | some b =>
          obtain ⟨geb, eoff, e2, -, ke⟩ := hcl2 0 b hends
          exact .inr ⟨by have := (List.getElem?_eq_some_iff.1 hends).1; omega, b, geb, eoff, e2, fun W hb => Pm.Below.cell hb ke⟩
      have HE0 := Lib.hid hE0
      clear hE0
      go_wp2_with fail
      go_loopw [12] (fun iv wr => (iv = .int .i64 0 ∧ wr = w3) ∨ (iv = .int .i64 1 ∧ Longs w2.heap.size w3 i gs lcap wr)) (fun iv _ => 1 - (intOf iv).toNat)
      case atStart => exact .inl ⟨rfl, rfl⟩
      case round =>
        rcases hrel with ⟨rfl, rfl⟩ | ⟨rfl, hlong⟩
        · cases he : i.ended with
          | true =>
            rw [he] at k1
            go_wp2_with fail
            exact ⟨.inr ⟨by go_num, ⟨i, .inl rfl, by omega, HLive.out, Below.refl _ _⟩⟩, by simp [intOf]⟩
          | false =>
            rw [he] at k1
            by_cases hcode : i.code = 0
            · rw [hcode] at k2
              have HCode := Lib.hid hcode
              have HEnd := Lib.hid he
              clear hcode he
              cases more with
              | nil =>
                cases ends with
                | nil =>
                  simp only [List.length_nil]
                  go_wp2_with fail
                  exact ⟨.inr ⟨rfl, longs_put (y := []) HEnd.out HRow.out (by simpa using HBy.out) HNe.out HGs.out (Below.refl _ _) (by simp) false⟩, by simp [intOf]⟩
                | cons b bs =>
                  obtain ⟨_, _, e, hcl2⟩ := HEn.out _ HW3.out
                  obtain ⟨geb, eoff, e2, -, ke⟩ := hcl2 0 b rfl
                  cases e
                  cases e2
                  clear hcl2
                  simp only [Nat.add_zero] at ke
                  simp only [List.length_nil, List.length_cons]
                  have q5 : (0 : Int) < ((bs.length + 1 : Nat) : Int) := by omega
                  go_wp2_with fail
                  exact ⟨.inr ⟨rfl, longs_put (y := []) HEnd.out HRow.out (by simpa using HBy.out) HNe.out HGs.out (Below.refl _ _) (by simp) b⟩, by simp [intOf]⟩
              | cons x xs =>
                have q6 : (0 : Int) < ((xs.length + 1 : Nat) : Int) := by omega
                obtain ⟨_, _, e, hcm⟩ := HMo.out w (Below.refl _ _)
                obtain ⟨gm, moff, xv, e2, -, km, hxb⟩ := hcm 0 x rfl
                cases e
                cases e2
                simp only [Nat.add_zero] at km
                obtain ⟨ax, cx, rfl, -, -⟩ := id hxb
                have HXv := Lib.hid (show ∀ W, Below w.heap.size w W → W.cell? ⟨gm, moff, none⟩ = some (.slice ax x.length cx) ∧ IsBytes (· < w.heap.size) W (.slice ax x.length cx) x from fun W hb => ⟨Pm.Below.cell hb km, hxb.below hb⟩)
                have km3 := (HXv.out _ HW3.out).1
                clear hcm hxb km
                simp only [List.length_cons]
                by_cases hx1 : 1000 < x.length
                · have q7 : (1000 : Int) < (x.length : Int) := by omega
                  clear hx1
                  go_wp2_with fail
                  refine (awake_true _ (HT.out _ HW3.out)).mono ?_
                  rintro e w4 ⟨rfl, hb4⟩
                  go_wp2_with fail
                  go_ret
                  exact ⟨rfl, HW3.out.trans (hb4.mono HW3.out.size)⟩
                · have q7 : ¬ (1000 : Int) < (x.length : Int) := by omega
                  have HX1 := Lib.hid hx1
                  clear hx1
                  rcases HE0.out with q5 | ⟨q5, b, geb, eoff, rfl, hke⟩
                  · skip
                    go_upto_region 11 with fail
                    refine wp_region_noPanic ?_
                    refine wp_region_held (S := Below w.heap.size w) (by kernel_rfl) ?_
                    change wpAnyH _ _ _ _ _ _ _ _ wr.drew
                    have hM : Below w.heap.size w wr.drew := HW3.out.drew
                    have hbd : Below w2.heap.size wr wr.drew := (Below.refl _ _).drew
                    have hrd : wr.drew.heap[gs]? = some (.cells (#[bv, .bool i.ended, .int .i64 i.code, .int .i64 i.stage, .int .i64 i.id] ++ cs) 61 (0, 0)) := HRow.out
                    have hyd := (((Frame.refl (fun _ => False) wr).drew).owns HBy.out (fun _ _ h => h))
                    clear k0 k1 k2 z0 z1 km3
                    generalize wr.drew = W2 at hM hbd hrd hyd ⊢
                    have ksz := hbd.size
                    refine Pm.take_at (i := 0) 70 (.slice (some ⟨gs, 0, none⟩) 1 lcap) rfl rfl (by kernel_rfl) (by kernel_rfl) (by kernel_rfl) rfl (fun _ _ => by go_simp) hM ?_
                    refine Pm.take_at (i := 1) 71 (.int .i64 0) rfl rfl (by kernel_rfl) (by kernel_rfl) (by kernel_rfl) rfl (fun _ _ => by go_simp) hM ?_
                    refine Pm.take_at (i := 2) 72 (.slice (some ⟨gs, 0, none⟩) 1 lcap) rfl rfl (by kernel_rfl) (by kernel_rfl) (by kernel_rfl) rfl (fun _ _ => by go_simp) hM ?_
                    refine Pm.take_at (i := 3) 73 (.int .i64 0) rfl rfl (by kernel_rfl) (by kernel_rfl) (by kernel_rfl) rfl (fun _ _ => by go_simp) hM ?_
                    refine Pm.take_at (i := 4) 74 (.pointer (some ⟨gs, 0, none⟩)) rfl rfl (by kernel_rfl) (by kernel_rfl) (by kernel_rfl) rfl (fun _ _ => by go_simp) hM ?_
                    refine Pm.take_at (i := 5) 75 (.pointer (some ⟨gs, 0, none⟩)) rfl rfl (by kernel_rfl) (by kernel_rfl) (by kernel_rfl) rfl (fun _ _ => by go_simp) hM ?_
                    refine Pm.take_at (i := 7) 77 (.slice (some ⟨gm, moff, none⟩) (xs.length + 1) cm) rfl rfl (by kernel_rfl) (by kernel_rfl) (by kernel_rfl) rfl (fun _ _ => by go_simp) hM ?_
                    refine Pm.take_at (i := 8) 78 (.int .i64 0) rfl rfl (by kernel_rfl) (by kernel_rfl) (by kernel_rfl) rfl (fun _ _ => by go_simp) hM ?_
                    refine Pm.take_at (i := 9) 79 (.pointer (some ⟨gm, moff, none⟩)) rfl rfl (by kernel_rfl) (by kernel_rfl) (by kernel_rfl) rfl (fun _ _ => by go_simp) hM ?_
                    refine Pm.take_at (i := 10) 80 (.slice ax x.length cx) rfl rfl (by kernel_rfl) (by kernel_rfl) (by kernel_rfl) rfl (fun W h => by have hc := (HXv.out W h).1; go_simp) hM ?_
                    have k0 : W2.cell? ⟨gs, 0, none⟩ = some bv := by rw [cell_of_row _ _ _ _ _ _ hrd]; first | rfl | simp [Array.getElem?_append]
                    refine Pm.one_now (i := 6) rfl (by kernel_rfl) rfl ?_
                    go_wp2_with fail
                    refine Pm.one_now (i := 11) rfl (by kernel_rfl) rfl ?_
                    refine wp_append_more (.tmp 76) (.tmp 80) rfl w2.heap.size bv (.slice ax x.length cx) i.bytes x rfl hyd rfl (HXv.out _ hM).2 (by have := HX1.out; omega) (by omega) 81 rfl ?_
                    intro v7 W7 ho7 hg7 at7
                    have hlt2 := (Array.getElem?_eq_some_iff.1 hrd).1
                    have hb7 : Below w2.heap.size W2 W7 := (Below.refl _ _).grown hg7 (by omega) (fun j ej => (hyd.lt j ej).1)
                    have hr7 := (hg7.block gs hlt2 (fun e => HNe.out e.symm)).trans hrd
                    have hne7 : v7.ownBlock ≠ some gs := by
                      rcases at7 with h | h
                      · rw [h]; exact HNe.out
                      · rw [h]; intro e; injection e with e; omega
                    obtain ⟨a7, c7, rfl⟩ := Pm.owns_slice ho7
                    have hM7 : Below w.heap.size w W7 := hM.trans (hb7.mono (by omega))
                    have hbw7 : Below w2.heap.size wr W7 := hbd.trans (hb7.mono (by omega))
                    refine ⟨hM7, ?_⟩
                    simp only [Act.put]
                    have k7 : W7.cell? ⟨gs, 0, none⟩ = some bv := by rw [cell_of_row _ _ _ _ _ _ hr7]; first | rfl | simp [Array.getElem?_append]
                    have z7 : W7.frozen? ⟨gs, 0, none⟩ = false := by simp [World.frozen?, hr7]
                    have hr8 := setCell_row (o := 0) (v := .slice a7 (i.bytes ++ x).length c7) hr7
                    have ho8 := (Frame.cell W7 ⟨gs, 0, none⟩ (.slice a7 (i.bytes ++ x).length c7)).owns ho7 (fun k hk e => hne7 (by rw [hk]; have e' : k = gs := e; rw [e']))
                    have hbw8 : Below w2.heap.size wr (W7.setCell ⟨gs, 0, none⟩ (.slice a7 (i.bytes ++ x).length c7)) := hbw7.setCell HGs.out _
                    have hM8 : Below w.heap.size w (W7.setCell ⟨gs, 0, none⟩ (.slice a7 (i.bytes ++ x).length c7)) := hM7.setCell (Nat.le_trans hs2 HGs.out) _
                    have HR8 := Lib.hid (show (W7.setCell ⟨gs, 0, none⟩ (.slice a7 (i.bytes ++ x).length c7)).heap[gs]? = some (.cells (#[.slice a7 (i.bytes ++ x).length c7, .bool i.ended, .int .i64 i.code, .int .i64 i.stage, .int .i64 i.id] ++ cs) 61 (0, 0)) by
                      rw [hr8]
                      congr 2
                      apply Array.ext'
                      simp)
                    have HO8 := Lib.hid ho8
                    have HNe7 := Lib.hid hne7
                    have HBw8 := Lib.hid hbw8
                    have HM8 := Lib.hid hM8
                    refine Pm.take_at (i := 12) 82 (.pointer (some ⟨gs, 0, none⟩)) rfl rfl (by kernel_rfl) (by kernel_rfl) (by kernel_rfl) rfl (fun _ _ => by go_simp) hM7 ?_
                    refine Pm.take_at (i := 13) 83 (.pointer (some ⟨gs, 0, none⟩)) rfl rfl (by kernel_rfl) (by kernel_rfl) (by kernel_rfl) rfl (fun _ _ => by go_simp) hM7 ?_
                    clear hr8 ho8 hne7 hbw8 hM8 at7 hg7 ho7 hr7 hb7 hbw7 hlt2 hyd hrd hbd hM k0
                    refine Pm.one_now (i := 14) rfl (by kernel_rfl) rfl ?_
                    go_wp2_with fail
                    rw [show i.bytes.length + x.length = (i.bytes ++ x).length from List.length_append.symm]
                    generalize W7.setCell ⟨gs, 0, none⟩ (.slice a7 (i.bytes ++ x).length c7) = W8 at HR8 HO8 HBw8 HM8 ⊢
                    refine ⟨HM8.out, ?_⟩
                    refine wpAnyH_done (by kernel_rfl) (NoPanic.normal ?_) _
                    clear hM7 k7 z7
                    have z1 : W8.frozen? ⟨gs, 1, none⟩ = false := by simp [World.frozen?, HR8.out]
                    have k1 : W8.cell? ⟨gs, 1, none⟩ = some (.bool i.ended) := by rw [cell_of_row _ _ _ _ _ _ HR8.out]; first | rfl | simp [Array.getElem?_append]
                    have q8 : x.length ≤ 1000 := by have := HX1.out; omega
                    have Q8 := Lib.hid q8
                    clear q8
                    go_wp2_with fail
                    refine ⟨?_, by simp [intOf]⟩
                    iterate 61 (apply Exists.intro)
                    refine ⟨.inr ⟨rfl, longs_put HEnd.out HR8.out HO8.out HNe7.out HGs.out HBw8.out Q8.out false⟩, ?_⟩
                    skip
                    rfl
                  · have HKe := Lib.hid hke
                    clear hke
                    go_upto_region 11 with fail
                    refine wp_region_noPanic ?_
                    refine wp_region_held (S := Below w.heap.size w) (by kernel_rfl) ?_
                    change wpAnyH _ _ _ _ _ _ _ _ wr.drew
                    have hM : Below w.heap.size w wr.drew := HW3.out.drew
                    have hbd : Below w2.heap.size wr wr.drew := (Below.refl _ _).drew
                    have hrd : wr.drew.heap[gs]? = some (.cells (#[bv, .bool i.ended, .int .i64 i.code, .int .i64 i.stage, .int .i64 i.id] ++ cs) 61 (0, 0)) := HRow.out
                    have hyd := (((Frame.refl (fun _ => False) wr).drew).owns HBy.out (fun _ _ h => h))
                    clear k0 k1 k2 z0 z1 km3
                    generalize wr.drew = W2 at hM hbd hrd hyd ⊢
                    have ksz := hbd.size
                    refine Pm.take_at (i := 0) 70 (.slice (some ⟨gs, 0, none⟩) 1 lcap) rfl rfl (by kernel_rfl) (by kernel_rfl) (by kernel_rfl) rfl (fun _ _ => by go_simp) hM ?_
                    refine Pm.take_at (i := 1) 71 (.int .i64 0) rfl rfl (by kernel_rfl) (by kernel_rfl) (by kernel_rfl) rfl (fun _ _ => by go_simp) hM ?_
                    refine Pm.take_at (i := 2) 72 (.slice (some ⟨gs, 0, none⟩) 1 lcap) rfl rfl (by kernel_rfl) (by kernel_rfl) (by kernel_rfl) rfl (fun _ _ => by go_simp) hM ?_
                    refine Pm.take_at (i := 3) 73 (.int .i64 0) rfl rfl (by kernel_rfl) (by kernel_rfl) (by kernel_rfl) rfl (fun _ _ => by go_simp) hM ?_
                    refine Pm.take_at (i := 4) 74 (.pointer (some ⟨gs, 0, none⟩)) rfl rfl (by kernel_rfl) (by kernel_rfl) (by kernel_rfl) rfl (fun _ _ => by go_simp) hM ?_
                    refine Pm.take_at (i := 5) 75 (.pointer (some ⟨gs, 0, none⟩)) rfl rfl (by kernel_rfl) (by kernel_rfl) (by kernel_rfl) rfl (fun _ _ => by go_simp) hM ?_
                    refine Pm.take_at (i := 7) 77 (.slice (some ⟨gm, moff, none⟩) (xs.length + 1) cm) rfl rfl (by kernel_rfl) (by kernel_rfl) (by kernel_rfl) rfl (fun _ _ => by go_simp) hM ?_
                    refine Pm.take_at (i := 8) 78 (.int .i64 0) rfl rfl (by kernel_rfl) (by kernel_rfl) (by kernel_rfl) rfl (fun _ _ => by go_simp) hM ?_
                    refine Pm.take_at (i := 9) 79 (.pointer (some ⟨gm, moff, none⟩)) rfl rfl (by kernel_rfl) (by kernel_rfl) (by kernel_rfl) rfl (fun _ _ => by go_simp) hM ?_
                    refine Pm.take_at (i := 10) 80 (.slice ax x.length cx) rfl rfl (by kernel_rfl) (by kernel_rfl) (by kernel_rfl) rfl (fun W h => by have hc := (HXv.out W h).1; go_simp) hM ?_
                    have k0 : W2.cell? ⟨gs, 0, none⟩ = some bv := by rw [cell_of_row _ _ _ _ _ _ hrd]; first | rfl | simp [Array.getElem?_append]
                    refine Pm.one_now (i := 6) rfl (by kernel_rfl) rfl ?_
                    go_wp2_with fail
                    refine Pm.one_now (i := 11) rfl (by kernel_rfl) rfl ?_
                    refine wp_append_more (.tmp 76) (.tmp 80) rfl w2.heap.size bv (.slice ax x.length cx) i.bytes x rfl hyd rfl (HXv.out _ hM).2 (by have := HX1.out; omega) (by omega) 81 rfl ?_
                    intro v7 W7 ho7 hg7 at7
                    have hlt2 := (Array.getElem?_eq_some_iff.1 hrd).1
                    have hb7 : Below w2.heap.size W2 W7 := (Below.refl _ _).grown hg7 (by omega) (fun j ej => (hyd.lt j ej).1)
                    have hr7 := (hg7.block gs hlt2 (fun e => HNe.out e.symm)).trans hrd
                    have hne7 : v7.ownBlock ≠ some gs := by
                      rcases at7 with h | h
                      · rw [h]; exact HNe.out
                      · rw [h]; intro e; injection e with e; omega
                    obtain ⟨a7, c7, rfl⟩ := Pm.owns_slice ho7
                    have hM7 : Below w.heap.size w W7 := hM.trans (hb7.mono (by omega))
                    have hbw7 : Below w2.heap.size wr W7 := hbd.trans (hb7.mono (by omega))
                    refine ⟨hM7, ?_⟩
                    simp only [Act.put]
                    have k7 : W7.cell? ⟨gs, 0, none⟩ = some bv := by rw [cell_of_row _ _ _ _ _ _ hr7]; first | rfl | simp [Array.getElem?_append]
                    have z7 : W7.frozen? ⟨gs, 0, none⟩ = false := by simp [World.frozen?, hr7]
                    have hr8 := setCell_row (o := 0) (v := .slice a7 (i.bytes ++ x).length c7) hr7
                    have ho8 := (Frame.cell W7 ⟨gs, 0, none⟩ (.slice a7 (i.bytes ++ x).length c7)).owns ho7 (fun k hk e => hne7 (by rw [hk]; have e' : k = gs := e; rw [e']))
                    have hbw8 : Below w2.heap.size wr (W7.setCell ⟨gs, 0, none⟩ (.slice a7 (i.bytes ++ x).length c7)) := hbw7.setCell HGs.out _
                    have hM8 : Below w.heap.size w (W7.setCell ⟨gs, 0, none⟩ (.slice a7 (i.bytes ++ x).length c7)) := hM7.setCell (Nat.le_trans hs2 HGs.out) _
                    have HR8 := Lib.hid (show (W7.setCell ⟨gs, 0, none⟩ (.slice a7 (i.bytes ++ x).length c7)).heap[gs]? = some (.cells (#[.slice a7 (i.bytes ++ x).length c7, .bool i.ended, .int .i64 i.code, .int .i64 i.stage, .int .i64 i.id] ++ cs) 61 (0, 0)) by
                      rw [hr8]
                      congr 2
                      apply Array.ext'
                      simp)
                    have HO8 := Lib.hid ho8
                    have HNe7 := Lib.hid hne7
                    have HBw8 := Lib.hid hbw8
                    have HM8 := Lib.hid hM8
                    refine Pm.take_at (i := 12) 82 (.pointer (some ⟨gs, 0, none⟩)) rfl rfl (by kernel_rfl) (by kernel_rfl) (by kernel_rfl) rfl (fun _ _ => by go_simp) hM7 ?_
                    refine Pm.take_at (i := 13) 83 (.pointer (some ⟨gs, 0, none⟩)) rfl rfl (by kernel_rfl) (by kernel_rfl) (by kernel_rfl) rfl (fun _ _ => by go_simp) hM7 ?_
                    clear hr8 ho8 hne7 hbw8 hM8 at7 hg7 ho7 hr7 hb7 hbw7 hlt2 hyd hrd hbd hM k0
                    refine Pm.one_now (i := 14) rfl (by kernel_rfl) rfl ?_
                    go_wp2_with fail
                    rw [show i.bytes.length + x.length = (i.bytes ++ x).length from List.length_append.symm]
                    generalize W7.setCell ⟨gs, 0, none⟩ (.slice a7 (i.bytes ++ x).length c7) = W8 at HR8 HO8 HBw8 HM8 ⊢
                    refine ⟨HM8.out, ?_⟩
                    refine wpAnyH_done (by kernel_rfl) (NoPanic.normal ?_) _
                    clear hM7 k7 z7
                    have z1 : W8.frozen? ⟨gs, 1, none⟩ = false := by simp [World.frozen?, HR8.out]
                    have k1 : W8.cell? ⟨gs, 1, none⟩ = some (.bool i.ended) := by rw [cell_of_row _ _ _ _ _ _ HR8.out]; first | rfl | simp [Array.getElem?_append]
                    have q8 : x.length ≤ 1000 := by have := HX1.out; omega
                    have Q8 := Lib.hid q8
                    clear q8
                    have ke := HKe.out _ HM8.out
                    go_wp2_with fail
                    refine ⟨?_, by simp [intOf]⟩
                    iterate 61 (apply Exists.intro)
                    refine ⟨.inr ⟨rfl, longs_put HEnd.out HR8.out HO8.out HNe7.out HGs.out HBw8.out Q8.out b⟩, ?_⟩
                    skip
                    rfl
            · have q1 : (i.code != 0) = true := by simpa using hcode
              have HCode := Lib.hid hcode
              clear hcode
              go_wp2_with fail
              exact ⟨.inr ⟨by go_num, ⟨i, .inl rfl, by omega, HLive.out, Below.refl _ _⟩⟩, by simp [intOf]⟩
        · obtain ⟨i', hlo, hll, hst, hbl⟩ := hlong.ex
          have HLo := Lib.hid hlo
          have HLl := Lib.hid hll
          have HSt := Lib.hid hst
          have HWl := Lib.hid (HW3.out.trans (hbl.mono (by have := HW2.out.size; omega)))
          have HBl := Lib.hid (HB3.out.trans (hbl.mono hs2'))
          clear hlong hlo hll hst hbl k0 k1 k2 z0 z1
          obtain ⟨c0, c1, c2, c3⟩ := HBX.out _ HBl.out
          go_wp2_with fail
          have hnew := count_yes 9 N va vb A B wr (HT.out _ HWl.out) (HA.out _ HWl.out) (HB.out _ HWl.out) HTk.out n9
          unfold Pm.parV at hnew
          refine hnew.mono ?_
          clear hnew
          rintro e w3' ⟨g, own, rfl, hR, hg, hb3'⟩
          have HR := Lib.hid hR
          have HW3' := Lib.hid (HWl.out.trans (hb3'.mono HWl.out.size))
          obtain ⟨c0, c1, c2, c3⟩ := HBX.out _ (HBl.out.trans (hb3'.mono HBl.out.size))
          have HSt3 := Lib.hid ((HSt.out.mono (q := (· < wr.heap.size)) (fun _ h _ => h)).below hb3')
          have HWr3 := Lib.hid hb3'.size
          have HGw := Lib.hid (show ∀ k, own k → wr.heap.size ≤ k from fun k hk => hg k hk)
          have HG3 := Lib.hid (count_old hR)
          clear hR hb3' hg
          go_wp2_with fail
          have hnew := count_yes 9 N va vb A B w3' (HT.out _ HW3'.out) (HA.out _ HW3'.out) (HB.out _ HW3'.out) HTk.out n9
          unfold Pm.parV at hnew
          refine hnew.mono ?_
          clear hnew
          rintro e w4 ⟨g', own', rfl, hR', hg', hb4⟩
          have HR4' := Lib.hid hR'
          have HR4 := Lib.hid (count_below HR.out hb4)
          have HW4 := Lib.hid (HW3'.out.trans (hb4.mono HW3'.out.size))
          have HSt4 := Lib.hid (HSt3.out.below hb4)
          have HWr4 := Lib.hid (Nat.le_trans HWr3.out hb4.size)
          have HG4 := Lib.hid (show ∀ k, own' k → w3'.heap.size ≤ k ∧ k < w4.heap.size from fun k hk => ⟨hg' k hk, count_old hR' k hk⟩)
          clear hb4 c0 c1 c2 c3 hR' hg'
          go_wp2_with fail
          refine (driveCount_any N A B g (countI N A B) own _ _ i cuts w4 HR4.out ((HI.out _ HW4.out).mono (fun k _ h e => by have := HGw.out k e; have := HWl.out.size; omega)) ((HC.out _ HW4.out).mono (fun k _ h e => by have := HGw.out k e; have := HWl.out.size; omega)) (by omega) (by omega)).mono ?_
          rintro e w5 ⟨rfl, -, hf5⟩
          have hb5 : Below w.heap.size w w5 := Frame.belowO HW4.out (fun k hk => Nat.le_trans HWl.out.size (HGw.out k hk)) HW4.out.size hf5
          have HW5 := Lib.hid hb5
          have HR5 := Lib.hid (count_keep HR4'.out hf5 (fun k hk h => by have hbs := HBs.out; rcases hk with hk | hk; (have := HG4.out k hk; rcases h with h | h; (have := HG3.out k h; omega); omega); rcases h with h | h; (have := HGw.out k h; have := HWl.out.size; omega); (have := HW4.out.size; omega)))
          have HSt5 := Lib.hid (HSt4.out.frame hf5 (fun k hk h => by have := HWr4.out; rcases h with h | h; (have := HGw.out k h; omega); omega))
          have HGw' := Lib.hid (show ∀ k, own' k → wr.heap.size ≤ k from fun k hk => Nat.le_trans HWr3.out (HG4.out k hk).1)
          have HLl2 := HLl.out
          obtain ⟨d2, d4, d3⟩ := count_drive N A B i cuts n9 (by omega)
          generalize drive (countF N A B) [i] cuts 100000 0 (start (countF N A B) (countI N A B)) = D at d2 d3 d4 ⊢
          have HD2 := Lib.hid d2
          have HD3 := Lib.hid d3
          have HD4 := Lib.hid d4
          clear hf5 hb5 d2 d3 d4
          go_wp2_with fail
          refine (driveCount_any N A B g' (countI N A B) own' _ _ i' cuts w5 HR5.out (HSt5.out.mono (fun k _ h e => by have := HGw'.out k e; omega)) ((HC.out _ HW5.out).mono (fun k _ h e => by have := HGw'.out k e; have := HWl.out.size; omega)) (by omega) (by omega)).mono ?_
          rintro e w6 ⟨rfl, -, hf6⟩
          have hb6 : Below w.heap.size w w6 := Frame.belowO HW5.out (fun k hk => Nat.le_trans HWl.out.size (HGw'.out k hk)) HW5.out.size hf6
          have HW6 := Lib.hid hb6
          have hsz6 := hb6.size
          obtain ⟨d2, d4, d3⟩ := count_drive N A B i' cuts n9 (by omega)
          generalize drive (countF N A B) [i'] cuts 100000 0 (start (countF N A B) (countI N A B)) = D' at d2 d3 d4 ⊢
          have HGr := Lib.hid (count_grows N A B i i' HLo.out)
          have HE2 := Lib.hid d2
          have HE3 := Lib.hid d3
          have HE4 := Lib.hid d4
          clear d2 d3 d4
          obtain ⟨S0, S1, S2, S3, e0, e1, e2, e3, hlit⟩ := got_lit D.got
          obtain ⟨T0, T1, T2, T3, f0, f1, f2, f3, hlit'⟩ := got_lit D'.got
          have hsay : ∀ j W, Calls Tryd.prog 23 #[strV (D.got.outs j), strV (D'.got.outs j)] W (Says W (.bool true)) := by
            intro j W
            obtain ⟨r, hr⟩ := HGr.out.1 j
            have h := begins_bytes (D.got.outs j) (D'.got.outs j) W
            rw [HE2.out, HD2.out, hr] at h
            rw [HE2.out, HD2.out, hr]
            simpa using h
          have hbeg : ∀ j W, Calls Tryd.prog 23 #[strV (D.got.outs j), strV (D'.got.outs j)] W (Pm.Gives W (.bool true)) :=
            fun j W => (hsay j W).mono fun e w' ⟨he, hw⟩ => ⟨he, hw ▸ Below.refl _ _⟩
          have s0 := fun W => hsay 0 W
          have s1 := fun W => hsay 1 W
          have s2 := fun W => hsay 2 W
          have s3 := fun W => hsay 3 W
          rw [e0, f0] at s0
          rw [e1, f1] at s1
          rw [e2, f2] at s2
          rw [e3, f3] at s3
          have b0 := fun W => hbeg 0 W
          have b1 := fun W => hbeg 1 W
          have b2 := fun W => hbeg 2 W
          have b3 := fun W => hbeg 3 W
          rw [e0, f0] at b0
          rw [e1, f1] at b1
          rw [e2, f2] at b2
          rw [e3, f3] at b3
          clear hf6 hb6 hbeg hsay hsz6
          have hnd : D.got.need = -1 ∨ D.got.need = -2 ∨ D.got.need = 0 := by
            rw [HD4.out]
            exact count_fneeds N A B i
          rcases hnd with hn | hn | hn
          · obtain ⟨o1, o2, o3⟩ := HGr.out.2 (by rw [← HD4.out]; exact hn)
            obtain rfl : T0 = S0 := by have := f0.symm.trans ((by rw [HE2.out, HD2.out, o1] : strV (D'.got.outs 0) = strV (D.got.outs 0)).trans e0); injection this
            obtain rfl : T1 = S1 := by have := f1.symm.trans ((by rw [HE2.out, HD2.out, o1] : strV (D'.got.outs 1) = strV (D.got.outs 1)).trans e1); injection this
            obtain rfl : T2 = S2 := by have := f2.symm.trans ((by rw [HE2.out, HD2.out, o1] : strV (D'.got.outs 2) = strV (D.got.outs 2)).trans e2); injection this
            obtain rfl : T3 = S3 := by have := f3.symm.trans ((by rw [HE2.out, HD2.out, o1] : strV (D'.got.outs 3) = strV (D.got.outs 3)).trans e3); injection this
            have hn2 : D'.got.need = -1 := HE4.out.trans o2
            have he2 : D'.got.err = D.got.err := HE3.out.trans (o3.trans HD3.out.symm)
            rw [hlit, hlit', hn, hn2, he2]
            have q9 : (D.got.err == D.got.err) = true := by simp
            have B0 := Lib.hid b0
            have B1 := Lib.hid b1
            have B2 := Lib.hid b2
            have B3 := Lib.hid b3
            clear b0 b1 b2 b3 s0 s1 s2 s3 hn hn2 he2 hlit hlit' e0 e1 e2 e3 f0 f1 f2 f3 o1 o2 o3
            go_wp2_with fail
            have hy7 : ∀ o1 o2, Below w.heap.size w ((w6.alloc o1).alloc o2) := fun o1 o2 => (HW6.out.alloc HW6.out.size o1).alloc (by have := HW6.out.size; simp; omega) o2
            have hr7 : ∀ (o1 o2 : Obj), ((w6.alloc o1).alloc o2).heap[w6.heap.size]? = some o1 := fun o1 o2 => by
              rw [((Below.refl _ _).alloc (Nat.le_refl _) o2 : Below (w6.alloc o1).heap.size (w6.alloc o1) _).block w6.heap.size (by simp)]
              exact heap_alloc_last w6 o1
            have hr8 : ∀ (o1 o2 : Obj), ((w6.alloc o1).alloc o2).heap[w6.heap.size + 1]? = some o2 := fun o1 o2 => by
              have := heap_alloc_last (w6.alloc o1) o2
              rw [World.size_alloc] at this
              exact this
            have hx : ∃ W7 : World, W7 = ((w6.alloc (.cells #[.string T0, .string T1, .string T2, .string T3, .int .i64 (-1), .int .i64 (D.got.err), .int .i64 D.got.held, .int .i64 (D.got.taken 0), .int .i64 (D.got.taken 1), .int .i64 (D.got.taken 2), .int .i64 (D.got.taken 3), .bool false] 42)).alloc (.cells #[.string T0, .string T1, .string T2, .string T3, .int .i64 (-1), .int .i64 (D.got.err), .int .i64 D'.got.held, .int .i64 (D'.got.taken 0), .int .i64 (D'.got.taken 1), .int .i64 (D'.got.taken 2), .int .i64 (D'.got.taken 3), .bool false] 42)) := ⟨_, rfl⟩
            obtain ⟨W7, hW7⟩ := hx
            have q1 := hW7 ▸ hr7 (.cells #[.string T0, .string T1, .string T2, .string T3, .int .i64 (-1), .int .i64 (D.got.err), .int .i64 D.got.held, .int .i64 (D.got.taken 0), .int .i64 (D.got.taken 1), .int .i64 (D.got.taken 2), .int .i64 (D.got.taken 3), .bool false] 42) (.cells #[.string T0, .string T1, .string T2, .string T3, .int .i64 (-1), .int .i64 (D.got.err), .int .i64 D'.got.held, .int .i64 (D'.got.taken 0), .int .i64 (D'.got.taken 1), .int .i64 (D'.got.taken 2), .int .i64 (D'.got.taken 3), .bool false] 42)
            have q2 := hW7 ▸ hr8 (.cells #[.string T0, .string T1, .string T2, .string T3, .int .i64 (-1), .int .i64 (D.got.err), .int .i64 D.got.held, .int .i64 (D.got.taken 0), .int .i64 (D.got.taken 1), .int .i64 (D.got.taken 2), .int .i64 (D.got.taken 3), .bool false] 42) (.cells #[.string T0, .string T1, .string T2, .string T3, .int .i64 (-1), .int .i64 (D.got.err), .int .i64 D'.got.held, .int .i64 (D'.got.taken 0), .int .i64 (D'.got.taken 1), .int .i64 (D'.got.taken 2), .int .i64 (D'.got.taken 3), .bool false] 42)
            have hcells : ∀ W, Below W7.heap.size W7 W → W.cell? ⟨w6.heap.size, 0, none⟩ = some (.string T0) ∧ W.cell? ⟨w6.heap.size, 1, none⟩ = some (.string T1) ∧ W.cell? ⟨w6.heap.size, 2, none⟩ = some (.string T2) ∧ W.cell? ⟨w6.heap.size, 3, none⟩ = some (.string T3) ∧ W.cell? ⟨w6.heap.size, 4, none⟩ = some (.int .i64 (-1)) ∧ W.cell? ⟨w6.heap.size, 5, none⟩ = some (.int .i64 (D.got.err)) ∧ W.cell? ⟨w6.heap.size + 1, 0, none⟩ = some (.string T0) ∧ W.cell? ⟨w6.heap.size + 1, 1, none⟩ = some (.string T1) ∧ W.cell? ⟨w6.heap.size + 1, 2, none⟩ = some (.string T2) ∧ W.cell? ⟨w6.heap.size + 1, 3, none⟩ = some (.string T3) ∧ W.cell? ⟨w6.heap.size + 1, 4, none⟩ = some (.int .i64 (-1)) ∧ W.cell? ⟨w6.heap.size + 1, 5, none⟩ = some (.int .i64 (D.got.err)) := by
              intro W hb
              have hlt : w6.heap.size + 1 < W7.heap.size := by rw [hW7]; simp
              have r1 := (hb.block w6.heap.size (by omega)).trans q1
              have r2 := (hb.block (w6.heap.size + 1) hlt).trans q2
              refine ⟨?_, ?_, ?_, ?_, ?_, ?_, ?_, ?_, ?_, ?_, ?_, ?_⟩
              all_goals
                first | rw [cell_of_row _ _ _ _ _ _ r1]; rfl | rw [cell_of_row _ _ _ _ _ _ r2]; rfl
            have hY : ∀ W, Below W7.heap.size W7 W → Below w.heap.size w W := fun W hb => (hW7 ▸ hy7 _ _ : Below w.heap.size w W7).trans (hb.mono (hW7 ▸ hy7 _ _ : Below w.heap.size w W7).size)
            have HX := Lib.hid hcells
            have HY := Lib.hid hY
            have HW7 := Lib.hid hW7
            rw [← hW7]
            clear hy7 hr7 hr8 q1 q2 hcells hY hW7
            have hw : Below W7.heap.size W7 W7 := Below.refl _ _
            refine wp_loop_rounds 5 ?_
            all_goals
              rw [rounds_succ]
              go_upto_region 21 with fail
              have hw := hw.drew
              go_region_held3 (fun W => W.cell? ⟨w6.heap.size, 0, none⟩ = some (.string T0) ∧ W.cell? ⟨w6.heap.size, 1, none⟩ = some (.string T1) ∧ W.cell? ⟨w6.heap.size, 2, none⟩ = some (.string T2) ∧ W.cell? ⟨w6.heap.size, 3, none⟩ = some (.string T3) ∧ W.cell? ⟨w6.heap.size, 4, none⟩ = some (.int .i64 (-1)) ∧ W.cell? ⟨w6.heap.size, 5, none⟩ = some (.int .i64 (D.got.err)) ∧ W.cell? ⟨w6.heap.size + 1, 0, none⟩ = some (.string T0) ∧ W.cell? ⟨w6.heap.size + 1, 1, none⟩ = some (.string T1) ∧ W.cell? ⟨w6.heap.size + 1, 2, none⟩ = some (.string T2) ∧ W.cell? ⟨w6.heap.size + 1, 3, none⟩ = some (.string T3) ∧ W.cell? ⟨w6.heap.size + 1, 4, none⟩ = some (.int .i64 (-1)) ∧ W.cell? ⟨w6.heap.size + 1, 5, none⟩ = some (.int .i64 (D.got.err)))
                (exact HX.out _ hw)
                (first
                | (go_at_call 23; refine (B0.out _).mono ?_; rintro e w8 ⟨rfl, hb1⟩; have hw := hw.trans (hb1.mono hw.size); clear hb1))
            all_goals
              go_wp2_with fail
              rw [rounds_succ]
              go_upto_region 21 with fail
              have hw := hw.drew
              go_region_held3 (fun W => W.cell? ⟨w6.heap.size, 0, none⟩ = some (.string T0) ∧ W.cell? ⟨w6.heap.size, 1, none⟩ = some (.string T1) ∧ W.cell? ⟨w6.heap.size, 2, none⟩ = some (.string T2) ∧ W.cell? ⟨w6.heap.size, 3, none⟩ = some (.string T3) ∧ W.cell? ⟨w6.heap.size, 4, none⟩ = some (.int .i64 (-1)) ∧ W.cell? ⟨w6.heap.size, 5, none⟩ = some (.int .i64 (D.got.err)) ∧ W.cell? ⟨w6.heap.size + 1, 0, none⟩ = some (.string T0) ∧ W.cell? ⟨w6.heap.size + 1, 1, none⟩ = some (.string T1) ∧ W.cell? ⟨w6.heap.size + 1, 2, none⟩ = some (.string T2) ∧ W.cell? ⟨w6.heap.size + 1, 3, none⟩ = some (.string T3) ∧ W.cell? ⟨w6.heap.size + 1, 4, none⟩ = some (.int .i64 (-1)) ∧ W.cell? ⟨w6.heap.size + 1, 5, none⟩ = some (.int .i64 (D.got.err)))
                (exact HX.out _ hw)
                (first
                | (go_at_call 23; refine (B1.out _).mono ?_; rintro e w8 ⟨rfl, hb1⟩; have hw := hw.trans (hb1.mono hw.size); clear hb1))
            all_goals
              go_wp2_with fail
              rw [rounds_succ]
              go_upto_region 21 with fail
              have hw := hw.drew
              go_region_held3 (fun W => W.cell? ⟨w6.heap.size, 0, none⟩ = some (.string T0) ∧ W.cell? ⟨w6.heap.size, 1, none⟩ = some (.string T1) ∧ W.cell? ⟨w6.heap.size, 2, none⟩ = some (.string T2) ∧ W.cell? ⟨w6.heap.size, 3, none⟩ = some (.string T3) ∧ W.cell? ⟨w6.heap.size, 4, none⟩ = some (.int .i64 (-1)) ∧ W.cell? ⟨w6.heap.size, 5, none⟩ = some (.int .i64 (D.got.err)) ∧ W.cell? ⟨w6.heap.size + 1, 0, none⟩ = some (.string T0) ∧ W.cell? ⟨w6.heap.size + 1, 1, none⟩ = some (.string T1) ∧ W.cell? ⟨w6.heap.size + 1, 2, none⟩ = some (.string T2) ∧ W.cell? ⟨w6.heap.size + 1, 3, none⟩ = some (.string T3) ∧ W.cell? ⟨w6.heap.size + 1, 4, none⟩ = some (.int .i64 (-1)) ∧ W.cell? ⟨w6.heap.size + 1, 5, none⟩ = some (.int .i64 (D.got.err)))
                (exact HX.out _ hw)
                (first
                | (go_at_call 23; refine (B2.out _).mono ?_; rintro e w8 ⟨rfl, hb1⟩; have hw := hw.trans (hb1.mono hw.size); clear hb1))
            all_goals
              go_wp2_with fail
              rw [rounds_succ]
              go_upto_region 21 with fail
              have hw := hw.drew
              go_region_held3 (fun W => W.cell? ⟨w6.heap.size, 0, none⟩ = some (.string T0) ∧ W.cell? ⟨w6.heap.size, 1, none⟩ = some (.string T1) ∧ W.cell? ⟨w6.heap.size, 2, none⟩ = some (.string T2) ∧ W.cell? ⟨w6.heap.size, 3, none⟩ = some (.string T3) ∧ W.cell? ⟨w6.heap.size, 4, none⟩ = some (.int .i64 (-1)) ∧ W.cell? ⟨w6.heap.size, 5, none⟩ = some (.int .i64 (D.got.err)) ∧ W.cell? ⟨w6.heap.size + 1, 0, none⟩ = some (.string T0) ∧ W.cell? ⟨w6.heap.size + 1, 1, none⟩ = some (.string T1) ∧ W.cell? ⟨w6.heap.size + 1, 2, none⟩ = some (.string T2) ∧ W.cell? ⟨w6.heap.size + 1, 3, none⟩ = some (.string T3) ∧ W.cell? ⟨w6.heap.size + 1, 4, none⟩ = some (.int .i64 (-1)) ∧ W.cell? ⟨w6.heap.size + 1, 5, none⟩ = some (.int .i64 (D.got.err)))
                (exact HX.out _ hw)
                (first
                | (go_at_call 23; refine (B3.out _).mono ?_; rintro e w8 ⟨rfl, hb1⟩; have hw := hw.trans (hb1.mono hw.size); clear hb1))
            all_goals
              go_wp2_with fail
              obtain ⟨k0, k1, k2, k3, k4, k5, j0, j1, j2, j3, j4, j5⟩ := HX.out _ hw
              rw [rounds_succ]
              go_wp2_with fail
              refine (awake_true _ (HT.out _ (HY.out _ hw))).mono ?_
              rintro e w9 ⟨rfl, hb9⟩
              go_wp2_with fail
              go_ret
              exact ⟨rfl, (HY.out _ hw).trans (hb9.mono (HY.out _ hw).size)⟩
          all_goals
            have g1 : (D.got.need == -1) = false := by rw [hn]; rfl
            have g2 : (D.got.need != -1) = true := by rw [hn]; rfl
            rw [hlit, hlit']
            have B0 := Lib.hid (fun W => (s0 W).mono fun e w' h => (⟨h.1, h.2.symm⟩ : e = .returned (.bool true) ∧ w' = W))
            have B1 := Lib.hid (fun W => (s1 W).mono fun e w' h => (⟨h.1, h.2.symm⟩ : e = .returned (.bool true) ∧ w' = W))
            have B2 := Lib.hid (fun W => (s2 W).mono fun e w' h => (⟨h.1, h.2.symm⟩ : e = .returned (.bool true) ∧ w' = W))
            have B3 := Lib.hid (fun W => (s3 W).mono fun e w' h => (⟨h.1, h.2.symm⟩ : e = .returned (.bool true) ∧ w' = W))
            clear b0 b1 b2 b3 s0 s1 s2 s3 hn hlit hlit' e0 e1 e2 e3 f0 f1 f2 f3
            go_wp2_with fail
            have hy7 : ∀ o1 o2, Below w.heap.size w ((w6.alloc o1).alloc o2) := fun o1 o2 => (HW6.out.alloc HW6.out.size o1).alloc (by have := HW6.out.size; simp; omega) o2
            have hr7 : ∀ (o1 o2 : Obj), ((w6.alloc o1).alloc o2).heap[w6.heap.size]? = some o1 := fun o1 o2 => by
              rw [((Below.refl _ _).alloc (Nat.le_refl _) o2 : Below (w6.alloc o1).heap.size (w6.alloc o1) _).block w6.heap.size (by simp)]
              exact heap_alloc_last w6 o1
            have hr8 : ∀ (o1 o2 : Obj), ((w6.alloc o1).alloc o2).heap[w6.heap.size + 1]? = some o2 := fun o1 o2 => by
              have := heap_alloc_last (w6.alloc o1) o2
              rw [World.size_alloc] at this
              exact this
            obtain ⟨W7, hW7⟩ : ∃ W7 : World, W7 = ((w6.alloc (.cells #[.string S0, .string S1, .string S2, .string S3, .int .i64 D.got.need, .int .i64 D.got.err, .int .i64 D.got.held, .int .i64 (D.got.taken 0), .int .i64 (D.got.taken 1), .int .i64 (D.got.taken 2), .int .i64 (D.got.taken 3), .bool false] 42)).alloc (.cells #[.string T0, .string T1, .string T2, .string T3, .int .i64 D'.got.need, .int .i64 D'.got.err, .int .i64 D'.got.held, .int .i64 (D'.got.taken 0), .int .i64 (D'.got.taken 1), .int .i64 (D'.got.taken 2), .int .i64 (D'.got.taken 3), .bool false] 42)) := ⟨_, rfl⟩
            have q1 := hW7 ▸ hr7 (.cells #[.string S0, .string S1, .string S2, .string S3, .int .i64 D.got.need, .int .i64 D.got.err, .int .i64 D.got.held, .int .i64 (D.got.taken 0), .int .i64 (D.got.taken 1), .int .i64 (D.got.taken 2), .int .i64 (D.got.taken 3), .bool false] 42) (.cells #[.string T0, .string T1, .string T2, .string T3, .int .i64 D'.got.need, .int .i64 D'.got.err, .int .i64 D'.got.held, .int .i64 (D'.got.taken 0), .int .i64 (D'.got.taken 1), .int .i64 (D'.got.taken 2), .int .i64 (D'.got.taken 3), .bool false] 42)
            have q2 := hW7 ▸ hr8 (.cells #[.string S0, .string S1, .string S2, .string S3, .int .i64 D.got.need, .int .i64 D.got.err, .int .i64 D.got.held, .int .i64 (D.got.taken 0), .int .i64 (D.got.taken 1), .int .i64 (D.got.taken 2), .int .i64 (D.got.taken 3), .bool false] 42) (.cells #[.string T0, .string T1, .string T2, .string T3, .int .i64 D'.got.need, .int .i64 D'.got.err, .int .i64 D'.got.held, .int .i64 (D'.got.taken 0), .int .i64 (D'.got.taken 1), .int .i64 (D'.got.taken 2), .int .i64 (D'.got.taken 3), .bool false] 42)
            have hcells : ∀ W, Below W7.heap.size W7 W → W.cell? ⟨w6.heap.size, 0, none⟩ = some (.string S0) ∧ W.cell? ⟨w6.heap.size, 1, none⟩ = some (.string S1) ∧ W.cell? ⟨w6.heap.size, 2, none⟩ = some (.string S2) ∧ W.cell? ⟨w6.heap.size, 3, none⟩ = some (.string S3) ∧ W.cell? ⟨w6.heap.size, 4, none⟩ = some (.int .i64 D.got.need) ∧ W.cell? ⟨w6.heap.size, 5, none⟩ = some (.int .i64 D.got.err) ∧ W.cell? ⟨w6.heap.size + 1, 0, none⟩ = some (.string T0) ∧ W.cell? ⟨w6.heap.size + 1, 1, none⟩ = some (.string T1) ∧ W.cell? ⟨w6.heap.size + 1, 2, none⟩ = some (.string T2) ∧ W.cell? ⟨w6.heap.size + 1, 3, none⟩ = some (.string T3) ∧ W.cell? ⟨w6.heap.size + 1, 4, none⟩ = some (.int .i64 D'.got.need) ∧ W.cell? ⟨w6.heap.size + 1, 5, none⟩ = some (.int .i64 D'.got.err) := by
              intro W hb
              have hlt : w6.heap.size + 1 < W7.heap.size := by rw [hW7]; simp
              have r1 := (hb.block w6.heap.size (by omega)).trans q1
              have r2 := (hb.block (w6.heap.size + 1) hlt).trans q2
              refine ⟨?_, ?_, ?_, ?_, ?_, ?_, ?_, ?_, ?_, ?_, ?_, ?_⟩
              all_goals
                first | rw [cell_of_row _ _ _ _ _ _ r1]; rfl | rw [cell_of_row _ _ _ _ _ _ r2]; rfl
            have hY : ∀ W, Below W7.heap.size W7 W → Below w.heap.size w W := fun W hb => (hW7 ▸ hy7 _ _ : Below w.heap.size w W7).trans (hb.mono (hW7 ▸ hy7 _ _ : Below w.heap.size w W7).size)
            have HX := Lib.hid hcells
            have HY := Lib.hid hY
            rw [← hW7]
            clear hy7 hr7 hr8 q1 q2 hcells hY hW7
            have hw : Below W7.heap.size W7 W7 := Below.refl _ _
            refine wp_loop_rounds 5 ?_
            rw [rounds_succ]
            go_upto_region 21 with fail
            refine region_stillG (by kernel_rfl) (by kernel_rfl) ?_
            have hw := hw.drew
            generalize W7.drew = W8 at hw ⊢
            obtain ⟨k0, k1, k2, k3, k4, k5, j0, j1, j2, j3, j4, j5⟩ := HX.out _ hw
            iterate 8 (refine stillG_step (fun K hK => ?_); go_simp; refine hK.out _ ?_; clear hK K)
            refine stillG_step (fun K hK => ?_)
            go_simp
            refine ⟨_, B0.out _, hK.out _ ?_⟩
            clear hK K
            iterate 17 (refine stillG_step (fun K hK => ?_); go_simp; refine hK.out _ ?_; clear hK K)
            refine stillG_nil ?_
            clear k0 k1 k2 k3 k4 k5 j0 j1 j2 j3 j4 j5
            go_wp2_with fail
            rw [rounds_succ]
            go_upto_region 21 with fail
            refine region_stillG (by kernel_rfl) (by kernel_rfl) ?_
            have hw := hw.drew
            generalize W8.drew = W9 at hw ⊢
            obtain ⟨k0, k1, k2, k3, k4, k5, j0, j1, j2, j3, j4, j5⟩ := HX.out _ hw
            iterate 8 (refine stillG_step (fun K hK => ?_); go_simp; refine hK.out _ ?_; clear hK K)
            refine stillG_step (fun K hK => ?_)
            go_simp
            refine ⟨_, B1.out _, hK.out _ ?_⟩
            clear hK K
            iterate 17 (refine stillG_step (fun K hK => ?_); go_simp; refine hK.out _ ?_; clear hK K)
            refine stillG_nil ?_
            clear k0 k1 k2 k3 k4 k5 j0 j1 j2 j3 j4 j5
            go_wp2_with fail
            rw [rounds_succ]
            go_upto_region 21 with fail
            refine region_stillG (by kernel_rfl) (by kernel_rfl) ?_
            have hw := hw.drew
            generalize W9.drew = W10 at hw ⊢
            obtain ⟨k0, k1, k2, k3, k4, k5, j0, j1, j2, j3, j4, j5⟩ := HX.out _ hw
            iterate 8 (refine stillG_step (fun K hK => ?_); go_simp; refine hK.out _ ?_; clear hK K)
            refine stillG_step (fun K hK => ?_)
            go_simp
            refine ⟨_, B2.out _, hK.out _ ?_⟩
            clear hK K
            iterate 17 (refine stillG_step (fun K hK => ?_); go_simp; refine hK.out _ ?_; clear hK K)
            refine stillG_nil ?_
            clear k0 k1 k2 k3 k4 k5 j0 j1 j2 j3 j4 j5
            go_wp2_with fail
            rw [rounds_succ]
            go_upto_region 21 with fail
            refine region_stillG (by kernel_rfl) (by kernel_rfl) ?_
            have hw := hw.drew
            generalize W10.drew = W11 at hw ⊢
            obtain ⟨k0, k1, k2, k3, k4, k5, j0, j1, j2, j3, j4, j5⟩ := HX.out _ hw
            iterate 8 (refine stillG_step (fun K hK => ?_); go_simp; refine hK.out _ ?_; clear hK K)
            refine stillG_step (fun K hK => ?_)
            go_simp
            refine ⟨_, B3.out _, hK.out _ ?_⟩
            clear hK K
            iterate 17 (refine stillG_step (fun K hK => ?_); go_simp; refine hK.out _ ?_; clear hK K)
            refine stillG_nil ?_
            clear k0 k1 k2 k3 k4 k5 j0 j1 j2 j3 j4 j5
            go_wp2_with fail
            obtain ⟨k0, k1, k2, k3, k4, k5, j0, j1, j2, j3, j4, j5⟩ := HX.out _ hw
            rw [rounds_succ]
            go_wp2_with fail
            refine (awake_true _ (HT.out _ (HY.out _ hw))).mono ?_
            rintro e w9 ⟨rfl, hb9⟩
            go_wp2_with fail
            go_ret
            exact ⟨rfl, (HY.out _ hw).trans (hb9.mono (HY.out _ hw).size)⟩

end Go.Proofs.YtlflhjgfegflfaaDoor
