/- UniqAlike's walk. -/
import Derived.Test.YtmmhpjhmobhdiaaDoorUniqAlikekit
import Derived.Test.YtmmhpjhmobhdiaaDoorRA
import Derived.Deep.RegionHeld3
namespace Go.Proofs.YtmmhpjhmobhdiaaDoor
open Go.RowKit

theorem nil_strmsU (w : World) : IsStrms (· < w.heap.size) w (.slice none 0 0) [] := ⟨none, 0, rfl, fun j t h => by simp at h⟩

set_option maxRecDepth 100000 in
set_option maxHeartbeats 16000000 in
theorem alikeLaw_any (xv cv : Value) (x : List UInt8) (cuts : List Int) (w : World) (hT : TenTab w) (hX : IsBytes (· < w.heap.size) w xv x) (hC : IsInts (· < w.heap.size) w cv cuts) (hxl : x.length ≤ 1048576) :
    Calls Tryd.prog 9 #[xv, cv] w (Pm.Gives w (.bool true)) := by
  have HT := Lib.hid (show ∀ W, Below w.heap.size w W → TenTab W from fun W hb => hT.below hb)
  have HX := Lib.hid (show ∀ W, Below w.heap.size w W → IsBytes (· < w.heap.size) W xv x from fun W hb => hX.below hb)
  have HC := Lib.hid (show ∀ W, Below w.heap.size w W → IsInts (· < w.heap.size) W cv cuts from fun W hb => hC.below hb)
  obtain ⟨ax, cx, rfl, -, -⟩ := id hX
  obtain ⟨ac, cc, rfl, -⟩ := id hC
  clear hT hX hC
  obtain ⟨H, hH⟩ : ∃ H, H = heavyB [] [] [] [cuts] := ⟨_, rfl⟩
  have HH := Lib.hid hH
  clear hH
  go_enter Tryd.func9, Tryd.ntmps9
  go_upto_region 3 with fail
  have hb0 : Below w.heap.size w ((w.alloc (.cells #[.int .i64 8, .int .i64 0, .slice none 0 0, .slice none 0 0] 24)).alloc (.cells #[.int .i64 8, .int .i64 1, .slice none 0 0, .slice none 0 0] 24)) := ((Below.refl _ _).alloc (Nat.le_refl _) _).alloc (by simp) _
  have hr1 := heap_alloc_last (w.alloc (.cells #[.int .i64 8, .int .i64 0, .slice none 0 0, .slice none 0 0] 24)) (.cells #[.int .i64 8, .int .i64 1, .slice none 0 0, .slice none 0 0] 24)
  rw [World.size_alloc] at hr1
  have hr0 := (((Below.refl (w.alloc (.cells #[.int .i64 8, .int .i64 0, .slice none 0 0, .slice none 0 0] 24)).heap.size (w.alloc (.cells #[.int .i64 8, .int .i64 0, .slice none 0 0, .slice none 0 0] 24))).alloc (Nat.le_refl _) (.cells #[.int .i64 8, .int .i64 1, .slice none 0 0, .slice none 0 0] 24)).block w.heap.size (by simp)).trans (heap_alloc_last w (.cells #[.int .i64 8, .int .i64 0, .slice none 0 0, .slice none 0 0] 24))
  have hs0 : ((w.alloc (.cells #[.int .i64 8, .int .i64 0, .slice none 0 0, .slice none 0 0] 24)).alloc (.cells #[.int .i64 8, .int .i64 1, .slice none 0 0, .slice none 0 0] 24)).heap.size = w.heap.size + 2 := by simp
  generalize (w.alloc (.cells #[.int .i64 8, .int .i64 0, .slice none 0 0, .slice none 0 0] 24)).alloc (.cells #[.int .i64 8, .int .i64 1, .slice none 0 0, .slice none 0 0] 24) = W0 at hb0 hr0 hr1 hs0 ⊢
  have hx0 : ∀ W, Below W0.heap.size W0 W → W.cell? ⟨w.heap.size, 0, none⟩ = some (.int .i64 8) ∧ W.cell? ⟨w.heap.size, 1, none⟩ = some (.int .i64 0) ∧ W.cell? ⟨w.heap.size, 2, none⟩ = some (.slice none 0 0) ∧ W.cell? ⟨w.heap.size, 3, none⟩ = some (.slice none 0 0) := fun W hb => by
    have hr := (hb.block w.heap.size (by omega)).trans hr0
    refine ⟨?_, ?_, ?_, ?_⟩
    all_goals
      rw [cell_of_row _ _ _ _ _ _ hr]
      rfl
  have hx1 : ∀ W, Below W0.heap.size W0 W → W.cell? ⟨w.heap.size + 1, 0, none⟩ = some (.int .i64 8) ∧ W.cell? ⟨w.heap.size + 1, 1, none⟩ = some (.int .i64 1) ∧ W.cell? ⟨w.heap.size + 1, 2, none⟩ = some (.slice none 0 0) ∧ W.cell? ⟨w.heap.size + 1, 3, none⟩ = some (.slice none 0 0) := fun W hb => by
    have hr := (hb.block (w.heap.size + 1) (by omega)).trans hr1
    refine ⟨?_, ?_, ?_, ?_⟩
    all_goals
      rw [cell_of_row _ _ _ _ _ _ hr]
      rfl
  have HX0 := Lib.hid hx0
  have HX1 := Lib.hid hx1
  have HW0 := Lib.hid hb0
  have hlines := linesOf_any _ x W0 (HX.out _ hb0) (by omega)
  have HLines := Lib.hid hlines
  have HV0 := Lib.hid (Below.refl W0.heap.size W0)
  clear hb0 hr0 hr1 hx0 hx1 hlines
  go_wp2_with fail
  refine HLines.out.mono ?_
  clear HLines
  rintro e w1 ⟨la, lc, rfl, hlc, hTx, hb1⟩
  have hr64 := (readL_lines x true (0, 0, 0)).1
  have hrl := (readL_lines x true (0, 0, 0)).2
  have hten := readL_ten x true (0, 0, 0)
  obtain ⟨L, hL⟩ : ∃ L, L = (readL x true (0, 0, 0)).1 := ⟨_, rfl⟩
  obtain ⟨all, hall⟩ : ∃ all, all = (readL x true (0, 0, 0)).2.1 := ⟨_, rfl⟩
  rw [← hL] at hTx hlc hr64 hrl hten ⊢
  rw [← hall]
  have HL := Lib.hid hL
  have HAll := Lib.hid hall
  have HTx := Lib.hid hTx
  have HR := Lib.hid hr64
  have HTen := Lib.hid hten
  have HW1 := Lib.hid (HW0.out.trans (hb1.mono HW0.out.size))
  have HV1 := Lib.hid (HV0.out.trans hb1)
  have HB1 := Lib.hid hb1
  clear hL hall hTx hb1 hr64 hten
  obtain ⟨c0, c1, c2, c3⟩ := HX0.out _ HV1.out
  have hcc := ints_list w1 (.slice ac cuts.length cc) cuts (fun _ => True) trivial ((HC.out _ HW1.out).mono (fun _ _ _ => trivial)) (0, 0)
  have hbA : Below w.heap.size w (w1.alloc (.cells #[.slice ac cuts.length cc] 37)) := HW1.out.alloc HW1.out.size _
  have hheavy := heavy_any 8 0 (.slice none 0 0) (.slice none 0 0) (.slice none 0 0) _ [] [] [] [cuts] _ (pm_nil _) (pm_nil _) (nil_strmsU _) hcc (by simp)
  unfold Pm.parV at hheavy
  have HHeavy := Lib.hid hheavy
  have HBA := Lib.hid hbA
  have HVA := Lib.hid (show Below W0.heap.size W0 (w1.alloc (.cells #[.slice ac cuts.length cc] 37)) from HV1.out.alloc HV1.out.size _)
  have HB1A := Lib.hid (show Below w1.heap.size w1 (w1.alloc (.cells #[.slice ac cuts.length cc] 37)) from (Below.refl _ _).alloc (Nat.le_refl _) _)
  clear hcc hbA hheavy
  go_wp2_with fail
  refine HHeavy.out.mono ?_
  clear HHeavy c0 c1 c2 c3
  rintro e w2 ⟨rfl, hb2⟩
  have HW2 := Lib.hid (HBA.out.trans (hb2.mono HBA.out.size))
  have HV2 := Lib.hid (HVA.out.trans (hb2.mono HVA.out.size))
  have HU2 := Lib.hid (HB1A.out.trans (hb2.mono (by simp)))
  clear hb2 HBA HVA HB1A
  rw [← HH.out]
  cases H with
  | true =>
    go_wp2_with fail
    refine (awake_true _ (HT.out _ HW2.out)).mono ?_
    rintro e w9 ⟨rfl, hb9⟩
    go_wp2_with fail
    go_ret
    exact ⟨rfl, HW2.out.trans (hb9.mono HW2.out.size)⟩
  | false =>
    obtain ⟨-, -, -, -, sC⟩ := heavy_no HH.out.symm
    have hcl := sC cuts (by simp)
    clear sC
    by_cases hx : (2000 : Int) < (x.length : Int)
    · go_wp2_with fail
      refine (awake_true _ (HT.out _ HW2.out)).mono ?_
      rintro e w9 ⟨rfl, hb9⟩
      go_wp2_with fail
      go_ret
      exact ⟨rfl, HW2.out.trans (hb9.mono HW2.out.size)⟩
    cases all with
    | false =>
      go_wp2_with fail
      refine (awake_true _ (HT.out _ HW2.out)).mono ?_
      rintro e w9 ⟨rfl, hb9⟩
      go_wp2_with fail
      go_ret
      exact ⟨rfl, HW2.out.trans (hb9.mono HW2.out.size)⟩
    | true =>
      have HHH := HH
      have hbA : Below w.heap.size w (w2.alloc (.cells #[.slice ax x.length cx] 22)) := HW2.out.alloc HW2.out.size _
      have hpc := pieces_new w2 (.slice ax x.length cx) x (· < (w2.alloc (.cells #[.slice ax x.length cx] 22)).heap.size) (by simp) ((HX.out _ HW2.out).mono (fun k hk _ => by simp; omega)) (0, 0)
      have htold := told_any 0 (.slice none 0 0) (.slice none 0 0) (.slice ac cuts.length cc) _ [] [] x cuts _ (HT.out _ hbA) (pm_nil _) (pm_nil _) hpc ((HC.out _ hbA).mono (fun k hk _ => hk)) (uniq_takeE 0 (by decide)) (by decide) (by simp) (by simp) (by omega) (by omega)
      unfold Pm.parV at htold
      obtain ⟨c0, c1, c2, c3⟩ := HX0.out _ HV2.out
      have HTold := Lib.hid htold
      have HBA := Lib.hid hbA
      have HVA := Lib.hid (show Below W0.heap.size W0 (w2.alloc (.cells #[.slice ax x.length cx] 22)) from HV2.out.alloc HV2.out.size _)
      clear htold hpc hbA
      have HUA := Lib.hid (show Below w1.heap.size w1 (w2.alloc (.cells #[.slice ax x.length cx] 22)) from HU2.out.alloc HU2.out.size _)
      go_wp2_with fail
      refine HTold.out.mono ?_
      clear HTold c0 c1 c2 c3
      rintro e w3 ⟨rfl, hbw3⟩
      obtain ⟨DF, hD⟩ : ∃ D, D = drive (uniqF 0 [] []) [⟨x, true, 0, 0, 0⟩] cuts 100000 0 (start (uniqF 0 [] []) (uniqI 0 [] [])) := ⟨_, rfl⟩
      rw [← hD]
      obtain ⟨o0, ofine⟩ := uniq_whole 0 x cuts (by decide) (by omega) HAll.out.symm DF hD
      rw [ofine]
      obtain ⟨F0, F1, F2, F3, e0, -, -, -, hlit⟩ := got_lit DF.got
      rw [o0, ← HL.out] at e0
      rw [hlit]
      have HF := Lib.hid e0
      have HWw3 := Lib.hid (HBA.out.trans (hbw3.mono HBA.out.size))
      have HVw3 := Lib.hid (HVA.out.trans (hbw3.mono HVA.out.size))
      have HUw3 := Lib.hid (HUA.out.trans (hbw3.mono HUA.out.size))
      clear hbw3 hD o0 ofine e0 hlit HBA HVA HUA
      go_upto_region 7 with fail
      have hr4 := heap_alloc_last w3 (.cells #[.string F0, .string F1, .string F2, .string F3, .int .i64 DF.got.need, .int .i64 DF.got.err, .int .i64 DF.got.held, .int .i64 (DF.got.taken 0), .int .i64 (DF.got.taken 1), .int .i64 (DF.got.taken 2), .int .i64 (DF.got.taken 3), .bool false] 42)
      have hb4 : Below w3.heap.size w3 (w3.alloc (.cells #[.string F0, .string F1, .string F2, .string F3, .int .i64 DF.got.need, .int .i64 DF.got.err, .int .i64 DF.got.held, .int .i64 (DF.got.taken 0), .int .i64 (DF.got.taken 1), .int .i64 (DF.got.taken 2), .int .i64 (DF.got.taken 3), .bool false] 42)) := (Below.refl _ _).alloc (Nat.le_refl _) _
      generalize w3.alloc (.cells #[.string F0, .string F1, .string F2, .string F3, .int .i64 DF.got.need, .int .i64 DF.got.err, .int .i64 DF.got.held, .int .i64 (DF.got.taken 0), .int .i64 (DF.got.taken 1), .int .i64 (DF.got.taken 2), .int .i64 (DF.got.taken 3), .bool false] 42) = W4 at hr4 hb4 ⊢
      have HW4 := Lib.hid (HWw3.out.trans (hb4.mono HWw3.out.size))
      have HV4 := Lib.hid (HVw3.out.trans (hb4.mono HVw3.out.size))
      have HR4 := Lib.hid hr4
      have HBn4 := Lib.hid hb4
      have HU4 := Lib.hid (HUw3.out.trans (hb4.mono HUw3.out.size))
      clear hr4 hb4
      have HS4 := Lib.hid (Below.refl W4.heap.size W4)
      have hbA : Below w.heap.size w (W4.alloc (.cells #[.slice ax x.length cx] 22)) := HW4.out.alloc HW4.out.size _
      have hpc := pieces_new W4 (.slice ax x.length cx) x (· < (W4.alloc (.cells #[.slice ax x.length cx] 22)).heap.size) (by simp) ((HX.out _ HW4.out).mono (fun k hk _ => by simp; omega)) (0, 0)
      have htold := told_any 1 (.slice none 0 0) (.slice none 0 0) (.slice ac cuts.length cc) _ [] [] x cuts _ (HT.out _ hbA) (pm_nil _) (pm_nil _) hpc ((HC.out _ hbA).mono (fun k hk _ => hk)) (uniq_takeE 1 (by decide)) (by decide) (by simp) (by simp) (by omega) (by omega)
      unfold Pm.parV at htold
      obtain ⟨c0, c1, c2, c3⟩ := HX1.out _ HV4.out
      have HTold := Lib.hid htold
      have HBA := Lib.hid hbA
      have HVA := Lib.hid (show Below W0.heap.size W0 (W4.alloc (.cells #[.slice ax x.length cx] 22)) from HV4.out.alloc HV4.out.size _)
      clear htold hpc hbA
      have HUA := Lib.hid (show Below w1.heap.size w1 (W4.alloc (.cells #[.slice ax x.length cx] 22)) from HU4.out.alloc HU4.out.size _)
      have HSA := Lib.hid (show Below W4.heap.size W4 (W4.alloc (.cells #[.slice ax x.length cx] 22)) from HS4.out.alloc HS4.out.size _)
      go_wp2_with fail
      refine HTold.out.mono ?_
      clear HTold c0 c1 c2 c3
      rintro e w5 ⟨rfl, hbw5⟩
      obtain ⟨DE, hD⟩ : ∃ D, D = drive (uniqF 1 [] []) [⟨x, true, 0, 0, 0⟩] cuts 100000 0 (start (uniqF 1 [] []) (uniqI 1 [] [])) := ⟨_, rfl⟩
      rw [← hD]
      obtain ⟨o0, ofine⟩ := uniq_whole 1 x cuts (by decide) (by omega) HAll.out.symm DE hD
      rw [ofine]
      obtain ⟨E0, E1, E2, E3, e0, -, -, -, hlit⟩ := got_lit DE.got
      rw [o0, ← HL.out] at e0
      rw [hlit]
      have HE := Lib.hid e0
      have HWw5 := Lib.hid (HBA.out.trans (hbw5.mono HBA.out.size))
      have HVw5 := Lib.hid (HVA.out.trans (hbw5.mono HVA.out.size))
      have HUw5 := Lib.hid (HUA.out.trans (hbw5.mono HUA.out.size))
      have HSw5 := Lib.hid (HSA.out.trans (hbw5.mono HSA.out.size))
      clear hbw5 hD o0 ofine e0 hlit HBA HVA HUA HSA
      go_upto_region 8 with fail
      have hr6 := heap_alloc_last w5 (.cells #[.string E0, .string E1, .string E2, .string E3, .int .i64 DE.got.need, .int .i64 DE.got.err, .int .i64 DE.got.held, .int .i64 (DE.got.taken 0), .int .i64 (DE.got.taken 1), .int .i64 (DE.got.taken 2), .int .i64 (DE.got.taken 3), .bool false] 42)
      have hb6 : Below w5.heap.size w5 (w5.alloc (.cells #[.string E0, .string E1, .string E2, .string E3, .int .i64 DE.got.need, .int .i64 DE.got.err, .int .i64 DE.got.held, .int .i64 (DE.got.taken 0), .int .i64 (DE.got.taken 1), .int .i64 (DE.got.taken 2), .int .i64 (DE.got.taken 3), .bool false] 42)) := (Below.refl _ _).alloc (Nat.le_refl _) _
      generalize w5.alloc (.cells #[.string E0, .string E1, .string E2, .string E3, .int .i64 DE.got.need, .int .i64 DE.got.err, .int .i64 DE.got.held, .int .i64 (DE.got.taken 0), .int .i64 (DE.got.taken 1), .int .i64 (DE.got.taken 2), .int .i64 (DE.got.taken 3), .bool false] 42) = W6 at hr6 hb6 ⊢
      have HW6 := Lib.hid (HWw5.out.trans (hb6.mono HWw5.out.size))
      have HV6 := Lib.hid (HVw5.out.trans (hb6.mono HVw5.out.size))
      have HR6 := Lib.hid hr6
      have HBn6 := Lib.hid hb6
      have HU6 := Lib.hid (HUw5.out.trans (hb6.mono HUw5.out.size))
      have HS6 := Lib.hid (HSw5.out.trans (hb6.mono HSw5.out.size))
      clear hr6 hb6
      have HQ6 := Lib.hid (Below.refl W6.heap.size W6)
      obtain ⟨ca, w7, hcv, -, hby, hb7⟩ := conv_str (docS false true L) W6
      have hgl : (docS false true L).length ≤ 2000000 := Nat.le_trans (docS_len false true L HR.out (by omega)) (by omega)
      have hlines := linesOf_any _ (docS false true L) w7 hby hgl
      obtain ⟨G, hG⟩ : ∃ G, G = firstsL L := ⟨_, rfl⟩
      have hread : readL (docS false true L) true (0, 0, 0) = (G, true, (0, 0, 0)) := by
        rw [docS_firsts, hG]
        exact readL_joinL (fun l hl => HR.out l (firstsL_mem L hl)) (fun l hl => HTen.out l (firstsL_mem L hl))
      unfold LinesOf at hlines
      rw [hread] at hlines
      have h0F := HF.out
      rw [show (decide ((0 : Nat) = 1)) = false from rfl] at h0F
      rw [h0F] at hcv
      have HLines := Lib.hid hlines
      have HG := Lib.hid hG
      have HW7 := Lib.hid (HW6.out.trans (hb7.mono HW6.out.size))
      have HV7 := Lib.hid (HV6.out.trans (hb7.mono HV6.out.size))
      have HBB7 := Lib.hid hb7
      have k9 : W6.cell? ⟨w3.heap.size, 0, none⟩ = some (.string F0) := by
        have hbb : Below W4.heap.size W4 W6 := HS6.out
        exact Pm.Below.cell hbb (by rw [cell_of_row _ _ _ _ _ _ HR4.out]; rfl)
      clear hlines hG hread h0F hgl hby
      go_wp2_with fail
      refine HLines.out.mono ?_
      clear HLines hcv
      rintro e w8 ⟨ga, gc, rfl, hgc, hTg, hb8⟩
      simp only at hgc hTg ⊢
      have HW8 := Lib.hid (HW7.out.trans (hb8.mono HW7.out.size))
      have HV8 := Lib.hid (HV7.out.trans (hb8.mono HV7.out.size))
      have hgln : G.length ≤ L.length := by rw [HG.out]; exact firstsL_len L
      have hTl8 : IsTexts (fun _ => True) w8 (.slice la L.length lc) L := by
        have hbb : Below w1.heap.size w1 w8 := (HU6.out.trans (HBB7.out.mono HU6.out.size)).trans (hb8.mono (HU6.out.trans (HBB7.out.mono HU6.out.size)).size)
        exact (HTx.out.mono (fun _ _ _ => trivial)).below hbb
      have HTl := Lib.hid (show ∀ W, Below w8.heap.size w8 W → IsTexts (fun _ => True) W (.slice la L.length lc) L from fun W hb => hTl8.below hb)
      have HTg := Lib.hid (show ∀ W, Below w8.heap.size w8 W → IsTexts (fun _ => True) W (.slice ga G.length gc) G from fun W hb => (hTg.mono (fun _ _ _ => trivial)).below hb)
      have HWW := Lib.hid (show ∀ W, Below w8.heap.size w8 W → Below w.heap.size w W from fun W hb => HW8.out.trans (hb.mono HW8.out.size))
      have k11 : w8.cell? ⟨w5.heap.size, 0, none⟩ = some (.string E0) := by
        have hbb : Below W6.heap.size W6 w8 := HBB7.out.trans (hb8.mono HBB7.out.size)
        exact Pm.Below.cell hbb (by rw [cell_of_row _ _ _ _ _ _ HR6.out]; rfl)
      clear hTg hTl8 hb8 k9
      have hE0 : strV (docS true true L) = .string E0 := HE.out
      have HE0 := Lib.hid hE0
      clear hE0
      go_upto_region 14 with fail
      clear k11
      go_loopw [15, 16, 17] (fun rv av iv wr => ∃ i q : Nat, rv = strV (docS true true (L.drop q)) ∧ av = .int .i64 q ∧ iv = .int .i64 i ∧ i ≤ G.length ∧ q ≤ L.length ∧ firstsL (L.drop q) = G.drop i ∧ (i = 0 ∨ ∃ y, 0 < i ∧ G[i - 1]? = some y ∧ L[q]? ≠ some y) ∧ Below w8.heap.size w8 wr) (fun _ _ iv _ => G.length - (intOf iv).toNat)
      case atStart => exact ⟨0, 0, by rw [List.drop_zero, HE0.out], rfl, rfl, Nat.zero_le _, Nat.zero_le _, by rw [List.drop_zero, List.drop_zero, HG.out], .inl rfl, Below.refl _ _⟩
      case round =>
        obtain ⟨i, q, rfl, rfl, rfl, hiG, hqL, hfirst, hprev, hbr⟩ := hrel
        have HBr := Lib.hid hbr
        have HPrev := Lib.hid hprev
        clear hbr hprev
        by_cases hi : i < G.length
        · have hq : q < L.length := by
            rcases Nat.lt_or_ge q L.length with h | h
            · exact h
            · rw [List.drop_of_length_le h, firstsL, eq_comm, List.drop_eq_nil_iff] at hfirst
              omega
          obtain ⟨y, m, hy, hm1, hmL, hmk, hmn, hf1, hd1⟩ := group_at hq
          rw [hf1, List.drop_eq_getElem_cons hi] at hfirst
          obtain ⟨hyG, hfirst⟩ := List.cons.inj hfirst
          have hGi : G[i]? = some y := by rw [List.getElem?_eq_getElem hi, ← hyG]
          rw [hd1]
          have HY := Lib.hid hy
          have HMk := Lib.hid hmk
          have HMn := Lib.hid hmn
          have HFirst := Lib.hid hfirst
          have HGi := Lib.hid hGi
          have hy64 := HR.out y (List.mem_of_getElem? hy)
          obtain ⟨T, hT⟩ : ∃ T, T = docS true true (L.drop (q + m)) := ⟨_, rfl⟩
          rw [← hT]
          have HT' := Lib.hid hT
          have hTl : T.length ≤ 200000 := by
            rw [hT]
            have := docS_len true true (L.drop (q + m)) (fun l hl => HR.out l (List.mem_of_mem_drop hl)) (by simp; omega)
            simp at this
            omega
          obtain ⟨Dg, hDg⟩ : ∃ Dg, Dg = Lib.decDigits m := ⟨_, rfl⟩
          have hdl := digits_len (m := m) (by omega)
          have hda := digits_all m
          have hdv := digits_val m
          rw [← hDg] at hdl hda hdv ⊢
          have HDa := Lib.hid hda
          have HDv := Lib.hid hdv
          obtain ⟨sl, hsl⟩ : ∃ sl, sl = 32 :: y ++ [10] := ⟨_, rfl⟩
          rw [← hsl, List.append_assoc]
          have HSl := Lib.hid hsl
          have hsll : sl.length = y.length + 2 := by rw [hsl]; simp
          obtain ⟨_, _, e, hcg⟩ := HTg.out _ HBr.out.drew
          cases e
          obtain ⟨gg, og, rfl, -, hg0⟩ := hcg i y HGi.out
          have HGc := Lib.hid (show ∀ W, Below w8.heap.size w8 W → ∀ j l, G[j]? = some l → W.cell? ⟨gg, og + j, none⟩ = some (strV l) from fun W hb j l hj => by
            obtain ⟨_, _, e, hc⟩ := HTg.out _ hb
            cases e
            obtain ⟨_, _, e2, -, h2⟩ := hc j l hj
            cases e2
            exact h2)
          obtain ⟨_, _, e, hcl2⟩ := HTl.out _ HBr.out.drew
          cases e
          obtain ⟨gl, ol, rfl, -, hl0⟩ := hcl2 q y HY.out
          have HLc := Lib.hid (show ∀ W, Below w8.heap.size w8 W → ∀ j l, L[j]? = some l → W.cell? ⟨gl, ol + j, none⟩ = some (strV l) from fun W hb j l hj => by
            obtain ⟨_, _, e, hc⟩ := HTl.out _ hb
            cases e
            obtain ⟨_, _, e2, -, h2⟩ := hc j l hj
            cases e2
            exact h2)
          obtain ⟨Sy, hSy⟩ : ∃ S : ByteArray, strV y = .string S := ⟨_, rfl⟩
          have HSy := Lib.hid hSy
          have zy := strV_size hSy
          have p1 : (i : Int) < (G.length : Int) := by omega
          have p0 : (0 : Int) ≤ (i : Int) := by omega
          clear hf1 hd1 hyG hfirst hGi hy hmk hmn hT hDg hda hdv hsl hcg hg0 hcl2 hl0 hSy
          go_upto_region 16 with fail
          go_cut [98] (fun bv W => bv = .bool false ∧ Below w8.heap.size w8 W)
          case first =>
            have hbd := HBr.out.drew
            rcases HPrev.out with hz | ⟨z, hi0, hz, hne⟩
            · have s3 : ¬ (0 : Int) < (i : Int) := by omega
              have s4 : ¬ 0 < i := by omega
              have HBd := Lib.hid hbd
              clear hbd hz
              refine region_stillG (by kernel_rfl) (by kernel_rfl) ?_
              generalize wr.drew = wd at HBd ⊢
              iterate 14 (refine stillG_step (fun K hK => ?_); go_simp; refine hK.out _ ?_; clear hK K)
              refine stillG_nil ?_
              go_wp2_with fail
              go_meet
              case rel => exact ⟨rfl, HBd.out⟩
            · have hyz : ¬ y = z := fun e => hne (by rw [HY.out, e])
              have h1 := HGc.out _ hbd i y HGi.out
              have h2 := HGc.out _ hbd (i - 1) z hz
              obtain ⟨Sz, hSz⟩ : ∃ S : ByteArray, strV z = .string S := ⟨_, rfl⟩
              rw [HSy.out] at h1
              rw [hSz] at h2
              have hqq : (Sy.toList == Sz.toList) = false := by
                have e1 : (⟨y.toArray⟩ : ByteArray) = Sy := by injection HSy.out
                have e2 : (⟨z.toArray⟩ : ByteArray) = Sz := by injection hSz
                rw [← e1, ← e2, Pm.strV_eq]
                simpa using hyz
              have s1 : (i : Int) - 1 = ((i - 1 : Nat) : Int) := by omega
              have s2 : IntKind.i64.wrap ((i - 1 : Nat) : Int) = ((i - 1 : Nat) : Int) := by rw [IntKind.wrap_i64]; omega
              have s3 : (0 : Int) < (i : Int) := by omega
              have s4 : ((i - 1 : Nat) : Int) < (G.length : Int) := by omega
              have s5 : (0 : Int) ≤ ((i - 1 : Nat) : Int) := by omega
              obtain ⟨i1, hi1⟩ : ∃ i1, i1 = i - 1 := ⟨_, rfl⟩
              rw [← hi1] at h2 s1 s2 s4 s5
              have HBd := Lib.hid hbd
              clear hbd hz hne hyz hSz hi1
              refine region_stillG (by kernel_rfl) (by kernel_rfl) ?_
              generalize wr.drew = wd at HBd h1 h2 ⊢
              iterate 14 (refine stillG_step (fun K hK => ?_); go_simp; refine hK.out _ ?_; clear hK K)
              refine stillG_nil ?_
              clear h1 h2
              go_wp2_with fail
              go_meet
              case rel => exact ⟨rfl, HBd.out⟩
          case rest =>
            obtain ⟨rfl, hbc⟩ := hcut
            have HBc := Lib.hid hbc
            clear hbc
            go_wp2_with fail
            have hst : strV (Dg ++ (sl ++ T)) = strV (Dg.drop 0 ++ (sl ++ T)) := by rw [List.drop_zero]
            rw [hst]
            have hvt : (Value.int .i64 0) = Value.int .i64 ((valD (Dg.take 0) : Nat) : Int) := rfl
            clear hst hvt
            go_loopw [15, 18] (fun rv nv wr => ∃ j : Nat, rv = strV (Dg.drop j ++ (sl ++ T)) ∧ nv = .int .i64 ((valD (Dg.take j) : Nat) : Int) ∧ j ≤ Dg.length ∧ Below w8.heap.size w8 wr) (fun rv _ _ => (strLen rv))
            case atStart => exact ⟨0, rfl, rfl, Nat.zero_le _, HBc.out⟩
            case round =>
              obtain ⟨j, rfl, rfl, hj, hbj⟩ := hrel
              have HBj := Lib.hid hbj
              have hvle : valD (Dg.take j) ≤ m := by
                have h := valD_le (Dg.take j) (Dg.drop j)
                rw [List.take_append_drop, HDv.out] at h
                exact h
              obtain ⟨nv, hnv⟩ : ∃ nv, nv = valD (Dg.take j) := ⟨_, rfl⟩
              rw [← hnv] at hvle ⊢
              have HNv := Lib.hid hnv
              obtain ⟨ni, hni⟩ : ∃ ni : Int, ni = (nv : Int) := ⟨_, rfl⟩
              rw [← hni]
              have HNi := Lib.hid hni
              have HVl := Lib.hid hvle
              clear hbj hnv hvle
              by_cases hjd : j < Dg.length
              · obtain ⟨c, hc⟩ : ∃ c, Dg[j]? = some c := ⟨Dg[j]'hjd, List.getElem?_eq_getElem hjd⟩
                obtain ⟨hc1, hc2⟩ := HDa.out c (List.mem_of_getElem? hc)
                have hdr : Dg.drop j ++ (sl ++ T) = c :: (Dg.drop (j + 1) ++ (sl ++ T)) := by
                  rw [drop_at hc]
                  rfl
                have htk : valD (Dg.take (j + 1)) = nv * 10 + (c.toNat - 48) := by rw [take_snoc hc, valD_snoc, HNv.out]
                have hvle2 : valD (Dg.take (j + 1)) ≤ m := by
                  have h := valD_le (Dg.take (j + 1)) (Dg.drop (j + 1))
                  rw [List.take_append_drop, HDv.out] at h
                  exact h
                rw [hdr]
                obtain ⟨S, hS⟩ : ∃ S : ByteArray, strV (c :: (Dg.drop (j + 1) ++ (sl ++ T))) = .string S := ⟨_, rfl⟩
                obtain ⟨zs, hz0, hS1⟩ := str_head hS
                have hz : 0 < S.size := by omega
                have hz1 := hz0 hz
                have HTk := Lib.hid htk
                have HS1 := Lib.hid hS1
                rw [hS]
                have g0 : (0 : Int) < (S.size : Int) := by omega
                obtain ⟨ci, hcc⟩ : ∃ ci : Int, ci = (c.toNat : Int) := ⟨_, rfl⟩
                have hci := hcc.symm
                have g1 : (48 : Int) ≤ ci := by omega
                have g2 : ci ≤ 57 := by omega
                have hvle := HVl.out
                have g3 : ni < 100000 := by rw [hni]; omega
                have HCc := Lib.hid hcc
                have g4 : (1 : Int) ≤ (S.size : Int) := by omega
                have HC12 := Lib.hid (And.intro hc1 hc2)
                have HVle := Lib.hid hvle2
                have HZs := Lib.hid zs
                have HJd := Lib.hid hjd
                have HNle := Lib.hid hvle
                clear hS hS1 htk hc hdr hz1 hc1 hc2 hvle2 zs hjd hvle hcc hni
                go_upto_region 20 with fail
                obtain ⟨di, hdi⟩ : ∃ di : Int, di = ci - 48 := ⟨_, rfl⟩
                have w1' : IntKind.u8.wrap di = di := by
                  unfold IntKind.wrap
                  simp only [show IntKind.u8.bits = 8 from rfl, show IntKind.u8.signed = false from rfl, Bool.false_and, Bool.false_eq_true, if_false]
                  omega
                have w2' : ci - 48 = di := hdi.symm
                obtain ⟨ti, hti⟩ : ∃ ti : Int, ti = ni * 10 := ⟨_, rfl⟩
                have hn0 : 0 ≤ ni := by have := HNi.out; omega
                have w3' : IntKind.i64.wrap ti = ti := by rw [IntKind.wrap_i64]; omega
                have w4' : ni * 10 = ti := hti.symm
                obtain ⟨ri, hri⟩ : ∃ ri : Int, ri = ti + di := ⟨_, rfl⟩
                have w5' : IntKind.i64.wrap ri = ri := by rw [IntKind.wrap_i64]; omega
                have w6' : ti + di = ri := hri.symm
                have hrv : ri = ((valD (Dg.take (j + 1)) : Nat) : Int) := by
                  rw [hri, hti, hdi, HTk.out, HNi.out, HCc.out]
                  have := HC12.out
                  omega
                have hrw : wrap64 (ti + wrap64 di) = ((valD (Dg.take (j + 1)) : Nat) : Int) := by
                  rw [← hrv]
                  unfold wrap64
                  omega
                have HRv := Lib.hid hrw
                have g5 : 1 ≤ S.size := by omega
                clear hdi hti hri hrv hrw hn0 g1 g2 g3
                go_wp2_with fail
                refine ⟨⟨j + 1, by rw [HS1.out], by rw [HRv.out], by have := HJd.out; omega, HBj.out⟩, ?_⟩
                have := HZs.out
                simp [strLen]
                omega
              · obtain rfl : j = Dg.length := by omega
                rw [List.drop_length, List.nil_append]
                have hnm : ni = (m : Int) := by
                  have h1 := HNv.out
                  rw [List.take_length, HDv.out] at h1
                  rw [hni, h1]
                have HNm := Lib.hid hnm
                have hs0 : sl ++ T = 32 :: (y ++ [10] ++ T) := by rw [HSl.out]; simp
                obtain ⟨S, hS⟩ : ∃ S : ByteArray, strV (sl ++ T) = .string S := ⟨_, rfl⟩
                have hS' := hS
                rw [hs0] at hS'
                obtain ⟨zs, hz0, -⟩ := str_head hS'
                have hz : 0 < S.size := by omega
                have g0 : (0 : Int) < (S.size : Int) := by omega
                obtain ⟨SL, hSL⟩ : ∃ SL : ByteArray, SL = { data := #[32] } ++ Sy ++ { data := #[10] } := ⟨_, rfl⟩
                have hSLs : strV sl = .string SL := by
                  rw [HSl.out, hSL, show (32 :: y ++ [10] : List UInt8) = [32] ++ y ++ [10] by simp]
                  exact strV_add (strV_add rfl HSy.out) strV_end
                have zl := strV_size hSLs
                obtain ⟨h1, h2, h3⟩ := str_parts hSLs hS
                have a1 : (9223372036854775807 < 1 + Sy.size) = False := by simp; omega
                have a2 : (9223372036854775807 < 1 + Sy.size + 1) = False := by simp; omega
                have t1 : ¬ ni < 1 := by omega
                have t2 : ¬ (S.size : Int) < (SL.size : Int) := by omega
                have t2' : ¬ S.size < SL.size := by omega
                have t3 : (SL.size : Int) ≤ (S.size : Int) := by omega
                have t4 : (0 : Int) ≤ (SL.size : Int) := by omega
                have HSL := Lib.hid hSL
                have H3 := Lib.hid h3
                have kg := HGc.out _ HBj.out i y HGi.out
                rw [HSy.out] at kg
                rw [hS]
                clear hs0 hS hS' hSLs zl hnm hni h3 hSL zs
                go_upto_region 23 with fail
                rw [← HSL.out]
                clear a1 a2 kg
                go_upto_region 26 with fail
                go_wp2_with fail
                go_loopw [16, 20] (fun av kv wr => ∃ t : Nat, av = .int .i64 ((q + t : Nat) : Int) ∧ kv = .int .i64 t ∧ t ≤ m ∧ Below w8.heap.size w8 wr) (fun _ kv _ => m - (intOf kv).toNat)
                case atStart => exact ⟨0, rfl, rfl, Nat.zero_le _, HBj.out⟩
                case round =>
                  obtain ⟨t, rfl, rfl, ht, hbt⟩ := hrel
                  have HBt := Lib.hid hbt
                  clear hbt
                  obtain ⟨at', hat⟩ : ∃ at', at' = q + t := ⟨_, rfl⟩
                  rw [← hat]
                  have HAt := Lib.hid hat
                  by_cases htm : t < m
                  · have hLat : L[at']? = some y := by rw [hat]; exact HMk.out t htm
                    have hatL : at' < L.length := by omega
                    have u1 : (t : Int) < ni := by rw [HNm.out]; omega
                    have HTm := Lib.hid htm
                    clear hat htm
                    go_upto_region 29 with fail
                    go_cut [171] (fun bv W => bv = .bool false ∧ Below w8.heap.size w8 W)
                    case first =>
                      have hbd := HBt.out.drew
                      have h1 := HGc.out _ hbd i y HGi.out
                      have h2 := HLc.out _ hbd at' y hLat
                      rw [HSy.out] at h1 h2
                      have v1 : (at' : Int) < (L.length : Int) := by omega
                      have v2 : ¬ (L.length : Int) ≤ (at' : Int) := by omega
                      have v3 : (0 : Int) ≤ (at' : Int) := by omega
                      have v4 : ¬ L.length ≤ at' := by omega
                      have HBd := Lib.hid hbd
                      clear hbd hLat
                      refine region_stillG (by kernel_rfl) (by kernel_rfl) ?_
                      generalize wr.drew = wd at HBd h1 h2 ⊢
                      iterate 15 (refine stillG_step (fun K hK => ?_); go_simp; refine hK.out _ ?_; clear hK K)
                      refine stillG_nil ?_
                      clear h1 h2
                      go_wp2_with fail
                      go_meet
                      case rel => exact ⟨rfl, HBd.out⟩
                    case rest =>
                      obtain ⟨rfl, hbc⟩ := hcut
                      have HBc2 := Lib.hid hbc
                      clear hbc
                      go_wp2_with fail
                      refine ⟨⟨t + 1, ?_, by go_num, by have := HTm.out; omega, HBc2.out⟩, by have := HTm.out; simp [intOf]; omega⟩
                      rw [HAt.out]
                      go_num
                  · have htm' : t = m := by omega
                    have u1 : ¬ (t : Int) < ni := by rw [HNm.out]; omega
                    clear hat htm
                    go_wp2_with fail
                    refine ⟨⟨i + 1, q + m, by rw [← HT'.out, H3.out], by rw [HAt.out, htm'], by go_num, by omega, by omega, HFirst.out, .inr ⟨y, by omega, by rw [show i + 1 - 1 = i by omega]; exact HGi.out, HMn.out⟩, HBt.out⟩, by simp [intOf]; omega⟩
        · have hie : i = G.length := by omega
          subst hie
          have hqe : q = L.length := by
            rcases Nat.lt_or_ge q L.length with h | h
            · obtain ⟨y, m, -, -, -, -, -, hf1, -⟩ := group_at h
              rw [hf1, List.drop_length] at hfirst
              cases hfirst
            · omega
          subst hqe
          have hst : strV (docS true true (L.drop L.length)) = .string { data := #[] } := by
            rw [List.drop_length]
            simp [docS, strV]
          rw [hst]
          have q1 : ¬ (G.length : Int) < (G.length : Int) := by omega
          clear hst hfirst
          go_wp2_with fail
          refine (awake_true _ (HT.out _ (HWW.out _ HBr.out))).mono ?_
          rintro e w9 ⟨rfl, hb9⟩
          go_wp2_with fail
          go_ret
          exact ⟨rfl, (HWW.out _ HBr.out).trans (hb9.mono (HWW.out _ HBr.out).size)⟩

end Go.Proofs.YtmmhpjhmobhdiaaDoor
