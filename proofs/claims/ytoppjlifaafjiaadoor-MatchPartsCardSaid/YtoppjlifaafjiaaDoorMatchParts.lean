/- MatchParts's walk. -/
import Derived.Test.YtoppjlifaafjiaaDoorMatchTold
import Derived.Test.YtoppjlifaafjiaaDoorMatchLines
import Derived.Test.YtoppjlifaafjiaaDoorMatchDenote
import Derived.Test.YtoppjlifaafjiaaDoorMatchHeavy
import Derived.Test.YtoppjlifaafjiaaDoorMatchFit
import Derived.Test.YtoppjlifaafjiaaDoorTakeskit
import Derived.Test.YtoppjlifaafjiaaDoorRA
import Derived.Test.YtoppjlifaafjiaaDoorGcopy
import Derived.Deep.RegionHeld3
namespace Go.Proofs.YtoppjlifaafjiaaDoor
open Go.RowKit

theorem nil_strms' (w : World) : IsStrms (· < w.heap.size) w (.slice none 0 0) [] := ⟨none, 0, rfl, fun j t h => by simp at h⟩
theorem match_whole (N : Nat) (A x : List UInt8) (cuts : List Int) (hN : matchOk N A []) (hx : x.length ≤ 4000) (hall : (readL x true (0, 0, 0)).2.1 = true) (D : DS (LS Unit)) (hD : D = drive (matchF N A []) [⟨x, true, 0, 0, 0⟩] cuts 100000 0 (start (matchF N A []) (matchI N A []))) :
    D.got.outs 0 = joinL (tellsL A (decide (N = 0)) (readL x true (0, 0, 0)).1) ∧ (decide (D.got.err = 0) && decide (D.got.need = -1)) = true := by
  obtain ⟨d1, d2, d3⟩ := match_drive N A [] ⟨x, true, 0, 0, 0⟩ cuts hN hx
  rw [← hD] at d1 d2 d3
  obtain ⟨p0, -⟩ := match_case N A [] ⟨x, true, 0, 0, 0⟩ D.got d1 d2 d3
  obtain ⟨-, f2, -⟩ := run_final (matchT A (decide (N = 0))) (fun _ _ => rfl) () x true (0, 0, 0)
  obtain ⟨q1, q2⟩ := f2 hall
  have hn : (matchFin N A [] ⟨x, true, 0, 0, 0⟩).need = needOf (finalB (matchT A (decide (N = 0))) ⟨true, false, [], ()⟩ x true).1 := rfl
  have he : (matchFin N A [] ⟨x, true, 0, 0, 0⟩).err = (finalB (matchT A (decide (N = 0))) ⟨true, false, [], ()⟩ x true).2.2 := rfl
  refine ⟨p0, ?_⟩
  rw [d2, d3, hn, he, q2, needOf, q1]
  rfl
theorem match_other {A : List UInt8} (h : Pm.checkE 5 0 A [] = 0) : takeE 5 5 1 A [] = 0 := by
  have hf : Pm.fits (Pm.kindOf 5) 0 A [] = true := by
    have h1 := h
    unfold Pm.checkE at h1
    rw [if_neg (by omega)] at h1
    by_cases hf : Pm.fits (Pm.kindOf 5) 0 A [] = false
    · rw [show (5 : Int).toNat = 5 from rfl, if_pos hf] at h1
      cases h1
    · simpa using hf
  simp [Pm.fits, Pm.kindOf, Pm.kinds, Pm.mayBe] at hf
  simp [takeE, Pm.checkE, Pm.fits, Pm.kindOf, Pm.kinds, Pm.mayBe, Pm.tooMuch]
  exact fun _ => hf

/-- Behind some rounds of the search: has an instance been seen? -/
structure Seen (l A : List UInt8) (W : World) (k : Nat) (hv : Value) (wr : World) : Prop where
  ex : ∃ h, hv = .bool h ∧ k ≤ l.length + 1 ∧ (h = true → hasB l A = true) ∧ (h = false → ∀ i, i < k → i + A.length ≤ l.length → Lib.occAt l A i = false) ∧ Below W.heap.size W wr

set_option maxRecDepth 100000 in
set_option maxHeartbeats 16000000 in
theorem partsLaw_any (tv xv cv : Value) (A x : List UInt8) (cuts : List Int) (w : World) (hT : MaxTab w) (hA : IsBytes (· < w.heap.size) w tv A) (hX : IsBytes (· < w.heap.size) w xv x) (hC : IsInts (· < w.heap.size) w cv cuts) :
    Calls Tryd.prog 9 #[tv, xv, cv] w (Pm.Gives w (.bool true)) := by
  have HT := Lib.hid (show ∀ W, Below w.heap.size w W → MaxTab W from fun W hb => hT.below hb)
  have HA := Lib.hid (show ∀ W, Below w.heap.size w W → Pm.IsBytes W tv A from fun W hb => (hA.below hb).toPm)
  have HX := Lib.hid (show ∀ W, Below w.heap.size w W → IsBytes (· < w.heap.size) W xv x from fun W hb => hX.below hb)
  have HC := Lib.hid (show ∀ W, Below w.heap.size w W → IsInts (· < w.heap.size) W cv cuts from fun W hb => hC.below hb)
  obtain ⟨av, tc, rfl, -, -⟩ := id hA
  obtain ⟨ax, cx, rfl, -, -⟩ := id hX
  obtain ⟨ac, cc, rfl, -⟩ := id hC
  clear hT hA hX hC
  have hmake := make_stream
  obtain ⟨H, hH⟩ : ∃ H, H = heavyB A [] [] [cuts] := ⟨_, rfl⟩
  obtain ⟨F, hF⟩ : ∃ F, F = fitB 5 0 A [] [⟨[], false, 0, 0, 0⟩] := ⟨_, rfl⟩
  have HH := Lib.hid hH
  have HF := Lib.hid hF
  clear hH hF
  go_enter Tryd.func9, Tryd.ntmps9
  go_upto_region 3 with fail
  have hb0 : Below w.heap.size w ((w.alloc (.cells #[.int .i64 5, .int .i64 0, .slice av A.length tc, .slice none 0 0] 24)).alloc (.cells #[.int .i64 5, .int .i64 1, .slice av A.length tc, .slice none 0 0] 24)) := ((Below.refl _ _).alloc (Nat.le_refl _) _).alloc (by simp) _
  have hr1 := heap_alloc_last (w.alloc (.cells #[.int .i64 5, .int .i64 0, .slice av A.length tc, .slice none 0 0] 24)) (.cells #[.int .i64 5, .int .i64 1, .slice av A.length tc, .slice none 0 0] 24)
  rw [World.size_alloc] at hr1
  have hr0 := (((Below.refl (w.alloc (.cells #[.int .i64 5, .int .i64 0, .slice av A.length tc, .slice none 0 0] 24)).heap.size (w.alloc (.cells #[.int .i64 5, .int .i64 0, .slice av A.length tc, .slice none 0 0] 24))).alloc (Nat.le_refl _) (.cells #[.int .i64 5, .int .i64 1, .slice av A.length tc, .slice none 0 0] 24)).block w.heap.size (by simp)).trans (heap_alloc_last w (.cells #[.int .i64 5, .int .i64 0, .slice av A.length tc, .slice none 0 0] 24))
  have hs0 : ((w.alloc (.cells #[.int .i64 5, .int .i64 0, .slice av A.length tc, .slice none 0 0] 24)).alloc (.cells #[.int .i64 5, .int .i64 1, .slice av A.length tc, .slice none 0 0] 24)).heap.size = w.heap.size + 2 := by simp
  generalize (w.alloc (.cells #[.int .i64 5, .int .i64 0, .slice av A.length tc, .slice none 0 0] 24)).alloc (.cells #[.int .i64 5, .int .i64 1, .slice av A.length tc, .slice none 0 0] 24) = W0 at hb0 hr0 hr1 hs0 ⊢
  have hx0 : ∀ W, Below W0.heap.size W0 W → W.cell? ⟨w.heap.size, 0, none⟩ = some (.int .i64 5) ∧ W.cell? ⟨w.heap.size, 1, none⟩ = some (.int .i64 0) ∧ W.cell? ⟨w.heap.size, 2, none⟩ = some (.slice av A.length tc) ∧ W.cell? ⟨w.heap.size, 3, none⟩ = some (.slice none 0 0) := fun W hb => by
    have hr := (hb.block w.heap.size (by omega)).trans hr0
    refine ⟨?_, ?_, ?_, ?_⟩
    all_goals
      rw [cell_of_row _ _ _ _ _ _ hr]
      rfl
  have hx1 : ∀ W, Below W0.heap.size W0 W → W.cell? ⟨w.heap.size + 1, 0, none⟩ = some (.int .i64 5) ∧ W.cell? ⟨w.heap.size + 1, 1, none⟩ = some (.int .i64 1) ∧ W.cell? ⟨w.heap.size + 1, 2, none⟩ = some (.slice av A.length tc) ∧ W.cell? ⟨w.heap.size + 1, 3, none⟩ = some (.slice none 0 0) := fun W hb => by
    have hr := (hb.block (w.heap.size + 1) (by omega)).trans hr1
    refine ⟨?_, ?_, ?_, ?_⟩
    all_goals
      rw [cell_of_row _ _ _ _ _ _ hr]
      rfl
  have hY : ∀ W, Below W0.heap.size W0 W → Below w.heap.size w W := fun W hb => hb0.trans (hb.mono hb0.size)
  have hhv : ∀ W, Below W0.heap.size W0 W → Calls Tryd.prog 10 #[.agg #[.int .i64 5, .int .i64 0, .slice av A.length tc, .slice none 0 0], .slice none 0 0, .slice (some ⟨W.heap.size, 0, none⟩) 1 1] (W.alloc (.cells #[.slice ac cuts.length cc] 37)) (Pm.Gives (W.alloc (.cells #[.slice ac cuts.length cc] 37)) (.bool H)) := fun W hb => by
    have hbW := hY W hb
    have hcc := ints_list W (.slice ac cuts.length cc) cuts (fun _ => True) trivial ((HC.out _ hbW).mono (fun _ _ _ => trivial)) (0, 0)
    have := heavy_any 5 0 (.slice av A.length tc) (.slice none 0 0) (.slice none 0 0) _ A [] [] [cuts] _ (HA.out _ (hbW.alloc hbW.size _)) (pm_nil _) (nil_strms' _) hcc (by simp)
    rw [← HH.out] at this
    exact this
  have hft : ∀ W, Below W0.heap.size W0 W → A.length ≤ 2000 → Calls Tryd.prog 16 #[.agg #[.int .i64 5, .int .i64 0, .slice av A.length tc, .slice none 0 0], .slice (some ⟨W.heap.size, 0, none⟩) 1 1] (W.alloc (.cells #[.slice none 0 0, .bool false, .int .i64 0, .int .i64 0, .int .i64 0] 61)) (Pm.Gives (W.alloc (.cells #[.slice none 0 0, .bool false, .int .i64 0, .int .i64 0, .int .i64 0] 61)) (.bool F)) := fun W hb hl => by
    have hbW := hY W hb
    have hst := strms_new W (.slice none 0 0) ⟨[], false, 0, 0, 0⟩ (fun _ => True) trivial ⟨none, 0, rfl, Nat.le_refl _, fun j c hj => by simp at hj⟩ (0, 0)
    have := fit_any 5 0 (by constructor <;> decide) (.slice av A.length tc) (.slice none 0 0) _ A [] [⟨[], false, 0, 0, 0⟩] _ (HA.out _ (hbW.alloc hbW.size _)) (pm_nil _) hst hl
    rw [← HF.out] at this
    exact this
  have HX0 := Lib.hid hx0
  have HX1 := Lib.hid hx1
  have HY := Lib.hid hY
  have HHv := Lib.hid hhv
  have hw : Below W0.heap.size W0 W0.drew := (Below.refl _ _).drew
  clear hx0 hx1 hY hhv hb0 hr0 hr1 hs0
  cases H with
  | true =>
    refine anyG_start (S := Below W0.heap.size W0) (by kernel_rfl) ?_
    generalize W0.drew = W1 at hw ⊢
    refine anyG_take (i := 0) 25 (.agg #[.int .i64 5, .int .i64 0, .slice av A.length tc, .slice none 0 0]) rfl rfl (by kernel_rfl) (by kernel_rfl) (by kernel_rfl) rfl (fun W h => by obtain ⟨k0, k1, k2, k3⟩ := HX0.out W h; go_simp) hw ?_
    try simp only [Act.put, List.setIfInBounds_toArray, List.set_cons_succ, List.set_cons_zero]
    refine anyG_take (i := 1) 26 (.slice ac cuts.length cc) rfl rfl (by kernel_rfl) (by kernel_rfl) (by kernel_rfl) rfl (fun _ _ => by go_simp) hw ?_
    try simp only [Act.put, List.setIfInBounds_toArray, List.set_cons_succ, List.set_cons_zero]
    refine anyG_step (i := 2) rfl (by kernel_rfl) rfl (fun K hK => ?_)
    go_simp
    refine hK.out _ _ (hw.alloc hw.size _) ?_
    clear hK K
    try simp only [Act.put, List.setIfInBounds_toArray, List.set_cons_succ, List.set_cons_zero]
    refine anyG_step (i := 3) rfl (by kernel_rfl) rfl (fun K hK => ?_)
    go_simp
    refine (HHv.out _ hw).mono ?_
    rintro e w7 ⟨rfl, hb1⟩
    have hw := (hw.alloc hw.size _).trans (hb1.mono (hw.alloc hw.size _).size)
    clear hb1
    refine hK.out _ _ hw ?_
    clear hK K
    try simp only [Act.put, List.setIfInBounds_toArray, List.set_cons_succ, List.set_cons_zero]
    refine anyG_take (i := 4) 29 (.bool true) rfl rfl (by kernel_rfl) (by kernel_rfl) (by kernel_rfl) rfl (fun _ _ => by go_simp) hw ?_
    try simp only [Act.put, List.setIfInBounds_toArray, List.set_cons_succ, List.set_cons_zero]
    refine anyG_skip (i := 5) 30 rfl rfl (by kernel_rfl) (by kernel_rfl) (by kernel_rfl) rfl hw ?_
    try simp only [Act.put, List.setIfInBounds_toArray, List.set_cons_succ, List.set_cons_zero]
    refine anyG_skip (i := 6) 31 rfl rfl (by kernel_rfl) (by kernel_rfl) (by kernel_rfl) rfl hw ?_
    try simp only [Act.put, List.setIfInBounds_toArray, List.set_cons_succ, List.set_cons_zero]
    refine anyG_skip (i := 7) 32 rfl rfl (by kernel_rfl) (by kernel_rfl) (by kernel_rfl) rfl hw ?_
    try simp only [Act.put, List.setIfInBounds_toArray, List.set_cons_succ, List.set_cons_zero]
    refine anyG_take (i := 8) 33 (.bool true) rfl rfl (by kernel_rfl) (by kernel_rfl) (by kernel_rfl) rfl (fun _ _ => by go_simp) hw ?_
    try simp only [Act.put, List.setIfInBounds_toArray, List.set_cons_succ, List.set_cons_zero]
    refine anyG_take (i := 9) 34 (.bool true) rfl rfl (by kernel_rfl) (by kernel_rfl) (by kernel_rfl) rfl (fun _ _ => by go_simp) hw ?_
    try simp only [Act.put, List.setIfInBounds_toArray, List.set_cons_succ, List.set_cons_zero]
    refine anyG_skip (i := 10) 35 rfl rfl (by kernel_rfl) (by kernel_rfl) (by kernel_rfl) rfl hw ?_
    try simp only [Act.put, List.setIfInBounds_toArray, List.set_cons_succ, List.set_cons_zero]
    refine anyG_skip (i := 11) 36 rfl rfl (by kernel_rfl) (by kernel_rfl) (by kernel_rfl) rfl hw ?_
    try simp only [Act.put, List.setIfInBounds_toArray, List.set_cons_succ, List.set_cons_zero]
    refine anyG_skip (i := 12) 37 rfl rfl (by kernel_rfl) (by kernel_rfl) (by kernel_rfl) rfl hw ?_
    try simp only [Act.put, List.setIfInBounds_toArray, List.set_cons_succ, List.set_cons_zero]
    refine anyG_skip (i := 13) 38 rfl rfl (by kernel_rfl) (by kernel_rfl) (by kernel_rfl) rfl hw ?_
    try simp only [Act.put, List.setIfInBounds_toArray, List.set_cons_succ, List.set_cons_zero]
    refine anyG_take (i := 14) 39 (.bool true) rfl rfl (by kernel_rfl) (by kernel_rfl) (by kernel_rfl) rfl (fun _ _ => by go_simp) hw ?_
    try simp only [Act.put, List.setIfInBounds_toArray, List.set_cons_succ, List.set_cons_zero]
    refine anyG_done (by kernel_rfl) ?_
    go_wp2_with fail
    refine (awake_true _ (HT.out _ (HY.out _ hw))).mono ?_
    rintro e w2 ⟨rfl, hb2⟩
    go_wp2_with fail
    go_ret
    exact ⟨rfl, (HY.out _ hw).trans (hb2.mono (HY.out _ hw).size)⟩
  | false =>
    obtain ⟨sA, -, -, -, sC⟩ := heavy_no HH.out.symm
    have hcl := sC cuts (by simp)
    have HFt := Lib.hid (fun W hb => hft W hb (by omega))
    clear sC hft
    by_cases hx : (2000 : Int) < (x.length : Int)
    · skip
      refine anyG_start (S := Below W0.heap.size W0) (by kernel_rfl) ?_
      generalize W0.drew = W1 at hw ⊢
      refine anyG_take (i := 0) 25 (.agg #[.int .i64 5, .int .i64 0, .slice av A.length tc, .slice none 0 0]) rfl rfl (by kernel_rfl) (by kernel_rfl) (by kernel_rfl) rfl (fun W h => by obtain ⟨k0, k1, k2, k3⟩ := HX0.out W h; go_simp) hw ?_
      try simp only [Act.put, List.setIfInBounds_toArray, List.set_cons_succ, List.set_cons_zero]
      refine anyG_take (i := 1) 26 (.slice ac cuts.length cc) rfl rfl (by kernel_rfl) (by kernel_rfl) (by kernel_rfl) rfl (fun _ _ => by go_simp) hw ?_
      try simp only [Act.put, List.setIfInBounds_toArray, List.set_cons_succ, List.set_cons_zero]
      refine anyG_step (i := 2) rfl (by kernel_rfl) rfl (fun K hK => ?_)
      go_simp
      refine hK.out _ _ (hw.alloc hw.size _) ?_
      clear hK K
      try simp only [Act.put, List.setIfInBounds_toArray, List.set_cons_succ, List.set_cons_zero]
      refine anyG_step (i := 3) rfl (by kernel_rfl) rfl (fun K hK => ?_)
      go_simp
      refine (HHv.out _ hw).mono ?_
      rintro e w7 ⟨rfl, hb1⟩
      have hw := (hw.alloc hw.size _).trans (hb1.mono (hw.alloc hw.size _).size)
      clear hb1
      refine hK.out _ _ hw ?_
      clear hK K
      try simp only [Act.put, List.setIfInBounds_toArray, List.set_cons_succ, List.set_cons_zero]
      refine anyG_take (i := 4) 29 (.bool false) rfl rfl (by kernel_rfl) (by kernel_rfl) (by kernel_rfl) rfl (fun _ _ => by go_simp) hw ?_
      try simp only [Act.put, List.setIfInBounds_toArray, List.set_cons_succ, List.set_cons_zero]
      refine anyG_take (i := 5) 30 (.slice ax x.length cx) rfl rfl (by kernel_rfl) (by kernel_rfl) (by kernel_rfl) rfl (fun _ _ => by go_simp) hw ?_
      try simp only [Act.put, List.setIfInBounds_toArray, List.set_cons_succ, List.set_cons_zero]
      refine anyG_take (i := 6) 31 (.int .i64 x.length) rfl rfl (by kernel_rfl) (by kernel_rfl) (by kernel_rfl) rfl (fun _ _ => by go_simp) hw ?_
      try simp only [Act.put, List.setIfInBounds_toArray, List.set_cons_succ, List.set_cons_zero]
      refine anyG_take (i := 7) 32 (.bool true) rfl rfl (by kernel_rfl) (by kernel_rfl) (by kernel_rfl) rfl (fun _ _ => by go_simp) hw ?_
      try simp only [Act.put, List.setIfInBounds_toArray, List.set_cons_succ, List.set_cons_zero]
      refine anyG_take (i := 8) 33 (.bool true) rfl rfl (by kernel_rfl) (by kernel_rfl) (by kernel_rfl) rfl (fun _ _ => by go_simp) hw ?_
      try simp only [Act.put, List.setIfInBounds_toArray, List.set_cons_succ, List.set_cons_zero]
      refine anyG_take (i := 9) 34 (.bool true) rfl rfl (by kernel_rfl) (by kernel_rfl) (by kernel_rfl) rfl (fun _ _ => by go_simp) hw ?_
      try simp only [Act.put, List.setIfInBounds_toArray, List.set_cons_succ, List.set_cons_zero]
      refine anyG_skip (i := 10) 35 rfl rfl (by kernel_rfl) (by kernel_rfl) (by kernel_rfl) rfl hw ?_
      try simp only [Act.put, List.setIfInBounds_toArray, List.set_cons_succ, List.set_cons_zero]
      refine anyG_skip (i := 11) 36 rfl rfl (by kernel_rfl) (by kernel_rfl) (by kernel_rfl) rfl hw ?_
      try simp only [Act.put, List.setIfInBounds_toArray, List.set_cons_succ, List.set_cons_zero]
      refine anyG_skip (i := 12) 37 rfl rfl (by kernel_rfl) (by kernel_rfl) (by kernel_rfl) rfl hw ?_
      try simp only [Act.put, List.setIfInBounds_toArray, List.set_cons_succ, List.set_cons_zero]
      refine anyG_skip (i := 13) 38 rfl rfl (by kernel_rfl) (by kernel_rfl) (by kernel_rfl) rfl hw ?_
      try simp only [Act.put, List.setIfInBounds_toArray, List.set_cons_succ, List.set_cons_zero]
      refine anyG_take (i := 14) 39 (.bool true) rfl rfl (by kernel_rfl) (by kernel_rfl) (by kernel_rfl) rfl (fun _ _ => by go_simp) hw ?_
      try simp only [Act.put, List.setIfInBounds_toArray, List.set_cons_succ, List.set_cons_zero]
      refine anyG_done (by kernel_rfl) ?_
      go_wp2_with fail
      refine (awake_true _ (HT.out _ (HY.out _ hw))).mono ?_
      rintro e w2 ⟨rfl, hb2⟩
      go_wp2_with fail
      go_ret
      exact ⟨rfl, (HY.out _ hw).trans (hb2.mono (HY.out _ hw).size)⟩
    · cases F with
      | false =>
        refine anyG_start (S := Below W0.heap.size W0) (by kernel_rfl) ?_
        generalize W0.drew = W1 at hw ⊢
        refine anyG_take (i := 0) 25 (.agg #[.int .i64 5, .int .i64 0, .slice av A.length tc, .slice none 0 0]) rfl rfl (by kernel_rfl) (by kernel_rfl) (by kernel_rfl) rfl (fun W h => by obtain ⟨k0, k1, k2, k3⟩ := HX0.out W h; go_simp) hw ?_
        try simp only [Act.put, List.setIfInBounds_toArray, List.set_cons_succ, List.set_cons_zero]
        refine anyG_take (i := 1) 26 (.slice ac cuts.length cc) rfl rfl (by kernel_rfl) (by kernel_rfl) (by kernel_rfl) rfl (fun _ _ => by go_simp) hw ?_
        try simp only [Act.put, List.setIfInBounds_toArray, List.set_cons_succ, List.set_cons_zero]
        refine anyG_step (i := 2) rfl (by kernel_rfl) rfl (fun K hK => ?_)
        go_simp
        refine hK.out _ _ (hw.alloc hw.size _) ?_
        clear hK K
        try simp only [Act.put, List.setIfInBounds_toArray, List.set_cons_succ, List.set_cons_zero]
        refine anyG_step (i := 3) rfl (by kernel_rfl) rfl (fun K hK => ?_)
        go_simp
        refine (HHv.out _ hw).mono ?_
        rintro e w7 ⟨rfl, hb1⟩
        have hw := (hw.alloc hw.size _).trans (hb1.mono (hw.alloc hw.size _).size)
        clear hb1
        refine hK.out _ _ hw ?_
        clear hK K
        try simp only [Act.put, List.setIfInBounds_toArray, List.set_cons_succ, List.set_cons_zero]
        refine anyG_take (i := 4) 29 (.bool false) rfl rfl (by kernel_rfl) (by kernel_rfl) (by kernel_rfl) rfl (fun _ _ => by go_simp) hw ?_
        try simp only [Act.put, List.setIfInBounds_toArray, List.set_cons_succ, List.set_cons_zero]
        refine anyG_take (i := 5) 30 (.slice ax x.length cx) rfl rfl (by kernel_rfl) (by kernel_rfl) (by kernel_rfl) rfl (fun _ _ => by go_simp) hw ?_
        try simp only [Act.put, List.setIfInBounds_toArray, List.set_cons_succ, List.set_cons_zero]
        refine anyG_take (i := 6) 31 (.int .i64 x.length) rfl rfl (by kernel_rfl) (by kernel_rfl) (by kernel_rfl) rfl (fun _ _ => by go_simp) hw ?_
        try simp only [Act.put, List.setIfInBounds_toArray, List.set_cons_succ, List.set_cons_zero]
        refine anyG_take (i := 7) 32 (.bool false) rfl rfl (by kernel_rfl) (by kernel_rfl) (by kernel_rfl) rfl (fun _ _ => by go_simp) hw ?_
        try simp only [Act.put, List.setIfInBounds_toArray, List.set_cons_succ, List.set_cons_zero]
        refine anyG_take (i := 8) 33 (.bool false) rfl rfl (by kernel_rfl) (by kernel_rfl) (by kernel_rfl) rfl (fun _ _ => by go_simp) hw ?_
        try simp only [Act.put, List.setIfInBounds_toArray, List.set_cons_succ, List.set_cons_zero]
        refine anyG_take (i := 9) 34 (.bool false) rfl rfl (by kernel_rfl) (by kernel_rfl) (by kernel_rfl) rfl (fun _ _ => by go_simp) hw ?_
        try simp only [Act.put, List.setIfInBounds_toArray, List.set_cons_succ, List.set_cons_zero]
        refine anyG_take (i := 10) 35 (.agg #[.int .i64 5, .int .i64 0, .slice av A.length tc, .slice none 0 0]) rfl rfl (by kernel_rfl) (by kernel_rfl) (by kernel_rfl) rfl (fun W h => by obtain ⟨k0, k1, k2, k3⟩ := HX0.out W h; go_simp) hw ?_
        try simp only [Act.put, List.setIfInBounds_toArray, List.set_cons_succ, List.set_cons_zero]
        refine anyG_step (i := 11) rfl (by kernel_rfl) rfl (fun K hK => ?_)
        go_simp
        refine hK.out _ _ (hw.alloc hw.size _) ?_
        clear hK K
        try simp only [Act.put, List.setIfInBounds_toArray, List.set_cons_succ, List.set_cons_zero]
        refine anyG_step (i := 12) rfl (by kernel_rfl) rfl (fun K hK => ?_)
        go_simp
        refine (HFt.out _ hw).mono ?_
        rintro e w7 ⟨rfl, hb1⟩
        have hw := (hw.alloc hw.size _).trans (hb1.mono (hw.alloc hw.size _).size)
        clear hb1
        refine hK.out _ _ hw ?_
        clear hK K
        try simp only [Act.put, List.setIfInBounds_toArray, List.set_cons_succ, List.set_cons_zero]
        refine anyG_take (i := 13) 38 (.bool true) rfl rfl (by kernel_rfl) (by kernel_rfl) (by kernel_rfl) rfl (fun _ _ => by go_simp) hw ?_
        try simp only [Act.put, List.setIfInBounds_toArray, List.set_cons_succ, List.set_cons_zero]
        refine anyG_take (i := 14) 39 (.bool true) rfl rfl (by kernel_rfl) (by kernel_rfl) (by kernel_rfl) rfl (fun _ _ => by go_simp) hw ?_
        try simp only [Act.put, List.setIfInBounds_toArray, List.set_cons_succ, List.set_cons_zero]
        refine anyG_done (by kernel_rfl) ?_
        go_wp2_with fail
        refine (awake_true _ (HT.out _ (HY.out _ hw))).mono ?_
        rintro e w2 ⟨rfl, hb2⟩
        go_wp2_with fail
        go_ret
        exact ⟨rfl, (HY.out _ hw).trans (hb2.mono (HY.out _ hw).size)⟩
      | true =>
        refine anyG_start (S := Below W0.heap.size W0) (by kernel_rfl) ?_
        generalize W0.drew = W1 at hw ⊢
        refine anyG_take (i := 0) 25 (.agg #[.int .i64 5, .int .i64 0, .slice av A.length tc, .slice none 0 0]) rfl rfl (by kernel_rfl) (by kernel_rfl) (by kernel_rfl) rfl (fun W h => by obtain ⟨k0, k1, k2, k3⟩ := HX0.out W h; go_simp) hw ?_
        try simp only [Act.put, List.setIfInBounds_toArray, List.set_cons_succ, List.set_cons_zero]
        refine anyG_take (i := 1) 26 (.slice ac cuts.length cc) rfl rfl (by kernel_rfl) (by kernel_rfl) (by kernel_rfl) rfl (fun _ _ => by go_simp) hw ?_
        try simp only [Act.put, List.setIfInBounds_toArray, List.set_cons_succ, List.set_cons_zero]
        refine anyG_step (i := 2) rfl (by kernel_rfl) rfl (fun K hK => ?_)
        go_simp
        refine hK.out _ _ (hw.alloc hw.size _) ?_
        clear hK K
        try simp only [Act.put, List.setIfInBounds_toArray, List.set_cons_succ, List.set_cons_zero]
        refine anyG_step (i := 3) rfl (by kernel_rfl) rfl (fun K hK => ?_)
        go_simp
        refine (HHv.out _ hw).mono ?_
        rintro e w7 ⟨rfl, hb1⟩
        have hw := (hw.alloc hw.size _).trans (hb1.mono (hw.alloc hw.size _).size)
        clear hb1
        refine hK.out _ _ hw ?_
        clear hK K
        try simp only [Act.put, List.setIfInBounds_toArray, List.set_cons_succ, List.set_cons_zero]
        refine anyG_take (i := 4) 29 (.bool false) rfl rfl (by kernel_rfl) (by kernel_rfl) (by kernel_rfl) rfl (fun _ _ => by go_simp) hw ?_
        try simp only [Act.put, List.setIfInBounds_toArray, List.set_cons_succ, List.set_cons_zero]
        refine anyG_take (i := 5) 30 (.slice ax x.length cx) rfl rfl (by kernel_rfl) (by kernel_rfl) (by kernel_rfl) rfl (fun _ _ => by go_simp) hw ?_
        try simp only [Act.put, List.setIfInBounds_toArray, List.set_cons_succ, List.set_cons_zero]
        refine anyG_take (i := 6) 31 (.int .i64 x.length) rfl rfl (by kernel_rfl) (by kernel_rfl) (by kernel_rfl) rfl (fun _ _ => by go_simp) hw ?_
        try simp only [Act.put, List.setIfInBounds_toArray, List.set_cons_succ, List.set_cons_zero]
        refine anyG_take (i := 7) 32 (.bool false) rfl rfl (by kernel_rfl) (by kernel_rfl) (by kernel_rfl) rfl (fun _ _ => by go_simp) hw ?_
        try simp only [Act.put, List.setIfInBounds_toArray, List.set_cons_succ, List.set_cons_zero]
        refine anyG_take (i := 8) 33 (.bool false) rfl rfl (by kernel_rfl) (by kernel_rfl) (by kernel_rfl) rfl (fun _ _ => by go_simp) hw ?_
        try simp only [Act.put, List.setIfInBounds_toArray, List.set_cons_succ, List.set_cons_zero]
        refine anyG_take (i := 9) 34 (.bool false) rfl rfl (by kernel_rfl) (by kernel_rfl) (by kernel_rfl) rfl (fun _ _ => by go_simp) hw ?_
        try simp only [Act.put, List.setIfInBounds_toArray, List.set_cons_succ, List.set_cons_zero]
        refine anyG_take (i := 10) 35 (.agg #[.int .i64 5, .int .i64 0, .slice av A.length tc, .slice none 0 0]) rfl rfl (by kernel_rfl) (by kernel_rfl) (by kernel_rfl) rfl (fun W h => by obtain ⟨k0, k1, k2, k3⟩ := HX0.out W h; go_simp) hw ?_
        try simp only [Act.put, List.setIfInBounds_toArray, List.set_cons_succ, List.set_cons_zero]
        refine anyG_step (i := 11) rfl (by kernel_rfl) rfl (fun K hK => ?_)
        go_simp
        refine hK.out _ _ (hw.alloc hw.size _) ?_
        clear hK K
        try simp only [Act.put, List.setIfInBounds_toArray, List.set_cons_succ, List.set_cons_zero]
        refine anyG_step (i := 12) rfl (by kernel_rfl) rfl (fun K hK => ?_)
        go_simp
        refine (HFt.out _ hw).mono ?_
        rintro e w7 ⟨rfl, hb1⟩
        have hw := (hw.alloc hw.size _).trans (hb1.mono (hw.alloc hw.size _).size)
        clear hb1
        refine hK.out _ _ hw ?_
        clear hK K
        try simp only [Act.put, List.setIfInBounds_toArray, List.set_cons_succ, List.set_cons_zero]
        refine anyG_take (i := 13) 38 (.bool false) rfl rfl (by kernel_rfl) (by kernel_rfl) (by kernel_rfl) rfl (fun _ _ => by go_simp) hw ?_
        try simp only [Act.put, List.setIfInBounds_toArray, List.set_cons_succ, List.set_cons_zero]
        refine anyG_take (i := 14) 39 (.bool false) rfl rfl (by kernel_rfl) (by kernel_rfl) (by kernel_rfl) rfl (fun _ _ => by go_simp) hw ?_
        try simp only [Act.put, List.setIfInBounds_toArray, List.set_cons_succ, List.set_cons_zero]
        refine anyG_done (by kernel_rfl) ?_
        obtain ⟨-, N, hN, hok, -, -, hck, -⟩ := fit_yes HF.out.symm
        obtain rfl : N = 0 := by omega
        have hE0 : takeE 5 5 0 A [] = 0 := by rw [takeE, if_neg (by rw [hck]; simp), if_neg (by simp)]
        have hE1 := match_other hck
        have hok1 : matchOk 1 A [] := ⟨by omega, hok.2.1, hok.2.2⟩
        clear hck hN
        have HW := Lib.hid (HY.out _ hw)
        have HWW := Lib.hid hw
        clear hmake hw
        go_wp2_with fail
        refine (linesOf_any _ x w7 (HX.out _ HW.out) (by omega)).mono ?_
        rintro e w2 ⟨la, lc, rfl, hlc, hTx, hb2⟩
        have hr64 := (readL_lines x true (0, 0, 0)).1
        have hrl := (readL_lines x true (0, 0, 0)).2
        obtain ⟨L, hL⟩ : ∃ L, L = (readL x true (0, 0, 0)).1 := ⟨_, rfl⟩
        obtain ⟨all, hall⟩ : ∃ all, all = (readL x true (0, 0, 0)).2.1 := ⟨_, rfl⟩
        rw [← hL] at hTx hlc hr64 hrl ⊢
        rw [← hall]
        have HL := Lib.hid hL
        have HAll := Lib.hid hall
        have HTx := Lib.hid hTx
        have HR := Lib.hid hr64
        have HW2 := Lib.hid (HW.out.trans (hb2.mono HW.out.size))
        have HB2 := Lib.hid (HWW.out.trans (hb2.mono HWW.out.size))
        clear hL hall hTx hb2 hr64 hlc
        cases all with
        | false =>
          go_wp2_with fail
          refine (awake_true _ (HT.out _ HW2.out)).mono ?_
          rintro e w3 ⟨rfl, hb3⟩
          go_wp2_with fail
          go_ret
          exact ⟨rfl, HW2.out.trans (hb3.mono HW2.out.size)⟩
        | true =>
          obtain ⟨c0, c1, c2, c3⟩ := HX0.out _ HB2.out
          go_wp2_with fail
          have hbA : Below w.heap.size w (w2.alloc (.cells #[.slice ax x.length cx] 22)) := HW2.out.alloc HW2.out.size _
          have hpc := pieces_new w2 (.slice ax x.length cx) x (· < (w2.alloc (.cells #[.slice ax x.length cx] 22)).heap.size) (by simp) ((HX.out _ HW2.out).mono (fun k hk _ => by simp; omega)) (0, 0)
          have htold := told_any 0 (.slice av A.length tc) (.slice none 0 0) (.slice ac cuts.length cc) _ A [] x cuts _ (HT.out _ hbA) (HA.out _ hbA) (pm_nil _) hpc ((HC.out _ hbA).mono (fun k hk _ => hk)) hE0 hok (by omega) (by simp) (by omega) (by omega)
          unfold Pm.parV at htold
          refine htold.mono ?_
          clear htold hpc
          rintro e w3 ⟨rfl, hb3⟩
          obtain ⟨D, hD⟩ : ∃ D, D = drive (matchF 0 A []) [⟨x, true, 0, 0, 0⟩] cuts 100000 0 (start (matchF 0 A []) (matchI 0 A [])) := ⟨_, rfl⟩
          rw [← hD]
          obtain ⟨o0, ofine⟩ := match_whole 0 A x cuts hok (by omega) HAll.out.symm D hD
          rw [ofine]
          obtain ⟨FA, S1, S2, S3, e0, -, -, -, hlit⟩ := got_lit D.got
          rw [o0, ← HL.out] at e0
          rw [hlit]
          have HFA := Lib.hid e0
          have HB23 := Lib.hid (((Below.refl w2.heap.size w2).alloc (Nat.le_refl _) (.cells #[.slice ax x.length cx] 22)).trans (hb3.mono (by simp)))
          have HW3 := Lib.hid (hbA.trans (hb3.mono hbA.size))
          have HB3 := Lib.hid (HB2.out.trans (HB23.out.mono HB2.out.size))
          have hbo : ∀ o, Below W0.heap.size W0 (w3.alloc o) := fun o => HB3.out.alloc HB3.out.size o
          have k0 := fun o => (HX1.out _ (hbo o)).1
          have k1 := fun o => (HX1.out _ (hbo o)).2.1
          have k2 := fun o => (HX1.out _ (hbo o)).2.2.1
          have k3 := fun o => (HX1.out _ (hbo o)).2.2.2
          clear hbA hb3 hD o0 ofine e0 hlit c0 c1 c2 c3
          go_wp2_with fail
          have hr4 := heap_alloc_last w3 (.cells #[.string FA, .string S1, .string S2, .string S3, .int .i64 D.got.need, .int .i64 D.got.err, .int .i64 D.got.held, .int .i64 (D.got.taken 0), .int .i64 (D.got.taken 1), .int .i64 (D.got.taken 2), .int .i64 (D.got.taken 3), .bool false] 42)
          have hb4 : Below w3.heap.size w3 (w3.alloc (.cells #[.string FA, .string S1, .string S2, .string S3, .int .i64 D.got.need, .int .i64 D.got.err, .int .i64 D.got.held, .int .i64 (D.got.taken 0), .int .i64 (D.got.taken 1), .int .i64 (D.got.taken 2), .int .i64 (D.got.taken 3), .bool false] 42)) := (Below.refl _ _).alloc (Nat.le_refl _) _
          have hs4 : (w3.alloc (.cells #[.string FA, .string S1, .string S2, .string S3, .int .i64 D.got.need, .int .i64 D.got.err, .int .i64 D.got.held, .int .i64 (D.got.taken 0), .int .i64 (D.got.taken 1), .int .i64 (D.got.taken 2), .int .i64 (D.got.taken 3), .bool false] 42)).heap.size = w3.heap.size + 1 := by simp
          generalize w3.alloc (.cells #[.string FA, .string S1, .string S2, .string S3, .int .i64 D.got.need, .int .i64 D.got.err, .int .i64 D.got.held, .int .i64 (D.got.taken 0), .int .i64 (D.got.taken 1), .int .i64 (D.got.taken 2), .int .i64 (D.got.taken 3), .bool false] 42) = W4 at hr4 hb4 hs4 ⊢
          have HB24 := Lib.hid (HB23.out.trans (hb4.mono HB23.out.size))
          have hbW4 : Below w.heap.size w W4 := HW3.out.trans (hb4.mono HW3.out.size)
          have hbB : Below w.heap.size w (W4.alloc (.cells #[.slice ax x.length cx] 22)) := hbW4.alloc hbW4.size _
          have hb44 : Below W4.heap.size W4 (W4.alloc (.cells #[.slice ax x.length cx] 22)) := (Below.refl _ _).alloc (Nat.le_refl _) _
          have hpc := pieces_new W4 (.slice ax x.length cx) x (· < (W4.alloc (.cells #[.slice ax x.length cx] 22)).heap.size) (by simp) ((HX.out _ hbW4).mono (fun k hk _ => by simp; omega)) (0, 0)
          rw [hs4] at hpc
          have htold := told_any 1 (.slice av A.length tc) (.slice none 0 0) (.slice ac cuts.length cc) _ A [] x cuts _ (HT.out _ hbB) (HA.out _ hbB) (pm_nil _) hpc ((HC.out _ hbB).mono (fun k hk _ => hk)) hE1 hok1 (by omega) (by simp) (by omega) (by omega)
          unfold Pm.parV at htold
          refine htold.mono ?_
          clear htold hpc
          rintro e w5 ⟨rfl, hb5⟩
          obtain ⟨E, hE⟩ : ∃ E, E = drive (matchF 1 A []) [⟨x, true, 0, 0, 0⟩] cuts 100000 0 (start (matchF 1 A []) (matchI 1 A [])) := ⟨_, rfl⟩
          rw [← hE]
          obtain ⟨o0, ofine⟩ := match_whole 1 A x cuts hok1 (by omega) HAll.out.symm E hE
          rw [ofine]
          obtain ⟨FB, U1, U2, U3, e0, -, -, -, hlit⟩ := got_lit E.got
          rw [o0, ← HL.out] at e0
          rw [hlit]
          have HFB := Lib.hid e0
          have HB5 := Lib.hid (hb44.trans (hb5.mono hb44.size))
          have HW5 := Lib.hid (hbB.trans (hb5.mono hbB.size))
          have HR4 := Lib.hid hr4
          clear hbB hb5 hE o0 ofine e0 hlit hr4 hb44 hbW4 k0 k1 k2 k3
          go_upto_region 12 with fail
          have hr6 := heap_alloc_last w5 (.cells #[.string FB, .string U1, .string U2, .string U3, .int .i64 E.got.need, .int .i64 E.got.err, .int .i64 E.got.held, .int .i64 (E.got.taken 0), .int .i64 (E.got.taken 1), .int .i64 (E.got.taken 2), .int .i64 (E.got.taken 3), .bool false] 42)
          have hb6 : Below w5.heap.size w5 (w5.alloc (.cells #[.string FB, .string U1, .string U2, .string U3, .int .i64 E.got.need, .int .i64 E.got.err, .int .i64 E.got.held, .int .i64 (E.got.taken 0), .int .i64 (E.got.taken 1), .int .i64 (E.got.taken 2), .int .i64 (E.got.taken 3), .bool false] 42)) := (Below.refl _ _).alloc (Nat.le_refl _) _
          generalize w5.alloc (.cells #[.string FB, .string U1, .string U2, .string U3, .int .i64 E.got.need, .int .i64 E.got.err, .int .i64 E.got.held, .int .i64 (E.got.taken 0), .int .i64 (E.got.taken 1), .int .i64 (E.got.taken 2), .int .i64 (E.got.taken 3), .bool false] 42) = W6 at hr6 hb6 ⊢
          have hb26 : Below w2.heap.size w2 W6 := (HB24.out.trans (HB5.out.mono HB24.out.size)).trans (hb6.mono (HB24.out.trans (HB5.out.mono HB24.out.size)).size)
          have hbw6 : Below w.heap.size w W6 := HW5.out.trans (hb6.mono HW5.out.size)
          have hr46 := ((HB5.out.trans (hb6.mono HB5.out.size)).block w3.heap.size (Array.getElem?_eq_some_iff.1 HR4.out).1).trans HR4.out
          refine region_stillG (by kernel_rfl) (by kernel_rfl) ?_
          have k9 : W6.drew.cell? ⟨w3.heap.size, 0, none⟩ = some (.string FA) := by
            have h : W6.drew.heap[w3.heap.size]? = _ := hr46
            rw [cell_of_row _ _ _ _ _ _ h]
            rfl
          have k8 : W6.drew.cell? ⟨w5.heap.size, 0, none⟩ = some (.string FB) := by
            have h : W6.drew.heap[w5.heap.size]? = _ := hr6
            rw [cell_of_row _ _ _ _ _ _ h]
            rfl
          have hbd : Below W6.heap.size W6 W6.drew := (Below.refl _ _).drew
          generalize W6.drew = W7 at k8 k9 hbd ⊢
          repeat (refine stillG_step (fun K hK => ?_); go_simp; refine hK.out _ ?_; clear hK K)
          refine stillG_nil ?_
          have HTx2 := Lib.hid (show ∀ W, Below W6.heap.size W6 W → IsTexts (w7.heap.size ≤ ·) W (.slice la L.length lc) L from fun W hb => HTx.out.below (hb26.trans (hb.mono hb26.size)))
          have HY2 := Lib.hid (show ∀ W, Below W6.heap.size W6 W → Below w.heap.size w W from fun W hb => hbw6.trans (hb.mono hbw6.size))
          have HBD := Lib.hid hbd
          obtain ⟨SA, hSA⟩ : ∃ S : ByteArray, strV A = .string S := ⟨_, rfl⟩
          have zA := strV_size hSA
          have HSA := Lib.hid hSA
          clear hbd hr6 hb6 hb26 hbw6 hr46 hSA HB24 HB5 HR4 HB3 HB23 HW3 HW5
          have hsA : Value.string FA = strV (joinL (tellsL A true (L.drop 0))) := HFA.out.symm
          have hsB : Value.string FB = strV (joinL (tellsL A false (L.drop 0))) := HFB.out.symm
          clear k8 k9
          go_wp2_with fail
          rw [hsA, hsB]
          clear hsA hsB
          go_loopw [15, 16, 17] (fun sa sb iv wr => ∃ j : Nat, sa = strV (joinL (tellsL A true (L.drop j))) ∧ sb = strV (joinL (tellsL A false (L.drop j))) ∧ iv = .int .i64 j ∧ j ≤ L.length ∧ Below W6.heap.size W6 wr) (fun _ _ i _ => L.length - (intOf i).toNat)
          case atStart => exact ⟨0, rfl, rfl, rfl, Nat.zero_le _, HBD.out⟩
          case round =>
            obtain ⟨j, rfl, rfl, rfl, hjL, hbr⟩ := hrel
            obtain ⟨TA, hTA⟩ : ∃ S : ByteArray, strV (joinL (tellsL A true (L.drop j))) = .string S := ⟨_, rfl⟩
            obtain ⟨TB, hTB⟩ : ∃ S : ByteArray, strV (joinL (tellsL A false (L.drop j))) = .string S := ⟨_, rfl⟩
            rw [hTA, hTB]
            by_cases hlt : j < L.length
            · obtain ⟨l, hl2⟩ : ∃ l, L[j]? = some l := ⟨L[j]'hlt, List.getElem?_eq_getElem hlt⟩
              obtain ⟨S1, hS1⟩ : ∃ S : ByteArray, strV l = .string S := ⟨_, rfl⟩
              obtain ⟨gx, ox, hla, hx⟩ : ∃ gx ox, la = some ⟨gx, ox, none⟩ ∧ ∀ W, Below W6.heap.size W6 W → W.cell? ⟨gx, ox + j, none⟩ = some (.string S1) := by
                obtain ⟨_, _, e, hcs⟩ := HTx2.out W6 (Below.refl _ _)
                cases e
                obtain ⟨gx, ox, e, -, hx⟩ := hcs j l hl2
                rw [hS1] at hx
                exact ⟨gx, ox, e, fun W hb => Pm.Below.cell hb hx⟩
              subst hla
              have z1 := strV_size hS1
              have hl64 := HR.out l (List.mem_of_getElem? hl2)
              have a2 := add_fits (S := S1) (T := { data := #[10] }) (by omega) (by decide)
              have hs := strV_add hS1 strV_end
              have hdrop : L.drop j = l :: L.drop (j + 1) := by
                obtain ⟨h, e⟩ := List.getElem?_eq_some_iff.1 hl2
                rw [← e]
                exact List.drop_eq_getElem_cons h
              have q0 : (0 : Int) ≤ (j : Int) := by omega
              have q1 : (j : Int) < (L.length : Int) := by omega
              have HS := Lib.hid hs
              have HX2 := Lib.hid hx
              have HD := Lib.hid hdrop
              have HTA := Lib.hid hTA
              have HTB := Lib.hid hTB
              have HS1 := Lib.hid hS1
              have kx := HX2.out _ hbr
              clear hs hx hdrop hTA hTB hS1 hl2
              have he : ∀ k, k + A.length ≤ l.length → ((S1.extract k (k + A.length)).toList == SA.toList) = Lib.occAt l A k := fun k hk => by
                have e1 : (⟨l.toArray⟩ : ByteArray) = S1 := by injection HS1.out
                have e2 : (⟨A.toArray⟩ : ByteArray) = SA := by injection HSA.out
                rw [← e1, extract_at, ← e2, Pm.strV_eq, Lib.occAt_iff_take _ _ _ hk]
                by_cases h : (l.drop k).take A.length = A <;> simp [h]
              have HE := Lib.hid he
              clear he
              go_wp2_with fail
              have hs := HS.out
              generalize S1 ++ { data := #[10] } = SS at hs ⊢
              have HSS := Lib.hid hs
              clear hs
              go_loopw [19, 20] (fun hv kv wr => ∃ k : Nat, kv = .int .i64 k ∧ Seen l A W6 k hv wr) (fun _ k _ => l.length + 1 - (intOf k).toNat)
              case atStart => exact ⟨0, rfl, ⟨false, rfl, by omega, (fun h => by cases h), fun _ i hi => by omega, hbr⟩⟩
              case round =>
                obtain ⟨k, rfl, hseen⟩ := hrel
                obtain ⟨h, rfl, hk, hyes, hno, hbi⟩ := hseen.ex
                clear hseen
                have q3 : IntKind.i64.wrap ((k : Int) + (A.length : Int)) = (k : Int) + (A.length : Int) := by rw [IntKind.wrap_i64]; omega
                have q5 : (k : Int) ≤ (k : Int) + (A.length : Int) := by omega
                have q7 : (0 : Int) ≤ (k : Int) + (A.length : Int) := by omega
                have HYes := Lib.hid hyes
                have HNo := Lib.hid hno
                have kx2 := HX2.out _ hbi
                clear hyes hno kx
                by_cases hlk : k + A.length ≤ l.length
                · have q2 : (k : Int) + (A.length : Int) ≤ (l.length : Int) := by omega
                  cases h with
                  | true =>
                    go_upto_region 21 with fail
                    refine region_stillG (by kernel_rfl) (by kernel_rfl) ?_
                    have hbd := hbi.drew
                    clear kx2
                    generalize wr.drew = wd at hbd ⊢
                    have kx3 := HX2.out _ hbd
                    have kc := Pm.conv_any (HA.out _ (HY2.out _ hbd))
                    rw [show Pm.strV A = .string SA from HSA.out] at kc
                    iterate 17 (refine stillG_step (fun K hK => ?_); go_simp; refine hK.out _ ?_; clear hK K)
                    refine stillG_nil ?_
                    clear kx3 kc
                    go_wp2_with fail
                    exact ⟨⟨k + 1, by go_num, ⟨true, rfl, by omega, fun _ => HYes.out (by first | rfl | trivial), (fun h => by cases h), hbd⟩⟩, by simp [intOf]; omega⟩
                  | false =>
                    have hek := HE.out k hlk
                    cases ho : Lib.occAt l A k with
                    | true =>
                      rw [ho] at hek
                      have q9 : ((k : Int) + (A.length : Int)).toNat = k + A.length := by omega
                      have HOc := Lib.hid ho
                      clear ho
                      go_upto_region 21 with fail
                      refine region_stillG (by kernel_rfl) (by kernel_rfl) ?_
                      have hbd := hbi.drew
                      clear kx2
                      generalize wr.drew = wd at hbd ⊢
                      have kx3 := HX2.out _ hbd
                      have kc := Pm.conv_any (HA.out _ (HY2.out _ hbd))
                      rw [show Pm.strV A = .string SA from HSA.out] at kc
                      iterate 17 (refine stillG_step (fun K hK => ?_); go_simp; refine hK.out _ ?_; clear hK K)
                      refine stillG_nil ?_
                      clear kx3 kc
                      go_wp2_with fail
                      exact ⟨⟨k + 1, by go_num, ⟨true, rfl, by omega, fun _ => hasB_at (by omega) HOc.out, (fun h => by cases h), hbd⟩⟩, by simp [intOf]; omega⟩
                    | false =>
                      rw [ho] at hek
                      have q9 : ((k : Int) + (A.length : Int)).toNat = k + A.length := by omega
                      have HOc := Lib.hid ho
                      clear ho
                      go_upto_region 21 with fail
                      refine region_stillG (by kernel_rfl) (by kernel_rfl) ?_
                      have hbd := hbi.drew
                      clear kx2
                      generalize wr.drew = wd at hbd ⊢
                      have kx3 := HX2.out _ hbd
                      have kc := Pm.conv_any (HA.out _ (HY2.out _ hbd))
                      rw [show Pm.strV A = .string SA from HSA.out] at kc
                      iterate 17 (refine stillG_step (fun K hK => ?_); go_simp; refine hK.out _ ?_; clear hK K)
                      refine stillG_nil ?_
                      clear kx3 kc
                      go_wp2_with fail
                      refine ⟨⟨k + 1, by go_num, ⟨false, rfl, by omega, (fun h => by cases h), fun _ i hi hx => ?_, hbd⟩⟩, by simp [intOf]; omega⟩
                      rcases Nat.lt_succ_iff_lt_or_eq.1 hi with hi | rfl
                      · exact HNo.out (by first | rfl | trivial) i hi hx
                      · exact HOc.out
                · have q2 : ¬ (k : Int) + (A.length : Int) ≤ (l.length : Int) := by omega
                  cases h with
                  | true =>
                    have hh : hasB l A = true := HYes.out rfl
                    have htM : tellsL A true (L.drop j) = l :: tellsL A true (L.drop (j + 1)) := by rw [HD.out]; simp [tellsL, hh]
                    have htO : tellsL A false (L.drop (j + 1)) = tellsL A false (L.drop j) := by rw [HD.out]; simp [tellsL, hh]
                    have hcat : strV ((l ++ [10]) ++ joinL (tellsL A true (L.drop (j + 1)))) = .string TA := by
                      rw [← HTA.out, htM]
                      simp [joinL]
                    obtain ⟨h1, h2, h3⟩ := str_parts HSS.out hcat
                    have q4 : (SS.size : Int) ≤ (TA.size : Int) := by omega
                    have q6 : (0 : Int) ≤ (SS.size : Int) := by omega
                    have HM := Lib.hid h3
                    have HO := Lib.hid htO
                    clear htM htO hcat h1 h3 hh q3 q5 q7
                    go_wp2_with fail
                    refine ⟨⟨j + 1, ?_, ?_, by go_num, by omega, hbi⟩, by simp [intOf]; omega⟩
                    · rw [HM.out]
                    · rw [HO.out, HTB.out]
                  | false =>
                    have hh : hasB l A = false := hasB_none (fun i hi => HNo.out rfl i (by omega) hi)
                    have htM : tellsL A false (L.drop j) = l :: tellsL A false (L.drop (j + 1)) := by rw [HD.out]; simp [tellsL, hh]
                    have htO : tellsL A true (L.drop (j + 1)) = tellsL A true (L.drop j) := by rw [HD.out]; simp [tellsL, hh]
                    have hcat : strV ((l ++ [10]) ++ joinL (tellsL A false (L.drop (j + 1)))) = .string TB := by
                      rw [← HTB.out, htM]
                      simp [joinL]
                    obtain ⟨h1, h2, h3⟩ := str_parts HSS.out hcat
                    have q4 : (SS.size : Int) ≤ (TB.size : Int) := by omega
                    have q6 : (0 : Int) ≤ (SS.size : Int) := by omega
                    have HM := Lib.hid h3
                    have HO := Lib.hid htO
                    clear htM htO hcat h1 h3 hh q3 q5 q7
                    go_wp2_with fail
                    refine ⟨⟨j + 1, ?_, ?_, by go_num, by omega, hbi⟩, by simp [intOf]; omega⟩
                    · rw [HO.out, HTA.out]
                    · rw [HM.out]
            · obtain rfl : j = L.length := by omega
              have q1 : ¬ (L.length : Int) < (L.length : Int) := by omega
              rw [List.drop_length] at hTA hTB
              obtain rfl : TA = { data := #[] } := by injection hTA with h; exact h.symm
              obtain rfl : TB = { data := #[] } := by injection hTB with h; exact h.symm
              clear hTA hTB
              go_wp2_with fail
              refine (awake_true _ (HT.out _ (HY2.out _ hbr))).mono ?_
              rintro e w9 ⟨rfl, hb9⟩
              go_wp2_with fail
              go_ret
              exact ⟨rfl, (HY2.out _ hbr).trans (hb9.mono (HY2.out _ hbr).size)⟩

end Go.Proofs.YtoppjlifaafjiaaDoor
