/- TurnParts's walk. -/
import Derived.Test.YtacmbjamnmpmoaaDoorTurnTold
import Derived.Test.YtacmbjamnmpmoaaDoorTurnDenote
import Derived.Test.YtacmbjamnmpmoaaDoorTurnHeavy
import Derived.Test.YtacmbjamnmpmoaaDoorTurnFit
import Derived.Test.YtacmbjamnmpmoaaDoorTakeskit
import Derived.Test.YtacmbjamnmpmoaaDoorRA
import Derived.Test.YtacmbjamnmpmoaaDoorGcopy
import Derived.Deep.RegionHeld3
namespace Go.Proofs.YtacmbjamnmpmoaaDoor
open Go.RowKit

theorem nil_strms' (w : World) : IsStrms (· < w.heap.size) w (.slice none 0 0) [] := ⟨none, 0, rfl, fun j t h => by simp at h⟩
theorem turn_whole (N : Nat) (A B x : List UInt8) (cuts : List Int) (hN : turnOk N A B) (hx : x.length ≤ 4000) (D : DS Bool) (hD : D = drive (turnF N A B) [⟨x, true, 0, 0, 0⟩] cuts 100000 0 (start (turnF N A B) (turnI N A B))) :
    D.got.outs 0 = turnL A B x ∧ (decide (D.got.err = 0) && decide (D.got.need = -1)) = true := by
  obtain ⟨d1, d2, d3⟩ := turn_drive N A B ⟨x, true, 0, 0, 0⟩ cuts hN hx
  rw [← hD] at d1 d2 d3
  rw [d1, d2, d3]
  exact ⟨rfl, rfl⟩
theorem turnL_none {A B : List UInt8} : ∀ x : List UInt8, (∀ c ∈ x, c ∉ A) → turnL A B x = x
  | [], _ => rfl
  | c :: x, h => by
    have hc : turnC A B c = [c] := by
      unfold turnC
      rw [indexByte_none c A (h c (by simp))]
      rfl
    have ih := turnL_none (A := A) (B := B) x (fun d hd => h d (by simp [hd]))
    unfold turnL at ih ⊢
    rw [List.flatMap_cons, hc, ih]
    rfl

/-- Of the first i bytes none stands in A. -/
def Clean (x A : List UInt8) (i : Nat) : Prop := ∀ c ∈ x.take i, c ∉ A
theorem Clean.next {x A : List UInt8} {i : Nat} {c : UInt8} (h : Clean x A i) (hc : x[i]? = some c) (hA : c ∉ A) : Clean x A (i + 1) := by
  obtain ⟨hi, rfl⟩ := List.getElem?_eq_some_iff.1 hc
  intro d hd
  rw [List.take_succ_eq_append_getElem hi] at hd
  rcases List.mem_append.1 hd with hd | hd
  · exact h d hd
  · rw [List.mem_singleton.1 hd]; exact hA
theorem not_mem_next {A : List UInt8} {m : Nat} {c d : UInt8} (h : c ∉ A.take m) (hd : A[m]? = some d) (hne : d ≠ c) : c ∉ A.take (m + 1) := by
  obtain ⟨hi, rfl⟩ := List.getElem?_eq_some_iff.1 hd
  rw [List.take_succ_eq_append_getElem hi]
  intro hm
  rcases List.mem_append.1 hm with hm | hm
  · exact h hm
  · exact hne (List.mem_singleton.1 hm).symm
theorem zkeep {W W' : World} {g : Nat} {o : Obj} (h : W.heap[g]? = some o) (hb : Below W.heap.size W W') : W'.heap[g]? = some o := (hb.block g (Array.getElem?_eq_some_iff.1 h).1).trans h
theorem IsPieces.mono {p q : Nat → Prop} {w : World} {v : Value} {ps : List (List UInt8)} (h : IsPieces p w v ps) (hpq : ∀ k, k < w.heap.size → p k → q k) : IsPieces q w v ps := by
  obtain ⟨a, cap, rfl, hc⟩ := h
  refine ⟨a, cap, rfl, fun j b hj => ?_⟩
  obtain ⟨gb, off, bv, rfl, hp, h1, hb⟩ := hc j b hj
  exact ⟨gb, off, bv, rfl, hpq _ (block_lt_of_cell h1) hp, h1, hb.mono hpq⟩
set_option maxRecDepth 100000 in
set_option maxHeartbeats 16000000 in
theorem partsLaw_any (k n : Int) (hn : Pm.Fits n) (va vb xv yv cv : Value) (A B x y : List UInt8) (cuts : List Int) (w : World) (hT : Pm.Tab w) (hA : Pm.IsBytes w va A) (hB : Pm.IsBytes w vb B) (hX : IsBytes (· < w.heap.size) w xv x) (hY : IsBytes (· < w.heap.size) w yv y) (hC : IsInts (· < w.heap.size) w cv cuts) :
    Calls Tryd.prog 9 #[Pm.parV k n va vb, xv, yv, cv] w (Pm.Gives w (.bool true)) := by
  have HT := Lib.hid (show ∀ W, Below w.heap.size w W → Pm.Tab W from fun W hb => hT.below hb)
  have HA := Lib.hid (show ∀ W, Below w.heap.size w W → Pm.IsBytes W va A from fun W hb => hA.below hb)
  have HB := Lib.hid (show ∀ W, Below w.heap.size w W → Pm.IsBytes W vb B from fun W hb => hB.below hb)
  have HX := Lib.hid (show ∀ W, Below w.heap.size w W → IsBytes (· < w.heap.size) W xv x from fun W hb => hX.below hb)
  have HYy := Lib.hid (show ∀ W, Below w.heap.size w W → IsBytes (· < w.heap.size) W yv y from fun W hb => hY.below hb)
  have HC := Lib.hid (show ∀ W, Below w.heap.size w W → IsInts (· < w.heap.size) W cv cuts from fun W hb => hC.below hb)
  obtain ⟨aa, ca, rfl, -, -⟩ := id hA
  obtain ⟨aB, cB, rfl, -, -⟩ := id hB
  obtain ⟨ax, cx, rfl, -, -⟩ := id hX
  obtain ⟨ay, cy, rfl, -, -⟩ := id hY
  obtain ⟨ac, cc, rfl, -⟩ := id hC
  clear hT hA hB hX hY hC
  have hmake := make_stream
  obtain ⟨H, hH⟩ : ∃ H, H = heavyB A B [] [cuts] := ⟨_, rfl⟩
  obtain ⟨F, hF⟩ : ∃ F, F = fitB k n A B [⟨[], false, 0, 0, 0⟩] := ⟨_, rfl⟩
  have HH := Lib.hid hH
  have HF := Lib.hid hF
  clear hH hF
  unfold Pm.parV
  go_enter Tryd.func9, Tryd.ntmps9
  go_upto_region 1 with fail
  have hb0 : Below w.heap.size w (w.alloc (.cells #[.int .i64 k, .int .i64 n, .slice aa A.length ca, .slice aB B.length cB] 24)) := (Below.refl _ _).alloc (Nat.le_refl _) _
  have hr0 := heap_alloc_last w (.cells #[.int .i64 k, .int .i64 n, .slice aa A.length ca, .slice aB B.length cB] 24)
  have hs0 : (w.alloc (.cells #[.int .i64 k, .int .i64 n, .slice aa A.length ca, .slice aB B.length cB] 24)).heap.size = w.heap.size + 1 := by simp
  generalize w.alloc (.cells #[.int .i64 k, .int .i64 n, .slice aa A.length ca, .slice aB B.length cB] 24) = W0 at hb0 hr0 hs0 ⊢
  have hx0 : ∀ W, Below W0.heap.size W0 W → W.cell? ⟨w.heap.size, 0, none⟩ = some (.int .i64 k) ∧ W.cell? ⟨w.heap.size, 1, none⟩ = some (.int .i64 n) ∧ W.cell? ⟨w.heap.size, 2, none⟩ = some (.slice aa A.length ca) ∧ W.cell? ⟨w.heap.size, 3, none⟩ = some (.slice aB B.length cB) := fun W hb => by
    have hr := (hb.block w.heap.size (by omega)).trans hr0
    refine ⟨?_, ?_, ?_, ?_⟩
    all_goals
      rw [cell_of_row _ _ _ _ _ _ hr]
      rfl
  have hY : ∀ W, Below W0.heap.size W0 W → Below w.heap.size w W := fun W hb => hb0.trans (hb.mono hb0.size)
  have hhv : ∀ W, Below W0.heap.size W0 W → Calls Tryd.prog 10 #[.agg #[.int .i64 k, .int .i64 n, .slice aa A.length ca, .slice aB B.length cB], .slice none 0 0, .slice (some ⟨W.heap.size, 0, none⟩) 1 1] (W.alloc (.cells #[.slice ac cuts.length cc] 37)) (Pm.Gives (W.alloc (.cells #[.slice ac cuts.length cc] 37)) (.bool H)) := fun W hb => by
    have hbW := hY W hb
    have hcc := ints_list W (.slice ac cuts.length cc) cuts (fun _ => True) trivial ((HC.out _ hbW).mono (fun _ _ _ => trivial)) (0, 0)
    have := heavy_any k n (.slice aa A.length ca) (.slice aB B.length cB) (.slice none 0 0) _ A B [] [cuts] _ (HA.out _ (hbW.alloc hbW.size _)) (HB.out _ (hbW.alloc hbW.size _)) (nil_strms' _) hcc (by simp)
    rw [← HH.out] at this
    exact this
  have hft : ∀ W, Below W0.heap.size W0 W → A.length ≤ 2000 → Calls Tryd.prog 16 #[.agg #[.int .i64 k, .int .i64 n, .slice aa A.length ca, .slice aB B.length cB], .slice (some ⟨W.heap.size, 0, none⟩) 1 1] (W.alloc (.cells #[.slice none 0 0, .bool false, .int .i64 0, .int .i64 0, .int .i64 0] 61)) (Pm.Gives (W.alloc (.cells #[.slice none 0 0, .bool false, .int .i64 0, .int .i64 0, .int .i64 0] 61)) (.bool F)) := fun W hb hl => by
    have hbW := hY W hb
    have hst := strms_new W (.slice none 0 0) ⟨[], false, 0, 0, 0⟩ (fun _ => True) trivial ⟨none, 0, rfl, Nat.le_refl _, fun j c hj => by simp at hj⟩ (0, 0)
    have := fit_any k n hn (.slice aa A.length ca) (.slice aB B.length cB) _ A B [⟨[], false, 0, 0, 0⟩] _ (HA.out _ (hbW.alloc hbW.size _)) (HB.out _ (hbW.alloc hbW.size _)) hst hl
    rw [← HF.out] at this
    exact this
  have HX0 := Lib.hid hx0
  have HY := Lib.hid hY
  have HHv := Lib.hid hhv
  have hw : Below W0.heap.size W0 W0.drew := (Below.refl _ _).drew
  clear hx0 hY hhv hb0 hr0 hs0
  cases H with
  | true =>
    refine anyG_start (S := Below W0.heap.size W0) (by kernel_rfl) ?_
    generalize W0.drew = W1 at hw ⊢
    refine anyG_take (i := 0) 17 (.agg #[.int .i64 k, .int .i64 n, .slice aa A.length ca, .slice aB B.length cB]) rfl rfl (by kernel_rfl) (by kernel_rfl) (by kernel_rfl) rfl (fun W h => by obtain ⟨k0, k1, k2, k3⟩ := HX0.out W h; go_simp) hw ?_
    try simp only [Act.put, List.setIfInBounds_toArray, List.set_cons_succ, List.set_cons_zero]
    refine anyG_take (i := 1) 18 (.slice ac cuts.length cc) rfl rfl (by kernel_rfl) (by kernel_rfl) (by kernel_rfl) rfl (fun _ _ => by go_simp) hw ?_
    try simp only [Act.put, List.setIfInBounds_toArray, List.set_cons_succ, List.set_cons_zero]
    refine anyG_step (i := 2) rfl (by kernel_rfl) rfl (fun K hK => ?_)
    go_simp
    refine hK.out _ _ (hw.alloc hw.size _) ?_
    clear hK K
    try simp only [Act.put, List.setIfInBounds_toArray, List.set_cons_succ, List.set_cons_zero]
    refine anyG_step (i := 3) rfl (by kernel_rfl) rfl (fun K hK => ?_)
    go_simp
    refine (HHv.out _ hw).mono ?_
    rintro e w7 ⟨rfl, hb1⟩
    have hw := (hw.alloc hw.size _).trans (hb1.mono (hw.alloc hw.size _).size)
    clear hb1
    refine hK.out _ _ hw ?_
    clear hK K
    try simp only [Act.put, List.setIfInBounds_toArray, List.set_cons_succ, List.set_cons_zero]
    refine anyG_take (i := 4) 21 (.bool true) rfl rfl (by kernel_rfl) (by kernel_rfl) (by kernel_rfl) rfl (fun _ _ => by go_simp) hw ?_
    try simp only [Act.put, List.setIfInBounds_toArray, List.set_cons_succ, List.set_cons_zero]
    refine anyG_skip (i := 5) 22 rfl rfl (by kernel_rfl) (by kernel_rfl) (by kernel_rfl) rfl hw ?_
    try simp only [Act.put, List.setIfInBounds_toArray, List.set_cons_succ, List.set_cons_zero]
    refine anyG_skip (i := 6) 23 rfl rfl (by kernel_rfl) (by kernel_rfl) (by kernel_rfl) rfl hw ?_
    try simp only [Act.put, List.setIfInBounds_toArray, List.set_cons_succ, List.set_cons_zero]
    refine anyG_skip (i := 7) 24 rfl rfl (by kernel_rfl) (by kernel_rfl) (by kernel_rfl) rfl hw ?_
    try simp only [Act.put, List.setIfInBounds_toArray, List.set_cons_succ, List.set_cons_zero]
    refine anyG_take (i := 8) 25 (.bool true) rfl rfl (by kernel_rfl) (by kernel_rfl) (by kernel_rfl) rfl (fun _ _ => by go_simp) hw ?_
    try simp only [Act.put, List.setIfInBounds_toArray, List.set_cons_succ, List.set_cons_zero]
    refine anyG_take (i := 9) 26 (.bool true) rfl rfl (by kernel_rfl) (by kernel_rfl) (by kernel_rfl) rfl (fun _ _ => by go_simp) hw ?_
    try simp only [Act.put, List.setIfInBounds_toArray, List.set_cons_succ, List.set_cons_zero]
    refine anyG_skip (i := 10) 27 rfl rfl (by kernel_rfl) (by kernel_rfl) (by kernel_rfl) rfl hw ?_
    try simp only [Act.put, List.setIfInBounds_toArray, List.set_cons_succ, List.set_cons_zero]
    refine anyG_skip (i := 11) 28 rfl rfl (by kernel_rfl) (by kernel_rfl) (by kernel_rfl) rfl hw ?_
    try simp only [Act.put, List.setIfInBounds_toArray, List.set_cons_succ, List.set_cons_zero]
    refine anyG_skip (i := 12) 29 rfl rfl (by kernel_rfl) (by kernel_rfl) (by kernel_rfl) rfl hw ?_
    try simp only [Act.put, List.setIfInBounds_toArray, List.set_cons_succ, List.set_cons_zero]
    refine anyG_take (i := 13) 30 (.bool true) rfl rfl (by kernel_rfl) (by kernel_rfl) (by kernel_rfl) rfl (fun _ _ => by go_simp) hw ?_
    try simp only [Act.put, List.setIfInBounds_toArray, List.set_cons_succ, List.set_cons_zero]
    refine anyG_take (i := 14) 31 (.bool true) rfl rfl (by kernel_rfl) (by kernel_rfl) (by kernel_rfl) rfl (fun _ _ => by go_simp) hw ?_
    try simp only [Act.put, List.setIfInBounds_toArray, List.set_cons_succ, List.set_cons_zero]
    refine anyG_skip (i := 15) 32 rfl rfl (by kernel_rfl) (by kernel_rfl) (by kernel_rfl) rfl hw ?_
    try simp only [Act.put, List.setIfInBounds_toArray, List.set_cons_succ, List.set_cons_zero]
    refine anyG_skip (i := 16) 33 rfl rfl (by kernel_rfl) (by kernel_rfl) (by kernel_rfl) rfl hw ?_
    try simp only [Act.put, List.setIfInBounds_toArray, List.set_cons_succ, List.set_cons_zero]
    refine anyG_skip (i := 17) 34 rfl rfl (by kernel_rfl) (by kernel_rfl) (by kernel_rfl) rfl hw ?_
    try simp only [Act.put, List.setIfInBounds_toArray, List.set_cons_succ, List.set_cons_zero]
    refine anyG_skip (i := 18) 35 rfl rfl (by kernel_rfl) (by kernel_rfl) (by kernel_rfl) rfl hw ?_
    try simp only [Act.put, List.setIfInBounds_toArray, List.set_cons_succ, List.set_cons_zero]
    refine anyG_take (i := 19) 36 (.bool true) rfl rfl (by kernel_rfl) (by kernel_rfl) (by kernel_rfl) rfl (fun _ _ => by go_simp) hw ?_
    try simp only [Act.put, List.setIfInBounds_toArray, List.set_cons_succ, List.set_cons_zero]
    refine anyG_done (by kernel_rfl) ?_
    go_wp2_with fail
    refine (awake_true _ (HT.out _ (HY.out _ hw))).mono ?_
    rintro e w2 ⟨rfl, hb2⟩
    go_wp2_with fail
    go_ret
    exact ⟨rfl, (HY.out _ hw).trans (hb2.mono (HY.out _ hw).size)⟩
  | false =>
    obtain ⟨sA, sB, -, -, sC⟩ := heavy_no HH.out.symm
    have hcl := sC cuts (by simp)
    have HFt := Lib.hid (fun W hb => hft W hb (by omega))
    clear sC hft
    by_cases hx : (1000 : Int) < (x.length : Int)
    · skip
      refine anyG_start (S := Below W0.heap.size W0) (by kernel_rfl) ?_
      generalize W0.drew = W1 at hw ⊢
      refine anyG_take (i := 0) 17 (.agg #[.int .i64 k, .int .i64 n, .slice aa A.length ca, .slice aB B.length cB]) rfl rfl (by kernel_rfl) (by kernel_rfl) (by kernel_rfl) rfl (fun W h => by obtain ⟨k0, k1, k2, k3⟩ := HX0.out W h; go_simp) hw ?_
      try simp only [Act.put, List.setIfInBounds_toArray, List.set_cons_succ, List.set_cons_zero]
      refine anyG_take (i := 1) 18 (.slice ac cuts.length cc) rfl rfl (by kernel_rfl) (by kernel_rfl) (by kernel_rfl) rfl (fun _ _ => by go_simp) hw ?_
      try simp only [Act.put, List.setIfInBounds_toArray, List.set_cons_succ, List.set_cons_zero]
      refine anyG_step (i := 2) rfl (by kernel_rfl) rfl (fun K hK => ?_)
      go_simp
      refine hK.out _ _ (hw.alloc hw.size _) ?_
      clear hK K
      try simp only [Act.put, List.setIfInBounds_toArray, List.set_cons_succ, List.set_cons_zero]
      refine anyG_step (i := 3) rfl (by kernel_rfl) rfl (fun K hK => ?_)
      go_simp
      refine (HHv.out _ hw).mono ?_
      rintro e w7 ⟨rfl, hb1⟩
      have hw := (hw.alloc hw.size _).trans (hb1.mono (hw.alloc hw.size _).size)
      clear hb1
      refine hK.out _ _ hw ?_
      clear hK K
      try simp only [Act.put, List.setIfInBounds_toArray, List.set_cons_succ, List.set_cons_zero]
      refine anyG_take (i := 4) 21 (.bool false) rfl rfl (by kernel_rfl) (by kernel_rfl) (by kernel_rfl) rfl (fun _ _ => by go_simp) hw ?_
      try simp only [Act.put, List.setIfInBounds_toArray, List.set_cons_succ, List.set_cons_zero]
      refine anyG_take (i := 5) 22 (.slice ax x.length cx) rfl rfl (by kernel_rfl) (by kernel_rfl) (by kernel_rfl) rfl (fun _ _ => by go_simp) hw ?_
      try simp only [Act.put, List.setIfInBounds_toArray, List.set_cons_succ, List.set_cons_zero]
      refine anyG_take (i := 6) 23 (.int .i64 x.length) rfl rfl (by kernel_rfl) (by kernel_rfl) (by kernel_rfl) rfl (fun _ _ => by go_simp) hw ?_
      try simp only [Act.put, List.setIfInBounds_toArray, List.set_cons_succ, List.set_cons_zero]
      refine anyG_take (i := 7) 24 (.bool true) rfl rfl (by kernel_rfl) (by kernel_rfl) (by kernel_rfl) rfl (fun _ _ => by go_simp) hw ?_
      try simp only [Act.put, List.setIfInBounds_toArray, List.set_cons_succ, List.set_cons_zero]
      refine anyG_take (i := 8) 25 (.bool true) rfl rfl (by kernel_rfl) (by kernel_rfl) (by kernel_rfl) rfl (fun _ _ => by go_simp) hw ?_
      try simp only [Act.put, List.setIfInBounds_toArray, List.set_cons_succ, List.set_cons_zero]
      refine anyG_take (i := 9) 26 (.bool true) rfl rfl (by kernel_rfl) (by kernel_rfl) (by kernel_rfl) rfl (fun _ _ => by go_simp) hw ?_
      try simp only [Act.put, List.setIfInBounds_toArray, List.set_cons_succ, List.set_cons_zero]
      refine anyG_skip (i := 10) 27 rfl rfl (by kernel_rfl) (by kernel_rfl) (by kernel_rfl) rfl hw ?_
      try simp only [Act.put, List.setIfInBounds_toArray, List.set_cons_succ, List.set_cons_zero]
      refine anyG_skip (i := 11) 28 rfl rfl (by kernel_rfl) (by kernel_rfl) (by kernel_rfl) rfl hw ?_
      try simp only [Act.put, List.setIfInBounds_toArray, List.set_cons_succ, List.set_cons_zero]
      refine anyG_skip (i := 12) 29 rfl rfl (by kernel_rfl) (by kernel_rfl) (by kernel_rfl) rfl hw ?_
      try simp only [Act.put, List.setIfInBounds_toArray, List.set_cons_succ, List.set_cons_zero]
      refine anyG_take (i := 13) 30 (.bool true) rfl rfl (by kernel_rfl) (by kernel_rfl) (by kernel_rfl) rfl (fun _ _ => by go_simp) hw ?_
      try simp only [Act.put, List.setIfInBounds_toArray, List.set_cons_succ, List.set_cons_zero]
      refine anyG_take (i := 14) 31 (.bool true) rfl rfl (by kernel_rfl) (by kernel_rfl) (by kernel_rfl) rfl (fun _ _ => by go_simp) hw ?_
      try simp only [Act.put, List.setIfInBounds_toArray, List.set_cons_succ, List.set_cons_zero]
      refine anyG_skip (i := 15) 32 rfl rfl (by kernel_rfl) (by kernel_rfl) (by kernel_rfl) rfl hw ?_
      try simp only [Act.put, List.setIfInBounds_toArray, List.set_cons_succ, List.set_cons_zero]
      refine anyG_skip (i := 16) 33 rfl rfl (by kernel_rfl) (by kernel_rfl) (by kernel_rfl) rfl hw ?_
      try simp only [Act.put, List.setIfInBounds_toArray, List.set_cons_succ, List.set_cons_zero]
      refine anyG_skip (i := 17) 34 rfl rfl (by kernel_rfl) (by kernel_rfl) (by kernel_rfl) rfl hw ?_
      try simp only [Act.put, List.setIfInBounds_toArray, List.set_cons_succ, List.set_cons_zero]
      refine anyG_skip (i := 18) 35 rfl rfl (by kernel_rfl) (by kernel_rfl) (by kernel_rfl) rfl hw ?_
      try simp only [Act.put, List.setIfInBounds_toArray, List.set_cons_succ, List.set_cons_zero]
      refine anyG_take (i := 19) 36 (.bool true) rfl rfl (by kernel_rfl) (by kernel_rfl) (by kernel_rfl) rfl (fun _ _ => by go_simp) hw ?_
      try simp only [Act.put, List.setIfInBounds_toArray, List.set_cons_succ, List.set_cons_zero]
      refine anyG_done (by kernel_rfl) ?_
      go_wp2_with fail
      refine (awake_true _ (HT.out _ (HY.out _ hw))).mono ?_
      rintro e w2 ⟨rfl, hb2⟩
      go_wp2_with fail
      go_ret
      exact ⟨rfl, (HY.out _ hw).trans (hb2.mono (HY.out _ hw).size)⟩
    · by_cases hy : (1000 : Int) < (y.length : Int)
      · skip
        refine anyG_start (S := Below W0.heap.size W0) (by kernel_rfl) ?_
        generalize W0.drew = W1 at hw ⊢
        refine anyG_take (i := 0) 17 (.agg #[.int .i64 k, .int .i64 n, .slice aa A.length ca, .slice aB B.length cB]) rfl rfl (by kernel_rfl) (by kernel_rfl) (by kernel_rfl) rfl (fun W h => by obtain ⟨k0, k1, k2, k3⟩ := HX0.out W h; go_simp) hw ?_
        try simp only [Act.put, List.setIfInBounds_toArray, List.set_cons_succ, List.set_cons_zero]
        refine anyG_take (i := 1) 18 (.slice ac cuts.length cc) rfl rfl (by kernel_rfl) (by kernel_rfl) (by kernel_rfl) rfl (fun _ _ => by go_simp) hw ?_
        try simp only [Act.put, List.setIfInBounds_toArray, List.set_cons_succ, List.set_cons_zero]
        refine anyG_step (i := 2) rfl (by kernel_rfl) rfl (fun K hK => ?_)
        go_simp
        refine hK.out _ _ (hw.alloc hw.size _) ?_
        clear hK K
        try simp only [Act.put, List.setIfInBounds_toArray, List.set_cons_succ, List.set_cons_zero]
        refine anyG_step (i := 3) rfl (by kernel_rfl) rfl (fun K hK => ?_)
        go_simp
        refine (HHv.out _ hw).mono ?_
        rintro e w7 ⟨rfl, hb1⟩
        have hw := (hw.alloc hw.size _).trans (hb1.mono (hw.alloc hw.size _).size)
        clear hb1
        refine hK.out _ _ hw ?_
        clear hK K
        try simp only [Act.put, List.setIfInBounds_toArray, List.set_cons_succ, List.set_cons_zero]
        refine anyG_take (i := 4) 21 (.bool false) rfl rfl (by kernel_rfl) (by kernel_rfl) (by kernel_rfl) rfl (fun _ _ => by go_simp) hw ?_
        try simp only [Act.put, List.setIfInBounds_toArray, List.set_cons_succ, List.set_cons_zero]
        refine anyG_take (i := 5) 22 (.slice ax x.length cx) rfl rfl (by kernel_rfl) (by kernel_rfl) (by kernel_rfl) rfl (fun _ _ => by go_simp) hw ?_
        try simp only [Act.put, List.setIfInBounds_toArray, List.set_cons_succ, List.set_cons_zero]
        refine anyG_take (i := 6) 23 (.int .i64 x.length) rfl rfl (by kernel_rfl) (by kernel_rfl) (by kernel_rfl) rfl (fun _ _ => by go_simp) hw ?_
        try simp only [Act.put, List.setIfInBounds_toArray, List.set_cons_succ, List.set_cons_zero]
        refine anyG_take (i := 7) 24 (.bool false) rfl rfl (by kernel_rfl) (by kernel_rfl) (by kernel_rfl) rfl (fun _ _ => by go_simp) hw ?_
        try simp only [Act.put, List.setIfInBounds_toArray, List.set_cons_succ, List.set_cons_zero]
        refine anyG_take (i := 8) 25 (.bool false) rfl rfl (by kernel_rfl) (by kernel_rfl) (by kernel_rfl) rfl (fun _ _ => by go_simp) hw ?_
        try simp only [Act.put, List.setIfInBounds_toArray, List.set_cons_succ, List.set_cons_zero]
        refine anyG_take (i := 9) 26 (.bool false) rfl rfl (by kernel_rfl) (by kernel_rfl) (by kernel_rfl) rfl (fun _ _ => by go_simp) hw ?_
        try simp only [Act.put, List.setIfInBounds_toArray, List.set_cons_succ, List.set_cons_zero]
        refine anyG_take (i := 10) 27 (.slice ay y.length cy) rfl rfl (by kernel_rfl) (by kernel_rfl) (by kernel_rfl) rfl (fun _ _ => by go_simp) hw ?_
        try simp only [Act.put, List.setIfInBounds_toArray, List.set_cons_succ, List.set_cons_zero]
        refine anyG_take (i := 11) 28 (.int .i64 y.length) rfl rfl (by kernel_rfl) (by kernel_rfl) (by kernel_rfl) rfl (fun _ _ => by go_simp) hw ?_
        try simp only [Act.put, List.setIfInBounds_toArray, List.set_cons_succ, List.set_cons_zero]
        refine anyG_take (i := 12) 29 (.bool true) rfl rfl (by kernel_rfl) (by kernel_rfl) (by kernel_rfl) rfl (fun _ _ => by go_simp) hw ?_
        try simp only [Act.put, List.setIfInBounds_toArray, List.set_cons_succ, List.set_cons_zero]
        refine anyG_take (i := 13) 30 (.bool true) rfl rfl (by kernel_rfl) (by kernel_rfl) (by kernel_rfl) rfl (fun _ _ => by go_simp) hw ?_
        try simp only [Act.put, List.setIfInBounds_toArray, List.set_cons_succ, List.set_cons_zero]
        refine anyG_take (i := 14) 31 (.bool true) rfl rfl (by kernel_rfl) (by kernel_rfl) (by kernel_rfl) rfl (fun _ _ => by go_simp) hw ?_
        try simp only [Act.put, List.setIfInBounds_toArray, List.set_cons_succ, List.set_cons_zero]
        refine anyG_skip (i := 15) 32 rfl rfl (by kernel_rfl) (by kernel_rfl) (by kernel_rfl) rfl hw ?_
        try simp only [Act.put, List.setIfInBounds_toArray, List.set_cons_succ, List.set_cons_zero]
        refine anyG_skip (i := 16) 33 rfl rfl (by kernel_rfl) (by kernel_rfl) (by kernel_rfl) rfl hw ?_
        try simp only [Act.put, List.setIfInBounds_toArray, List.set_cons_succ, List.set_cons_zero]
        refine anyG_skip (i := 17) 34 rfl rfl (by kernel_rfl) (by kernel_rfl) (by kernel_rfl) rfl hw ?_
        try simp only [Act.put, List.setIfInBounds_toArray, List.set_cons_succ, List.set_cons_zero]
        refine anyG_skip (i := 18) 35 rfl rfl (by kernel_rfl) (by kernel_rfl) (by kernel_rfl) rfl hw ?_
        try simp only [Act.put, List.setIfInBounds_toArray, List.set_cons_succ, List.set_cons_zero]
        refine anyG_take (i := 19) 36 (.bool true) rfl rfl (by kernel_rfl) (by kernel_rfl) (by kernel_rfl) rfl (fun _ _ => by go_simp) hw ?_
        try simp only [Act.put, List.setIfInBounds_toArray, List.set_cons_succ, List.set_cons_zero]
        refine anyG_done (by kernel_rfl) ?_
        go_wp2_with fail
        refine (awake_true _ (HT.out _ (HY.out _ hw))).mono ?_
        rintro e w2 ⟨rfl, hb2⟩
        go_wp2_with fail
        go_ret
        exact ⟨rfl, (HY.out _ hw).trans (hb2.mono (HY.out _ hw).size)⟩
      · cases F with
        | false =>
          refine anyG_start (S := Below W0.heap.size W0) (by kernel_rfl) ?_
          generalize W0.drew = W1 at hw ⊢
          refine anyG_take (i := 0) 17 (.agg #[.int .i64 k, .int .i64 n, .slice aa A.length ca, .slice aB B.length cB]) rfl rfl (by kernel_rfl) (by kernel_rfl) (by kernel_rfl) rfl (fun W h => by obtain ⟨k0, k1, k2, k3⟩ := HX0.out W h; go_simp) hw ?_
          try simp only [Act.put, List.setIfInBounds_toArray, List.set_cons_succ, List.set_cons_zero]
          refine anyG_take (i := 1) 18 (.slice ac cuts.length cc) rfl rfl (by kernel_rfl) (by kernel_rfl) (by kernel_rfl) rfl (fun _ _ => by go_simp) hw ?_
          try simp only [Act.put, List.setIfInBounds_toArray, List.set_cons_succ, List.set_cons_zero]
          refine anyG_step (i := 2) rfl (by kernel_rfl) rfl (fun K hK => ?_)
          go_simp
          refine hK.out _ _ (hw.alloc hw.size _) ?_
          clear hK K
          try simp only [Act.put, List.setIfInBounds_toArray, List.set_cons_succ, List.set_cons_zero]
          refine anyG_step (i := 3) rfl (by kernel_rfl) rfl (fun K hK => ?_)
          go_simp
          refine (HHv.out _ hw).mono ?_
          rintro e w7 ⟨rfl, hb1⟩
          have hw := (hw.alloc hw.size _).trans (hb1.mono (hw.alloc hw.size _).size)
          clear hb1
          refine hK.out _ _ hw ?_
          clear hK K
          try simp only [Act.put, List.setIfInBounds_toArray, List.set_cons_succ, List.set_cons_zero]
          refine anyG_take (i := 4) 21 (.bool false) rfl rfl (by kernel_rfl) (by kernel_rfl) (by kernel_rfl) rfl (fun _ _ => by go_simp) hw ?_
          try simp only [Act.put, List.setIfInBounds_toArray, List.set_cons_succ, List.set_cons_zero]
          refine anyG_take (i := 5) 22 (.slice ax x.length cx) rfl rfl (by kernel_rfl) (by kernel_rfl) (by kernel_rfl) rfl (fun _ _ => by go_simp) hw ?_
          try simp only [Act.put, List.setIfInBounds_toArray, List.set_cons_succ, List.set_cons_zero]
          refine anyG_take (i := 6) 23 (.int .i64 x.length) rfl rfl (by kernel_rfl) (by kernel_rfl) (by kernel_rfl) rfl (fun _ _ => by go_simp) hw ?_
          try simp only [Act.put, List.setIfInBounds_toArray, List.set_cons_succ, List.set_cons_zero]
          refine anyG_take (i := 7) 24 (.bool false) rfl rfl (by kernel_rfl) (by kernel_rfl) (by kernel_rfl) rfl (fun _ _ => by go_simp) hw ?_
          try simp only [Act.put, List.setIfInBounds_toArray, List.set_cons_succ, List.set_cons_zero]
          refine anyG_take (i := 8) 25 (.bool false) rfl rfl (by kernel_rfl) (by kernel_rfl) (by kernel_rfl) rfl (fun _ _ => by go_simp) hw ?_
          try simp only [Act.put, List.setIfInBounds_toArray, List.set_cons_succ, List.set_cons_zero]
          refine anyG_take (i := 9) 26 (.bool false) rfl rfl (by kernel_rfl) (by kernel_rfl) (by kernel_rfl) rfl (fun _ _ => by go_simp) hw ?_
          try simp only [Act.put, List.setIfInBounds_toArray, List.set_cons_succ, List.set_cons_zero]
          refine anyG_take (i := 10) 27 (.slice ay y.length cy) rfl rfl (by kernel_rfl) (by kernel_rfl) (by kernel_rfl) rfl (fun _ _ => by go_simp) hw ?_
          try simp only [Act.put, List.setIfInBounds_toArray, List.set_cons_succ, List.set_cons_zero]
          refine anyG_take (i := 11) 28 (.int .i64 y.length) rfl rfl (by kernel_rfl) (by kernel_rfl) (by kernel_rfl) rfl (fun _ _ => by go_simp) hw ?_
          try simp only [Act.put, List.setIfInBounds_toArray, List.set_cons_succ, List.set_cons_zero]
          refine anyG_take (i := 12) 29 (.bool false) rfl rfl (by kernel_rfl) (by kernel_rfl) (by kernel_rfl) rfl (fun _ _ => by go_simp) hw ?_
          try simp only [Act.put, List.setIfInBounds_toArray, List.set_cons_succ, List.set_cons_zero]
          refine anyG_take (i := 13) 30 (.bool false) rfl rfl (by kernel_rfl) (by kernel_rfl) (by kernel_rfl) rfl (fun _ _ => by go_simp) hw ?_
          try simp only [Act.put, List.setIfInBounds_toArray, List.set_cons_succ, List.set_cons_zero]
          refine anyG_take (i := 14) 31 (.bool false) rfl rfl (by kernel_rfl) (by kernel_rfl) (by kernel_rfl) rfl (fun _ _ => by go_simp) hw ?_
          try simp only [Act.put, List.setIfInBounds_toArray, List.set_cons_succ, List.set_cons_zero]
          refine anyG_take (i := 15) 32 (.agg #[.int .i64 k, .int .i64 n, .slice aa A.length ca, .slice aB B.length cB]) rfl rfl (by kernel_rfl) (by kernel_rfl) (by kernel_rfl) rfl (fun W h => by obtain ⟨k0, k1, k2, k3⟩ := HX0.out W h; go_simp) hw ?_
          try simp only [Act.put, List.setIfInBounds_toArray, List.set_cons_succ, List.set_cons_zero]
          refine anyG_step (i := 16) rfl (by kernel_rfl) rfl (fun K hK => ?_)
          go_simp
          refine hK.out _ _ (hw.alloc hw.size _) ?_
          clear hK K
          try simp only [Act.put, List.setIfInBounds_toArray, List.set_cons_succ, List.set_cons_zero]
          refine anyG_step (i := 17) rfl (by kernel_rfl) rfl (fun K hK => ?_)
          go_simp
          refine (HFt.out _ hw).mono ?_
          rintro e w7 ⟨rfl, hb1⟩
          have hw := (hw.alloc hw.size _).trans (hb1.mono (hw.alloc hw.size _).size)
          clear hb1
          refine hK.out _ _ hw ?_
          clear hK K
          try simp only [Act.put, List.setIfInBounds_toArray, List.set_cons_succ, List.set_cons_zero]
          refine anyG_take (i := 18) 35 (.bool true) rfl rfl (by kernel_rfl) (by kernel_rfl) (by kernel_rfl) rfl (fun _ _ => by go_simp) hw ?_
          try simp only [Act.put, List.setIfInBounds_toArray, List.set_cons_succ, List.set_cons_zero]
          refine anyG_take (i := 19) 36 (.bool true) rfl rfl (by kernel_rfl) (by kernel_rfl) (by kernel_rfl) rfl (fun _ _ => by go_simp) hw ?_
          try simp only [Act.put, List.setIfInBounds_toArray, List.set_cons_succ, List.set_cons_zero]
          refine anyG_done (by kernel_rfl) ?_
          go_wp2_with fail
          refine (awake_true _ (HT.out _ (HY.out _ hw))).mono ?_
          rintro e w2 ⟨rfl, hb2⟩
          go_wp2_with fail
          go_ret
          exact ⟨rfl, (HY.out _ hw).trans (hb2.mono (HY.out _ hw).size)⟩
        | true =>
          refine anyG_start (S := Below W0.heap.size W0) (by kernel_rfl) ?_
          generalize W0.drew = W1 at hw ⊢
          refine anyG_take (i := 0) 17 (.agg #[.int .i64 k, .int .i64 n, .slice aa A.length ca, .slice aB B.length cB]) rfl rfl (by kernel_rfl) (by kernel_rfl) (by kernel_rfl) rfl (fun W h => by obtain ⟨k0, k1, k2, k3⟩ := HX0.out W h; go_simp) hw ?_
          try simp only [Act.put, List.setIfInBounds_toArray, List.set_cons_succ, List.set_cons_zero]
          refine anyG_take (i := 1) 18 (.slice ac cuts.length cc) rfl rfl (by kernel_rfl) (by kernel_rfl) (by kernel_rfl) rfl (fun _ _ => by go_simp) hw ?_
          try simp only [Act.put, List.setIfInBounds_toArray, List.set_cons_succ, List.set_cons_zero]
          refine anyG_step (i := 2) rfl (by kernel_rfl) rfl (fun K hK => ?_)
          go_simp
          refine hK.out _ _ (hw.alloc hw.size _) ?_
          clear hK K
          try simp only [Act.put, List.setIfInBounds_toArray, List.set_cons_succ, List.set_cons_zero]
          refine anyG_step (i := 3) rfl (by kernel_rfl) rfl (fun K hK => ?_)
          go_simp
          refine (HHv.out _ hw).mono ?_
          rintro e w7 ⟨rfl, hb1⟩
          have hw := (hw.alloc hw.size _).trans (hb1.mono (hw.alloc hw.size _).size)
          clear hb1
          refine hK.out _ _ hw ?_
          clear hK K
          try simp only [Act.put, List.setIfInBounds_toArray, List.set_cons_succ, List.set_cons_zero]
          refine anyG_take (i := 4) 21 (.bool false) rfl rfl (by kernel_rfl) (by kernel_rfl) (by kernel_rfl) rfl (fun _ _ => by go_simp) hw ?_
          try simp only [Act.put, List.setIfInBounds_toArray, List.set_cons_succ, List.set_cons_zero]
          refine anyG_take (i := 5) 22 (.slice ax x.length cx) rfl rfl (by kernel_rfl) (by kernel_rfl) (by kernel_rfl) rfl (fun _ _ => by go_simp) hw ?_
          try simp only [Act.put, List.setIfInBounds_toArray, List.set_cons_succ, List.set_cons_zero]
          refine anyG_take (i := 6) 23 (.int .i64 x.length) rfl rfl (by kernel_rfl) (by kernel_rfl) (by kernel_rfl) rfl (fun _ _ => by go_simp) hw ?_
          try simp only [Act.put, List.setIfInBounds_toArray, List.set_cons_succ, List.set_cons_zero]
          refine anyG_take (i := 7) 24 (.bool false) rfl rfl (by kernel_rfl) (by kernel_rfl) (by kernel_rfl) rfl (fun _ _ => by go_simp) hw ?_
          try simp only [Act.put, List.setIfInBounds_toArray, List.set_cons_succ, List.set_cons_zero]
          refine anyG_take (i := 8) 25 (.bool false) rfl rfl (by kernel_rfl) (by kernel_rfl) (by kernel_rfl) rfl (fun _ _ => by go_simp) hw ?_
          try simp only [Act.put, List.setIfInBounds_toArray, List.set_cons_succ, List.set_cons_zero]
          refine anyG_take (i := 9) 26 (.bool false) rfl rfl (by kernel_rfl) (by kernel_rfl) (by kernel_rfl) rfl (fun _ _ => by go_simp) hw ?_
          try simp only [Act.put, List.setIfInBounds_toArray, List.set_cons_succ, List.set_cons_zero]
          refine anyG_take (i := 10) 27 (.slice ay y.length cy) rfl rfl (by kernel_rfl) (by kernel_rfl) (by kernel_rfl) rfl (fun _ _ => by go_simp) hw ?_
          try simp only [Act.put, List.setIfInBounds_toArray, List.set_cons_succ, List.set_cons_zero]
          refine anyG_take (i := 11) 28 (.int .i64 y.length) rfl rfl (by kernel_rfl) (by kernel_rfl) (by kernel_rfl) rfl (fun _ _ => by go_simp) hw ?_
          try simp only [Act.put, List.setIfInBounds_toArray, List.set_cons_succ, List.set_cons_zero]
          refine anyG_take (i := 12) 29 (.bool false) rfl rfl (by kernel_rfl) (by kernel_rfl) (by kernel_rfl) rfl (fun _ _ => by go_simp) hw ?_
          try simp only [Act.put, List.setIfInBounds_toArray, List.set_cons_succ, List.set_cons_zero]
          refine anyG_take (i := 13) 30 (.bool false) rfl rfl (by kernel_rfl) (by kernel_rfl) (by kernel_rfl) rfl (fun _ _ => by go_simp) hw ?_
          try simp only [Act.put, List.setIfInBounds_toArray, List.set_cons_succ, List.set_cons_zero]
          refine anyG_take (i := 14) 31 (.bool false) rfl rfl (by kernel_rfl) (by kernel_rfl) (by kernel_rfl) rfl (fun _ _ => by go_simp) hw ?_
          try simp only [Act.put, List.setIfInBounds_toArray, List.set_cons_succ, List.set_cons_zero]
          refine anyG_take (i := 15) 32 (.agg #[.int .i64 k, .int .i64 n, .slice aa A.length ca, .slice aB B.length cB]) rfl rfl (by kernel_rfl) (by kernel_rfl) (by kernel_rfl) rfl (fun W h => by obtain ⟨k0, k1, k2, k3⟩ := HX0.out W h; go_simp) hw ?_
          try simp only [Act.put, List.setIfInBounds_toArray, List.set_cons_succ, List.set_cons_zero]
          refine anyG_step (i := 16) rfl (by kernel_rfl) rfl (fun K hK => ?_)
          go_simp
          refine hK.out _ _ (hw.alloc hw.size _) ?_
          clear hK K
          try simp only [Act.put, List.setIfInBounds_toArray, List.set_cons_succ, List.set_cons_zero]
          refine anyG_step (i := 17) rfl (by kernel_rfl) rfl (fun K hK => ?_)
          go_simp
          refine (HFt.out _ hw).mono ?_
          rintro e w7 ⟨rfl, hb1⟩
          have hw := (hw.alloc hw.size _).trans (hb1.mono (hw.alloc hw.size _).size)
          clear hb1
          refine hK.out _ _ hw ?_
          clear hK K
          try simp only [Act.put, List.setIfInBounds_toArray, List.set_cons_succ, List.set_cons_zero]
          refine anyG_take (i := 18) 35 (.bool false) rfl rfl (by kernel_rfl) (by kernel_rfl) (by kernel_rfl) rfl (fun _ _ => by go_simp) hw ?_
          try simp only [Act.put, List.setIfInBounds_toArray, List.set_cons_succ, List.set_cons_zero]
          refine anyG_take (i := 19) 36 (.bool false) rfl rfl (by kernel_rfl) (by kernel_rfl) (by kernel_rfl) rfl (fun _ _ => by go_simp) hw ?_
          try simp only [Act.put, List.setIfInBounds_toArray, List.set_cons_succ, List.set_cons_zero]
          refine anyG_done (by kernel_rfl) ?_
          obtain ⟨rfl, N, rfl, hok, hE, -, -, -⟩ := fit_yes HF.out.symm
          have HWW := Lib.hid hw
          obtain ⟨c0, c1, c2, c3⟩ := HX0.out _ hw
          clear hmake hw HFt HHv
          go_wp2_with fail
          have hbw := HY.out _ HWW.out
          have hbA : Below w.heap.size w (w7.alloc (.cells #[.slice ax x.length cx] 22)) := hbw.alloc hbw.size _
          have hbP : Below w7.heap.size w7 (w7.alloc (.cells #[.slice ax x.length cx] 22)) := (Below.refl _ _).alloc (Nat.le_refl _) _
          have hpc := pieces_new w7 (.slice ax x.length cx) x (· < (w7.alloc (.cells #[.slice ax x.length cx] 22)).heap.size) (by simp) (((HX.out _ hbw).mono (fun k hk _ => by simp; omega))) (0, 0)
          have htold := told_any N (.slice aa A.length ca) (.slice aB B.length cB) (.slice ac cuts.length cc) _ A B x cuts _ (HT.out _ hbA) (HA.out _ hbA) (HB.out _ hbA) hpc ((HC.out _ hbA).mono (fun k hk _ => hk)) hE hok (by omega) (by omega) (by omega) (by omega)
          unfold Pm.parV at htold
          refine htold.mono ?_
          clear htold hpc
          rintro e w8 ⟨rfl, hb⟩
          obtain ⟨D1, hD⟩ : ∃ D, D = drive (turnF N A B) [⟨x, true, 0, 0, 0⟩] cuts 100000 0 (start (turnF N A B) (turnI N A B)) := ⟨_, rfl⟩
          rw [← hD]
          obtain ⟨o0, ofine⟩ := turn_whole N A B x cuts hok (by omega) D1 hD
          rw [ofine]
          obtain ⟨U0, U1, U2, U3, e0, -, -, -, hlit⟩ := got_lit D1.got
          rw [o0] at e0
          rw [hlit]
          have HU := Lib.hid e0
          have HBw8 := Lib.hid (HWW.out.trans ((hbP.trans (hb.mono hbP.size)).mono HWW.out.size))
          have HLw8 := Lib.hid (hbP.trans (hb.mono hbP.size))
          clear hbw hbA hbP hb hD o0 ofine e0 hlit c0 c1 c2 c3
          have k0 := fun o => (HX0.out _ (HBw8.out.alloc HBw8.out.size o)).1
          have k1 := fun o => (HX0.out _ (HBw8.out.alloc HBw8.out.size o)).2.1
          have k2 := fun o => (HX0.out _ (HBw8.out.alloc HBw8.out.size o)).2.2.1
          have k3 := fun o => (HX0.out _ (HBw8.out.alloc HBw8.out.size o)).2.2.2
          go_wp2_with fail
          clear k0 k1 k2 k3
          have hr := heap_alloc_last w8 (.cells #[.string U0, .string U1, .string U2, .string U3, .int .i64 D1.got.need, .int .i64 D1.got.err, .int .i64 D1.got.held, .int .i64 (D1.got.taken 0), .int .i64 (D1.got.taken 1), .int .i64 (D1.got.taken 2), .int .i64 (D1.got.taken 3), .bool false] 42)
          have hb : Below w8.heap.size w8 (w8.alloc (.cells #[.string U0, .string U1, .string U2, .string U3, .int .i64 D1.got.need, .int .i64 D1.got.err, .int .i64 D1.got.held, .int .i64 (D1.got.taken 0), .int .i64 (D1.got.taken 1), .int .i64 (D1.got.taken 2), .int .i64 (D1.got.taken 3), .bool false] 42)) := (Below.refl _ _).alloc (Nat.le_refl _) _
          have hs : (w8.alloc (.cells #[.string U0, .string U1, .string U2, .string U3, .int .i64 D1.got.need, .int .i64 D1.got.err, .int .i64 D1.got.held, .int .i64 (D1.got.taken 0), .int .i64 (D1.got.taken 1), .int .i64 (D1.got.taken 2), .int .i64 (D1.got.taken 3), .bool false] 42)).heap.size = w8.heap.size + 1 := by simp
          generalize w8.alloc (.cells #[.string U0, .string U1, .string U2, .string U3, .int .i64 D1.got.need, .int .i64 D1.got.err, .int .i64 D1.got.held, .int .i64 (D1.got.taken 0), .int .i64 (D1.got.taken 1), .int .i64 (D1.got.taken 2), .int .i64 (D1.got.taken 3), .bool false] 42) = W8 at hr hb hs ⊢
          have HW8 := Lib.hid (HBw8.out.trans (hb.mono HBw8.out.size))
          have HRW8 := Lib.hid hr
          have HKW8 := Lib.hid hb
          have HSW8 := Lib.hid hs
          clear hr hb hs
          have c0 := 0
          have c1 := 0
          have c2 := 0
          have c3 := 0
          have hsW := HSW8.out
          have hbw := HY.out _ HW8.out
          have hbA : Below w.heap.size w (W8.alloc (.cells #[.slice ay y.length cy] 22)) := hbw.alloc hbw.size _
          have hbP : Below W8.heap.size W8 (W8.alloc (.cells #[.slice ay y.length cy] 22)) := (Below.refl _ _).alloc (Nat.le_refl _) _
          have hpc := pieces_new W8 (.slice ay y.length cy) y (· < (W8.alloc (.cells #[.slice ay y.length cy] 22)).heap.size) (by simp) (((HYy.out _ hbw).mono (fun k hk _ => by simp; omega))) (0, 0)
          rw [hsW] at hpc
          have htold := told_any N (.slice aa A.length ca) (.slice aB B.length cB) (.slice ac cuts.length cc) _ A B y cuts _ (HT.out _ hbA) (HA.out _ hbA) (HB.out _ hbA) hpc ((HC.out _ hbA).mono (fun k hk _ => hk)) hE hok (by omega) (by omega) (by omega) (by omega)
          unfold Pm.parV at htold
          refine htold.mono ?_
          clear htold hpc
          rintro e w9 ⟨rfl, hb⟩
          obtain ⟨D2, hD⟩ : ∃ D, D = drive (turnF N A B) [⟨y, true, 0, 0, 0⟩] cuts 100000 0 (start (turnF N A B) (turnI N A B)) := ⟨_, rfl⟩
          rw [← hD]
          obtain ⟨o0, ofine⟩ := turn_whole N A B y cuts hok (by omega) D2 hD
          rw [ofine]
          obtain ⟨V0, V1, V2, V3, e0, -, -, -, hlit⟩ := got_lit D2.got
          rw [o0] at e0
          rw [hlit]
          have HV := Lib.hid e0
          have HBw9 := Lib.hid (HW8.out.trans ((hbP.trans (hb.mono hbP.size)).mono HW8.out.size))
          have HLw9 := Lib.hid (hbP.trans (hb.mono hbP.size))
          clear hbw hbA hbP hb hD o0 ofine e0 hlit c0 c1 c2 c3
          have k0 := fun o => (HX0.out _ (HBw9.out.alloc HBw9.out.size o)).1
          have k1 := fun o => (HX0.out _ (HBw9.out.alloc HBw9.out.size o)).2.1
          have k2 := fun o => (HX0.out _ (HBw9.out.alloc HBw9.out.size o)).2.2.1
          have k3 := fun o => (HX0.out _ (HBw9.out.alloc HBw9.out.size o)).2.2.2
          go_wp2_with fail
          clear k0 k1 k2 k3
          have hr := heap_alloc_last w9 (.cells #[.string V0, .string V1, .string V2, .string V3, .int .i64 D2.got.need, .int .i64 D2.got.err, .int .i64 D2.got.held, .int .i64 (D2.got.taken 0), .int .i64 (D2.got.taken 1), .int .i64 (D2.got.taken 2), .int .i64 (D2.got.taken 3), .bool false] 42)
          have hb : Below w9.heap.size w9 (w9.alloc (.cells #[.string V0, .string V1, .string V2, .string V3, .int .i64 D2.got.need, .int .i64 D2.got.err, .int .i64 D2.got.held, .int .i64 (D2.got.taken 0), .int .i64 (D2.got.taken 1), .int .i64 (D2.got.taken 2), .int .i64 (D2.got.taken 3), .bool false] 42)) := (Below.refl _ _).alloc (Nat.le_refl _) _
          have hs : (w9.alloc (.cells #[.string V0, .string V1, .string V2, .string V3, .int .i64 D2.got.need, .int .i64 D2.got.err, .int .i64 D2.got.held, .int .i64 (D2.got.taken 0), .int .i64 (D2.got.taken 1), .int .i64 (D2.got.taken 2), .int .i64 (D2.got.taken 3), .bool false] 42)).heap.size = w9.heap.size + 1 := by simp
          generalize w9.alloc (.cells #[.string V0, .string V1, .string V2, .string V3, .int .i64 D2.got.need, .int .i64 D2.got.err, .int .i64 D2.got.held, .int .i64 (D2.got.taken 0), .int .i64 (D2.got.taken 1), .int .i64 (D2.got.taken 2), .int .i64 (D2.got.taken 3), .bool false] 42) = W9 at hr hb hs ⊢
          have HW9 := Lib.hid (HBw9.out.trans (hb.mono HBw9.out.size))
          have HRW9 := Lib.hid hr
          have HKW9 := Lib.hid hb
          have HSW9 := Lib.hid hs
          clear hr hb hs
          obtain ⟨n2, hn2⟩ : ∃ n2, n2 = (x ++ y).length := ⟨_, rfl⟩
          have HN2 := Lib.hid hn2
          clear hn2
          go_cut [13, 14] (fun s z W => ∃ gz : Nat, s = .pointer (some ⟨gz, 0, none⟩) ∧ z = .bool true ∧ W.cell? ⟨gz, 0, none⟩ = some (.string (U0 ++ V0)) ∧ Below W9.heap.size W9 W)
          case first =>
            have hw : Below W9.heap.size W9 W9.drew := (Below.refl _ _).drew
            refine anyG_start (S := Below W9.heap.size W9) (by kernel_rfl) ?_
            generalize W9.drew = Wn0 at hw ⊢
            refine anyG_take (i := 0) 55 (.agg #[.int .i64 6, .int .i64 N, .slice aa A.length ca, .slice aB B.length cB]) rfl rfl (by kernel_rfl) (by kernel_rfl) (by kernel_rfl) rfl (fun W h => by obtain ⟨k0, k1, k2, k3⟩ := HX0.out W (HW9.out.trans (h.mono HW9.out.size)); go_simp) hw ?_
            try simp only [Act.put, List.setIfInBounds_toArray, List.set_cons_succ, List.set_cons_zero]
            refine anyG_take (i := 1) 56 (.slice ac cuts.length cc) rfl rfl (by kernel_rfl) (by kernel_rfl) (by kernel_rfl) rfl (fun _ _ => by go_simp) hw ?_
            try simp only [Act.put, List.setIfInBounds_toArray, List.set_cons_succ, List.set_cons_zero]
            refine anyG_take (i := 3) 58 (.slice ax x.length cx) rfl rfl (by kernel_rfl) (by kernel_rfl) (by kernel_rfl) rfl (fun _ _ => by go_simp) hw ?_
            try simp only [Act.put, List.setIfInBounds_toArray, List.set_cons_succ, List.set_cons_zero]
            refine anyG_take (i := 5) 60 (.slice ay y.length cy) rfl rfl (by kernel_rfl) (by kernel_rfl) (by kernel_rfl) rfl (fun _ _ => by go_simp) hw ?_
            try simp only [Act.put, List.setIfInBounds_toArray, List.set_cons_succ, List.set_cons_zero]
            refine anyG_two (i := 2) (j := 12) rfl rfl (by kernel_rfl) rfl rfl (fun K hK => ?_) (fun K hK => ?_)
            · go_simp
              have hown := World.ownsRow_made (base := W9.heap.size) (e := 5) (size := 1) Wn0 #[] 0 hw.size (Nat.zero_le _) rfl
              replace hw := hw.alloc hw.size (.cells #[] 5)
              refine hK.out _ _ hw ?_
              clear hK K
              try simp only [Act.put, List.setIfInBounds_toArray, List.set_cons_succ, List.set_cons_zero]
              generalize Wn0.alloc (.cells #[] 5) = Wn1 at hown hw ⊢
              generalize Wn0.heap.size = G1 at hown ⊢
              refine anyG_two (i := 4) (j := 12) rfl rfl (by kernel_rfl) rfl rfl (fun K hK => ?_) (fun K hK => ?_)
              · refine wp_append_more (.tmp 57) (.tmp 58) rfl W9.heap.size _ _ [] x rfl hown rfl (HX.out _ (HY.out _ (HW9.out.trans (hw.mono HW9.out.size)))) (by first | omega | (simp; omega)) hw.size 59 rfl ?_
                intro v1 Wn2 hown1 hg1 hb1
                have hw1 := owns_below_of hown hw hg1
                clear hown hw hg1 hb1
                obtain ⟨a1, c1, rfl⟩ := owns_slice hown1
                have hown := hown1
                have hw := hw1
                clear hown1 hw1
                refine hK.out _ _ hw ?_
                clear hK K
                try simp only [Act.put, List.setIfInBounds_toArray, List.set_cons_succ, List.set_cons_zero]
                refine anyG_two (i := 6) (j := 12) rfl rfl (by kernel_rfl) rfl rfl (fun K hK => ?_) (fun K hK => ?_)
                · refine wp_append_more (.tmp 59) (.tmp 60) rfl W9.heap.size _ _ x y rfl hown rfl (HYy.out _ (HY.out _ (HW9.out.trans (hw.mono HW9.out.size)))) (by first | omega | (simp; omega)) hw.size 61 rfl ?_
                  intro v1 Wn3 hown1 hg1 hb1
                  have hw1 := owns_below_of hown hw hg1
                  clear hown hw hg1 hb1
                  obtain ⟨a2, c2, rfl⟩ := owns_slice hown1
                  have hown := hown1
                  have hw := hw1
                  clear hown1 hw1
                  refine hK.out _ _ hw ?_
                  clear hK K
                  try simp only [Act.put, List.setIfInBounds_toArray, List.set_cons_succ, List.set_cons_zero]
                  rw [← HN2.out] at hown ⊢
                  refine anyG_two (i := 7) (j := 12) rfl rfl (by kernel_rfl) rfl rfl (fun K hK => ?_) (fun K hK => ?_)
                  · go_simp
                    have hbP : Below Wn3.heap.size Wn3 (Wn3.alloc (.cells #[.slice a2 n2 c2] 22)) := (Below.refl _ _).alloc (Nat.le_refl _) _
                    have hpc := pieces_new Wn3 (.slice a2 n2 c2) (x ++ y) (fun _ => True) trivial ((isBytes_of_owns (b := x ++ y) (by rw [← HN2.out]; exact hown)).mono (fun _ _ _ => trivial)) (0, 0)
                    replace hw := hw.alloc hw.size (.cells #[.slice a2 n2 c2] 22)
                    clear hown hbP
                    refine hK.out _ _ hw ?_
                    clear hK K
                    try simp only [Act.put, List.setIfInBounds_toArray, List.set_cons_succ, List.set_cons_zero]
                    generalize Wn3.alloc (.cells #[.slice a2 n2 c2] 22) = Wn4 at hpc hw ⊢
                    generalize Wn3.heap.size = gp at hpc ⊢
                    refine anyG_two (i := 8) (j := 12) rfl rfl (by kernel_rfl) rfl rfl (fun K hK => ?_) (fun K hK => ?_)
                    · have hbw := HY.out _ (HW9.out.trans (hw.mono HW9.out.size))
                      have htold := told_any N (.slice aa A.length ca) (.slice aB B.length cB) (.slice ac cuts.length cc) _ A B (x ++ y) cuts _ (HT.out _ hbw) (HA.out _ hbw) (HB.out _ hbw) (hpc.mono (fun k hk _ => hk)) ((HC.out _ hbw).mono (fun k hk _ => hk)) hE hok (by omega) (by omega) (by simp; omega) (by omega)
                      unfold Pm.parV at htold
                      go_simp
                      refine htold.mono ?_
                      clear htold hpc hbw
                      rintro e w12 ⟨rfl, hb12⟩
                      obtain ⟨D3, hD⟩ : ∃ D, D = drive (turnF N A B) [⟨x ++ y, true, 0, 0, 0⟩] cuts 100000 0 (start (turnF N A B) (turnI N A B)) := ⟨_, rfl⟩
                      rw [← hD]
                      obtain ⟨o0, ofine⟩ := turn_whole N A B (x ++ y) cuts hok (by simp; omega) D3 hD
                      rw [ofine]
                      obtain ⟨X0, X1, X2, X3, e0, -, -, -, hlit⟩ := got_lit D3.got
                      rw [o0] at e0
                      have hone := one_gotA D3.got
                      rw [hlit] at hone ⊢
                      have hq : X0 = U0 ++ V0 := by
                        have h := strV_add HU.out HV.out
                        rw [← turnL_append, e0] at h
                        injection h
                      subst hq
                      replace hw := hw.trans (hb12.mono hw.size)
                      clear hb12 hD o0 ofine e0 hlit
                      refine hK.out _ _ hw ?_
                      clear hK K
                      try simp only [Act.put, List.setIfInBounds_toArray, List.set_cons_succ, List.set_cons_zero]
                      refine anyG_take (i := 9) 54 (.tuple #[.agg #[.string (U0 ++ V0), .string X1, .string X2, .string X3, .int .i64 D3.got.need, .int .i64 D3.got.err, .int .i64 D3.got.held, .int .i64 (D3.got.taken 0), .int .i64 (D3.got.taken 1), .int .i64 (D3.got.taken 2), .int .i64 (D3.got.taken 3), .bool false], .bool true]) rfl rfl (by kernel_rfl) (by kernel_rfl) (by kernel_rfl) rfl (fun _ _ => by go_simp) hw ?_
                      try simp only [Act.put, List.setIfInBounds_toArray, List.set_cons_succ, List.set_cons_zero]
                      refine anyG_take (i := 10) 64 (.agg #[.string (U0 ++ V0), .string X1, .string X2, .string X3, .int .i64 D3.got.need, .int .i64 D3.got.err, .int .i64 D3.got.held, .int .i64 (D3.got.taken 0), .int .i64 (D3.got.taken 1), .int .i64 (D3.got.taken 2), .int .i64 (D3.got.taken 3), .bool false]) rfl rfl (by kernel_rfl) (by kernel_rfl) (by kernel_rfl) rfl (fun _ _ => by go_simp) hw ?_
                      try simp only [Act.put, List.setIfInBounds_toArray, List.set_cons_succ, List.set_cons_zero]
                      refine anyG_take (i := 11) 65 (.bool true) rfl rfl (by kernel_rfl) (by kernel_rfl) (by kernel_rfl) rfl (fun _ _ => by go_simp) hw ?_
                      try simp only [Act.put, List.setIfInBounds_toArray, List.set_cons_succ, List.set_cons_zero]
                      refine anyG_step (i := 12) rfl (by kernel_rfl) rfl (fun K hK => ?_)
                      go_simp
                      have hz := heap_alloc_last w12 (.cells #[.string { data := #[] }, .string { data := #[] }, .string { data := #[] }, .string { data := #[] }, .int .i64 0, .int .i64 0, .int .i64 0, .int .i64 0, .int .i64 0, .int .i64 0, .int .i64 0, .bool false] 42)
                      have hzg : W9.heap.size ≤ w12.heap.size := hw.size
                      have hzl : w12.heap.size < (w12.alloc (.cells #[.string { data := #[] }, .string { data := #[] }, .string { data := #[] }, .string { data := #[] }, .int .i64 0, .int .i64 0, .int .i64 0, .int .i64 0, .int .i64 0, .int .i64 0, .int .i64 0, .bool false] 42)).heap.size := by simp
                      replace hw := hw.alloc hw.size (.cells #[.string { data := #[] }, .string { data := #[] }, .string { data := #[] }, .string { data := #[] }, .int .i64 0, .int .i64 0, .int .i64 0, .int .i64 0, .int .i64 0, .int .i64 0, .int .i64 0, .bool false] 42)
                      refine hK.out _ _ hw ?_
                      clear hK K
                      try simp only [Act.put, List.setIfInBounds_toArray, List.set_cons_succ, List.set_cons_zero]
                      generalize w12.alloc (.cells #[.string { data := #[] }, .string { data := #[] }, .string { data := #[] }, .string { data := #[] }, .int .i64 0, .int .i64 0, .int .i64 0, .int .i64 0, .int .i64 0, .int .i64 0, .int .i64 0, .bool false] 42) = Wn5 at hz hzl hw ⊢
                      generalize w12.heap.size = gz at hz hzg hzl ⊢
                      refine anyG_one (i := 13) rfl (by kernel_rfl) rfl ?_
                      refine wp_store_row 42 (.tmp 13) (.tmp 64) rfl gz (#[.string (U0 ++ V0), .string X1, .string X2, .string X3, .int .i64 D3.got.need, .int .i64 D3.got.err, .int .i64 D3.got.held, .int .i64 (D3.got.taken 0), .int .i64 (D3.got.taken 1), .int .i64 (D3.got.taken 2), .int .i64 (D3.got.taken 3), .bool false]) rfl rfl 42 (gotA zeroG) hz (by rw [Tryd.size_got]; rfl) rfl hone ?_
                      have hr := setRow_heap Wn5 gz (gotA zeroG) (#[.string (U0 ++ V0), .string X1, .string X2, .string X3, .int .i64 D3.got.need, .int .i64 D3.got.err, .int .i64 D3.got.held, .int .i64 (D3.got.taken 0), .int .i64 (D3.got.taken 1), .int .i64 (D3.got.taken 2), .int .i64 (D3.got.taken 3), .bool false]) _ _ hz
                      replace hw : Below W9.heap.size W9 (Wn5.setRow gz (#[.string (U0 ++ V0), .string X1, .string X2, .string X3, .int .i64 D3.got.need, .int .i64 D3.got.err, .int .i64 D3.got.held, .int .i64 (D3.got.taken 0), .int .i64 (D3.got.taken 1), .int .i64 (D3.got.taken 2), .int .i64 (D3.got.taken 3), .bool false])) := hw.trans ⟨rfl, rfl, rfl, by simp, fun j hj => setRow_other _ _ _ _ (by omega)⟩
                      refine ⟨hw, ?_⟩
                      generalize Wn5.setRow gz (#[.string (U0 ++ V0), .string X1, .string X2, .string X3, .int .i64 D3.got.need, .int .i64 D3.got.err, .int .i64 D3.got.held, .int .i64 (D3.got.taken 0), .int .i64 (D3.got.taken 1), .int .i64 (D3.got.taken 2), .int .i64 (D3.got.taken 3), .bool false]) = Wz at hr hw ⊢
                      refine anyG_step (i := 14) rfl (by kernel_rfl) rfl (fun K hK => ?_)
                      go_simp
                      refine hK.out _ _ hw ?_
                      clear hK K
                      try simp only [Act.put, List.setIfInBounds_toArray, List.set_cons_succ, List.set_cons_zero]
                      refine anyG_done (by kernel_rfl) ?_
                      go_wp2_with fail
                      go_meet
                      case rel => exact ⟨gz, rfl, rfl, by rw [cell_of_row _ _ _ _ _ _ hr]; rfl, hw⟩
                    · go_simp
                      have hz := heap_alloc_last Wn4 (.cells #[.string { data := #[] }, .string { data := #[] }, .string { data := #[] }, .string { data := #[] }, .int .i64 0, .int .i64 0, .int .i64 0, .int .i64 0, .int .i64 0, .int .i64 0, .int .i64 0, .bool false] 42)
                      have hzg : W9.heap.size ≤ Wn4.heap.size := hw.size
                      have hzl : Wn4.heap.size < (Wn4.alloc (.cells #[.string { data := #[] }, .string { data := #[] }, .string { data := #[] }, .string { data := #[] }, .int .i64 0, .int .i64 0, .int .i64 0, .int .i64 0, .int .i64 0, .int .i64 0, .int .i64 0, .bool false] 42)).heap.size := by simp
                      replace hpc := hpc.below ((Below.refl Wn4.heap.size Wn4).alloc (Nat.le_refl _) (.cells #[.string { data := #[] }, .string { data := #[] }, .string { data := #[] }, .string { data := #[] }, .int .i64 0, .int .i64 0, .int .i64 0, .int .i64 0, .int .i64 0, .int .i64 0, .int .i64 0, .bool false] 42))
                      replace hw := hw.alloc hw.size (.cells #[.string { data := #[] }, .string { data := #[] }, .string { data := #[] }, .string { data := #[] }, .int .i64 0, .int .i64 0, .int .i64 0, .int .i64 0, .int .i64 0, .int .i64 0, .int .i64 0, .bool false] 42)
                      refine hK.out _ _ hw ?_
                      clear hK K
                      try simp only [Act.put, List.setIfInBounds_toArray, List.set_cons_succ, List.set_cons_zero]
                      generalize Wn4.alloc (.cells #[.string { data := #[] }, .string { data := #[] }, .string { data := #[] }, .string { data := #[] }, .int .i64 0, .int .i64 0, .int .i64 0, .int .i64 0, .int .i64 0, .int .i64 0, .int .i64 0, .bool false] 42) = Wn6 at hz hzl hw hpc ⊢
                      generalize Wn4.heap.size = gz at hz hzg hzl ⊢
                      refine anyG_step (i := 8) rfl (by kernel_rfl) rfl (fun K hK => ?_)
                      have hbw := HY.out _ (HW9.out.trans (hw.mono HW9.out.size))
                      have htold := told_any N (.slice aa A.length ca) (.slice aB B.length cB) (.slice ac cuts.length cc) _ A B (x ++ y) cuts _ (HT.out _ hbw) (HA.out _ hbw) (HB.out _ hbw) (hpc.mono (fun k hk _ => hk)) ((HC.out _ hbw).mono (fun k hk _ => hk)) hE hok (by omega) (by omega) (by simp; omega) (by omega)
                      unfold Pm.parV at htold
                      go_simp
                      refine htold.mono ?_
                      clear htold hpc hbw
                      rintro e w12 ⟨rfl, hb12⟩
                      obtain ⟨D3, hD⟩ : ∃ D, D = drive (turnF N A B) [⟨x ++ y, true, 0, 0, 0⟩] cuts 100000 0 (start (turnF N A B) (turnI N A B)) := ⟨_, rfl⟩
                      rw [← hD]
                      obtain ⟨o0, ofine⟩ := turn_whole N A B (x ++ y) cuts hok (by simp; omega) D3 hD
                      rw [ofine]
                      obtain ⟨X0, X1, X2, X3, e0, -, -, -, hlit⟩ := got_lit D3.got
                      rw [o0] at e0
                      have hone := one_gotA D3.got
                      rw [hlit] at hone ⊢
                      have hq : X0 = U0 ++ V0 := by
                        have h := strV_add HU.out HV.out
                        rw [← turnL_append, e0] at h
                        injection h
                      subst hq
                      replace hz := zkeep hz (hb12.mono (Nat.le_refl _))
                      replace hzl := (Array.getElem?_eq_some_iff.1 hz).1
                      replace hw := hw.trans (hb12.mono hw.size)
                      clear hb12 hD o0 ofine e0 hlit
                      refine hK.out _ _ hw ?_
                      clear hK K
                      try simp only [Act.put, List.setIfInBounds_toArray, List.set_cons_succ, List.set_cons_zero]
                      refine anyG_take (i := 9) 54 (.tuple #[.agg #[.string (U0 ++ V0), .string X1, .string X2, .string X3, .int .i64 D3.got.need, .int .i64 D3.got.err, .int .i64 D3.got.held, .int .i64 (D3.got.taken 0), .int .i64 (D3.got.taken 1), .int .i64 (D3.got.taken 2), .int .i64 (D3.got.taken 3), .bool false], .bool true]) rfl rfl (by kernel_rfl) (by kernel_rfl) (by kernel_rfl) rfl (fun _ _ => by go_simp) hw ?_
                      try simp only [Act.put, List.setIfInBounds_toArray, List.set_cons_succ, List.set_cons_zero]
                      refine anyG_take (i := 10) 64 (.agg #[.string (U0 ++ V0), .string X1, .string X2, .string X3, .int .i64 D3.got.need, .int .i64 D3.got.err, .int .i64 D3.got.held, .int .i64 (D3.got.taken 0), .int .i64 (D3.got.taken 1), .int .i64 (D3.got.taken 2), .int .i64 (D3.got.taken 3), .bool false]) rfl rfl (by kernel_rfl) (by kernel_rfl) (by kernel_rfl) rfl (fun _ _ => by go_simp) hw ?_
                      try simp only [Act.put, List.setIfInBounds_toArray, List.set_cons_succ, List.set_cons_zero]
                      refine anyG_take (i := 11) 65 (.bool true) rfl rfl (by kernel_rfl) (by kernel_rfl) (by kernel_rfl) rfl (fun _ _ => by go_simp) hw ?_
                      try simp only [Act.put, List.setIfInBounds_toArray, List.set_cons_succ, List.set_cons_zero]
                      refine anyG_one (i := 13) rfl (by kernel_rfl) rfl ?_
                      refine wp_store_row 42 (.tmp 13) (.tmp 64) rfl gz (#[.string (U0 ++ V0), .string X1, .string X2, .string X3, .int .i64 D3.got.need, .int .i64 D3.got.err, .int .i64 D3.got.held, .int .i64 (D3.got.taken 0), .int .i64 (D3.got.taken 1), .int .i64 (D3.got.taken 2), .int .i64 (D3.got.taken 3), .bool false]) rfl rfl 42 (gotA zeroG) hz (by rw [Tryd.size_got]; rfl) rfl hone ?_
                      have hr := setRow_heap w12 gz (gotA zeroG) (#[.string (U0 ++ V0), .string X1, .string X2, .string X3, .int .i64 D3.got.need, .int .i64 D3.got.err, .int .i64 D3.got.held, .int .i64 (D3.got.taken 0), .int .i64 (D3.got.taken 1), .int .i64 (D3.got.taken 2), .int .i64 (D3.got.taken 3), .bool false]) _ _ hz
                      replace hw : Below W9.heap.size W9 (w12.setRow gz (#[.string (U0 ++ V0), .string X1, .string X2, .string X3, .int .i64 D3.got.need, .int .i64 D3.got.err, .int .i64 D3.got.held, .int .i64 (D3.got.taken 0), .int .i64 (D3.got.taken 1), .int .i64 (D3.got.taken 2), .int .i64 (D3.got.taken 3), .bool false])) := hw.trans ⟨rfl, rfl, rfl, by simp, fun j hj => setRow_other _ _ _ _ (by omega)⟩
                      refine ⟨hw, ?_⟩
                      generalize w12.setRow gz (#[.string (U0 ++ V0), .string X1, .string X2, .string X3, .int .i64 D3.got.need, .int .i64 D3.got.err, .int .i64 D3.got.held, .int .i64 (D3.got.taken 0), .int .i64 (D3.got.taken 1), .int .i64 (D3.got.taken 2), .int .i64 (D3.got.taken 3), .bool false]) = Wz at hr hw ⊢
                      refine anyG_step (i := 14) rfl (by kernel_rfl) rfl (fun K hK => ?_)
                      go_simp
                      refine hK.out _ _ hw ?_
                      clear hK K
                      try simp only [Act.put, List.setIfInBounds_toArray, List.set_cons_succ, List.set_cons_zero]
                      refine anyG_done (by kernel_rfl) ?_
                      go_wp2_with fail
                      go_meet
                      case rel => exact ⟨gz, rfl, rfl, by rw [cell_of_row _ _ _ _ _ _ hr]; rfl, hw⟩
                  · go_simp
                    have hz := heap_alloc_last Wn3 (.cells #[.string { data := #[] }, .string { data := #[] }, .string { data := #[] }, .string { data := #[] }, .int .i64 0, .int .i64 0, .int .i64 0, .int .i64 0, .int .i64 0, .int .i64 0, .int .i64 0, .bool false] 42)
                    have hzg : W9.heap.size ≤ Wn3.heap.size := hw.size
                    have hzl : Wn3.heap.size < (Wn3.alloc (.cells #[.string { data := #[] }, .string { data := #[] }, .string { data := #[] }, .string { data := #[] }, .int .i64 0, .int .i64 0, .int .i64 0, .int .i64 0, .int .i64 0, .int .i64 0, .int .i64 0, .bool false] 42)).heap.size := by simp
                    have hne : ∀ k, (Value.slice a2 n2 c2).ownBlock = some k → k ≠ Wn3.heap.size := fun k e h => by have := (hown.lt k e).2; omega
                    replace hown := hown.alloc (.cells #[.string { data := #[] }, .string { data := #[] }, .string { data := #[] }, .string { data := #[] }, .int .i64 0, .int .i64 0, .int .i64 0, .int .i64 0, .int .i64 0, .int .i64 0, .int .i64 0, .bool false] 42)
                    replace hw := hw.alloc hw.size (.cells #[.string { data := #[] }, .string { data := #[] }, .string { data := #[] }, .string { data := #[] }, .int .i64 0, .int .i64 0, .int .i64 0, .int .i64 0, .int .i64 0, .int .i64 0, .int .i64 0, .bool false] 42)
                    refine hK.out _ _ hw ?_
                    clear hK K
                    try simp only [Act.put, List.setIfInBounds_toArray, List.set_cons_succ, List.set_cons_zero]
                    generalize Wn3.alloc (.cells #[.string { data := #[] }, .string { data := #[] }, .string { data := #[] }, .string { data := #[] }, .int .i64 0, .int .i64 0, .int .i64 0, .int .i64 0, .int .i64 0, .int .i64 0, .int .i64 0, .bool false] 42) = Wn7 at hz hzl hw hown ⊢
                    generalize Wn3.heap.size = gz at hz hzg hzl hne ⊢
                    refine anyG_step (i := 7) rfl (by kernel_rfl) rfl (fun K hK => ?_)
                    go_simp
                    have hbP : Below Wn7.heap.size Wn7 (Wn7.alloc (.cells #[.slice a2 n2 c2] 22)) := (Below.refl _ _).alloc (Nat.le_refl _) _
                    have hpc := pieces_new Wn7 (.slice a2 n2 c2) (x ++ y) (fun _ => True) trivial ((isBytes_of_owns (b := x ++ y) (by rw [← HN2.out]; exact hown)).mono (fun _ _ _ => trivial)) (0, 0)
                    replace hz := zkeep hz hbP
                    replace hzl := (Array.getElem?_eq_some_iff.1 hz).1
                    clear hne
                    replace hw := hw.alloc hw.size (.cells #[.slice a2 n2 c2] 22)
                    clear hown hbP
                    refine hK.out _ _ hw ?_
                    clear hK K
                    try simp only [Act.put, List.setIfInBounds_toArray, List.set_cons_succ, List.set_cons_zero]
                    generalize Wn7.alloc (.cells #[.slice a2 n2 c2] 22) = Wn8 at hpc hw hz hzl ⊢
                    generalize Wn7.heap.size = gp at hpc ⊢
                    refine anyG_step (i := 8) rfl (by kernel_rfl) rfl (fun K hK => ?_)
                    have hbw := HY.out _ (HW9.out.trans (hw.mono HW9.out.size))
                    have htold := told_any N (.slice aa A.length ca) (.slice aB B.length cB) (.slice ac cuts.length cc) _ A B (x ++ y) cuts _ (HT.out _ hbw) (HA.out _ hbw) (HB.out _ hbw) (hpc.mono (fun k hk _ => hk)) ((HC.out _ hbw).mono (fun k hk _ => hk)) hE hok (by omega) (by omega) (by simp; omega) (by omega)
                    unfold Pm.parV at htold
                    go_simp
                    refine htold.mono ?_
                    clear htold hpc hbw
                    rintro e w12 ⟨rfl, hb12⟩
                    obtain ⟨D3, hD⟩ : ∃ D, D = drive (turnF N A B) [⟨x ++ y, true, 0, 0, 0⟩] cuts 100000 0 (start (turnF N A B) (turnI N A B)) := ⟨_, rfl⟩
                    rw [← hD]
                    obtain ⟨o0, ofine⟩ := turn_whole N A B (x ++ y) cuts hok (by simp; omega) D3 hD
                    rw [ofine]
                    obtain ⟨X0, X1, X2, X3, e0, -, -, -, hlit⟩ := got_lit D3.got
                    rw [o0] at e0
                    have hone := one_gotA D3.got
                    rw [hlit] at hone ⊢
                    have hq : X0 = U0 ++ V0 := by
                      have h := strV_add HU.out HV.out
                      rw [← turnL_append, e0] at h
                      injection h
                    subst hq
                    replace hz := zkeep hz (hb12.mono (Nat.le_refl _))
                    replace hzl := (Array.getElem?_eq_some_iff.1 hz).1
                    replace hw := hw.trans (hb12.mono hw.size)
                    clear hb12 hD o0 ofine e0 hlit
                    refine hK.out _ _ hw ?_
                    clear hK K
                    try simp only [Act.put, List.setIfInBounds_toArray, List.set_cons_succ, List.set_cons_zero]
                    refine anyG_take (i := 9) 54 (.tuple #[.agg #[.string (U0 ++ V0), .string X1, .string X2, .string X3, .int .i64 D3.got.need, .int .i64 D3.got.err, .int .i64 D3.got.held, .int .i64 (D3.got.taken 0), .int .i64 (D3.got.taken 1), .int .i64 (D3.got.taken 2), .int .i64 (D3.got.taken 3), .bool false], .bool true]) rfl rfl (by kernel_rfl) (by kernel_rfl) (by kernel_rfl) rfl (fun _ _ => by go_simp) hw ?_
                    try simp only [Act.put, List.setIfInBounds_toArray, List.set_cons_succ, List.set_cons_zero]
                    refine anyG_take (i := 10) 64 (.agg #[.string (U0 ++ V0), .string X1, .string X2, .string X3, .int .i64 D3.got.need, .int .i64 D3.got.err, .int .i64 D3.got.held, .int .i64 (D3.got.taken 0), .int .i64 (D3.got.taken 1), .int .i64 (D3.got.taken 2), .int .i64 (D3.got.taken 3), .bool false]) rfl rfl (by kernel_rfl) (by kernel_rfl) (by kernel_rfl) rfl (fun _ _ => by go_simp) hw ?_
                    try simp only [Act.put, List.setIfInBounds_toArray, List.set_cons_succ, List.set_cons_zero]
                    refine anyG_take (i := 11) 65 (.bool true) rfl rfl (by kernel_rfl) (by kernel_rfl) (by kernel_rfl) rfl (fun _ _ => by go_simp) hw ?_
                    try simp only [Act.put, List.setIfInBounds_toArray, List.set_cons_succ, List.set_cons_zero]
                    refine anyG_one (i := 13) rfl (by kernel_rfl) rfl ?_
                    refine wp_store_row 42 (.tmp 13) (.tmp 64) rfl gz (#[.string (U0 ++ V0), .string X1, .string X2, .string X3, .int .i64 D3.got.need, .int .i64 D3.got.err, .int .i64 D3.got.held, .int .i64 (D3.got.taken 0), .int .i64 (D3.got.taken 1), .int .i64 (D3.got.taken 2), .int .i64 (D3.got.taken 3), .bool false]) rfl rfl 42 (gotA zeroG) hz (by rw [Tryd.size_got]; rfl) rfl hone ?_
                    have hr := setRow_heap w12 gz (gotA zeroG) (#[.string (U0 ++ V0), .string X1, .string X2, .string X3, .int .i64 D3.got.need, .int .i64 D3.got.err, .int .i64 D3.got.held, .int .i64 (D3.got.taken 0), .int .i64 (D3.got.taken 1), .int .i64 (D3.got.taken 2), .int .i64 (D3.got.taken 3), .bool false]) _ _ hz
                    replace hw : Below W9.heap.size W9 (w12.setRow gz (#[.string (U0 ++ V0), .string X1, .string X2, .string X3, .int .i64 D3.got.need, .int .i64 D3.got.err, .int .i64 D3.got.held, .int .i64 (D3.got.taken 0), .int .i64 (D3.got.taken 1), .int .i64 (D3.got.taken 2), .int .i64 (D3.got.taken 3), .bool false])) := hw.trans ⟨rfl, rfl, rfl, by simp, fun j hj => setRow_other _ _ _ _ (by omega)⟩
                    refine ⟨hw, ?_⟩
                    generalize w12.setRow gz (#[.string (U0 ++ V0), .string X1, .string X2, .string X3, .int .i64 D3.got.need, .int .i64 D3.got.err, .int .i64 D3.got.held, .int .i64 (D3.got.taken 0), .int .i64 (D3.got.taken 1), .int .i64 (D3.got.taken 2), .int .i64 (D3.got.taken 3), .bool false]) = Wz at hr hw ⊢
                    refine anyG_step (i := 14) rfl (by kernel_rfl) rfl (fun K hK => ?_)
                    go_simp
                    refine hK.out _ _ hw ?_
                    clear hK K
                    try simp only [Act.put, List.setIfInBounds_toArray, List.set_cons_succ, List.set_cons_zero]
                    refine anyG_done (by kernel_rfl) ?_
                    go_wp2_with fail
                    go_meet
                    case rel => exact ⟨gz, rfl, rfl, by rw [cell_of_row _ _ _ _ _ _ hr]; rfl, hw⟩
                · go_simp
                  have hz := heap_alloc_last Wn2 (.cells #[.string { data := #[] }, .string { data := #[] }, .string { data := #[] }, .string { data := #[] }, .int .i64 0, .int .i64 0, .int .i64 0, .int .i64 0, .int .i64 0, .int .i64 0, .int .i64 0, .bool false] 42)
                  have hzg : W9.heap.size ≤ Wn2.heap.size := hw.size
                  have hzl : Wn2.heap.size < (Wn2.alloc (.cells #[.string { data := #[] }, .string { data := #[] }, .string { data := #[] }, .string { data := #[] }, .int .i64 0, .int .i64 0, .int .i64 0, .int .i64 0, .int .i64 0, .int .i64 0, .int .i64 0, .bool false] 42)).heap.size := by simp
                  have hne : ∀ k, (Value.slice a1 x.length c1).ownBlock = some k → k ≠ Wn2.heap.size := fun k e h => by have := (hown.lt k e).2; omega
                  replace hown := hown.alloc (.cells #[.string { data := #[] }, .string { data := #[] }, .string { data := #[] }, .string { data := #[] }, .int .i64 0, .int .i64 0, .int .i64 0, .int .i64 0, .int .i64 0, .int .i64 0, .int .i64 0, .bool false] 42)
                  replace hw := hw.alloc hw.size (.cells #[.string { data := #[] }, .string { data := #[] }, .string { data := #[] }, .string { data := #[] }, .int .i64 0, .int .i64 0, .int .i64 0, .int .i64 0, .int .i64 0, .int .i64 0, .int .i64 0, .bool false] 42)
                  refine hK.out _ _ hw ?_
                  clear hK K
                  try simp only [Act.put, List.setIfInBounds_toArray, List.set_cons_succ, List.set_cons_zero]
                  generalize Wn2.alloc (.cells #[.string { data := #[] }, .string { data := #[] }, .string { data := #[] }, .string { data := #[] }, .int .i64 0, .int .i64 0, .int .i64 0, .int .i64 0, .int .i64 0, .int .i64 0, .int .i64 0, .bool false] 42) = Wn9 at hz hzl hw hown ⊢
                  generalize Wn2.heap.size = gz at hz hzg hzl hne ⊢
                  refine anyG_step (i := 6) rfl (by kernel_rfl) rfl (fun K hK => ?_)
                  refine wp_append_more (.tmp 59) (.tmp 60) rfl W9.heap.size _ _ x y rfl hown rfl (HYy.out _ (HY.out _ (HW9.out.trans (hw.mono HW9.out.size)))) (by first | omega | (simp; omega)) hw.size 61 rfl ?_
                  intro v1 Wn10 hown1 hg1 hb1
                  have hw1 := owns_below_of hown hw hg1
                  have hz1 := ((Frame.refl (fun k => (Value.slice a1 x.length c1).ownBlock = some k) Wn9).grown hg1 (fun k _ e => e)).heap hz (fun e => hne _ e rfl)
                  have hne1 : ∀ k, v1.ownBlock = some k → k ≠ gz := fun k e h => by
                    rcases hb1 with q | q
                    · rw [q] at e; exact hne k e h
                    · rw [q] at e; have := Option.some.inj e; omega
                  have hzl1 := (Array.getElem?_eq_some_iff.1 hz1).1
                  clear hz hne hzl
                  clear hown hw hg1 hb1
                  obtain ⟨a2, c2, rfl⟩ := owns_slice hown1
                  have hown := hown1
                  have hw := hw1
                  have hz := hz1
                  have hne := hne1
                  have hzl := hzl1
                  clear hown1 hw1 hz1 hne1 hzl1
                  refine hK.out _ _ hw ?_
                  clear hK K
                  try simp only [Act.put, List.setIfInBounds_toArray, List.set_cons_succ, List.set_cons_zero]
                  rw [← HN2.out] at hown hne ⊢
                  refine anyG_step (i := 7) rfl (by kernel_rfl) rfl (fun K hK => ?_)
                  go_simp
                  have hbP : Below Wn10.heap.size Wn10 (Wn10.alloc (.cells #[.slice a2 n2 c2] 22)) := (Below.refl _ _).alloc (Nat.le_refl _) _
                  have hpc := pieces_new Wn10 (.slice a2 n2 c2) (x ++ y) (fun _ => True) trivial ((isBytes_of_owns (b := x ++ y) (by rw [← HN2.out]; exact hown)).mono (fun _ _ _ => trivial)) (0, 0)
                  replace hz := zkeep hz hbP
                  replace hzl := (Array.getElem?_eq_some_iff.1 hz).1
                  clear hne
                  replace hw := hw.alloc hw.size (.cells #[.slice a2 n2 c2] 22)
                  clear hown hbP
                  refine hK.out _ _ hw ?_
                  clear hK K
                  try simp only [Act.put, List.setIfInBounds_toArray, List.set_cons_succ, List.set_cons_zero]
                  generalize Wn10.alloc (.cells #[.slice a2 n2 c2] 22) = Wn11 at hpc hw hz hzl ⊢
                  generalize Wn10.heap.size = gp at hpc ⊢
                  refine anyG_step (i := 8) rfl (by kernel_rfl) rfl (fun K hK => ?_)
                  have hbw := HY.out _ (HW9.out.trans (hw.mono HW9.out.size))
                  have htold := told_any N (.slice aa A.length ca) (.slice aB B.length cB) (.slice ac cuts.length cc) _ A B (x ++ y) cuts _ (HT.out _ hbw) (HA.out _ hbw) (HB.out _ hbw) (hpc.mono (fun k hk _ => hk)) ((HC.out _ hbw).mono (fun k hk _ => hk)) hE hok (by omega) (by omega) (by simp; omega) (by omega)
                  unfold Pm.parV at htold
                  go_simp
                  refine htold.mono ?_
                  clear htold hpc hbw
                  rintro e w12 ⟨rfl, hb12⟩
                  obtain ⟨D3, hD⟩ : ∃ D, D = drive (turnF N A B) [⟨x ++ y, true, 0, 0, 0⟩] cuts 100000 0 (start (turnF N A B) (turnI N A B)) := ⟨_, rfl⟩
                  rw [← hD]
                  obtain ⟨o0, ofine⟩ := turn_whole N A B (x ++ y) cuts hok (by simp; omega) D3 hD
                  rw [ofine]
                  obtain ⟨X0, X1, X2, X3, e0, -, -, -, hlit⟩ := got_lit D3.got
                  rw [o0] at e0
                  have hone := one_gotA D3.got
                  rw [hlit] at hone ⊢
                  have hq : X0 = U0 ++ V0 := by
                    have h := strV_add HU.out HV.out
                    rw [← turnL_append, e0] at h
                    injection h
                  subst hq
                  replace hz := zkeep hz (hb12.mono (Nat.le_refl _))
                  replace hzl := (Array.getElem?_eq_some_iff.1 hz).1
                  replace hw := hw.trans (hb12.mono hw.size)
                  clear hb12 hD o0 ofine e0 hlit
                  refine hK.out _ _ hw ?_
                  clear hK K
                  try simp only [Act.put, List.setIfInBounds_toArray, List.set_cons_succ, List.set_cons_zero]
                  refine anyG_take (i := 9) 54 (.tuple #[.agg #[.string (U0 ++ V0), .string X1, .string X2, .string X3, .int .i64 D3.got.need, .int .i64 D3.got.err, .int .i64 D3.got.held, .int .i64 (D3.got.taken 0), .int .i64 (D3.got.taken 1), .int .i64 (D3.got.taken 2), .int .i64 (D3.got.taken 3), .bool false], .bool true]) rfl rfl (by kernel_rfl) (by kernel_rfl) (by kernel_rfl) rfl (fun _ _ => by go_simp) hw ?_
                  try simp only [Act.put, List.setIfInBounds_toArray, List.set_cons_succ, List.set_cons_zero]
                  refine anyG_take (i := 10) 64 (.agg #[.string (U0 ++ V0), .string X1, .string X2, .string X3, .int .i64 D3.got.need, .int .i64 D3.got.err, .int .i64 D3.got.held, .int .i64 (D3.got.taken 0), .int .i64 (D3.got.taken 1), .int .i64 (D3.got.taken 2), .int .i64 (D3.got.taken 3), .bool false]) rfl rfl (by kernel_rfl) (by kernel_rfl) (by kernel_rfl) rfl (fun _ _ => by go_simp) hw ?_
                  try simp only [Act.put, List.setIfInBounds_toArray, List.set_cons_succ, List.set_cons_zero]
                  refine anyG_take (i := 11) 65 (.bool true) rfl rfl (by kernel_rfl) (by kernel_rfl) (by kernel_rfl) rfl (fun _ _ => by go_simp) hw ?_
                  try simp only [Act.put, List.setIfInBounds_toArray, List.set_cons_succ, List.set_cons_zero]
                  refine anyG_one (i := 13) rfl (by kernel_rfl) rfl ?_
                  refine wp_store_row 42 (.tmp 13) (.tmp 64) rfl gz (#[.string (U0 ++ V0), .string X1, .string X2, .string X3, .int .i64 D3.got.need, .int .i64 D3.got.err, .int .i64 D3.got.held, .int .i64 (D3.got.taken 0), .int .i64 (D3.got.taken 1), .int .i64 (D3.got.taken 2), .int .i64 (D3.got.taken 3), .bool false]) rfl rfl 42 (gotA zeroG) hz (by rw [Tryd.size_got]; rfl) rfl hone ?_
                  have hr := setRow_heap w12 gz (gotA zeroG) (#[.string (U0 ++ V0), .string X1, .string X2, .string X3, .int .i64 D3.got.need, .int .i64 D3.got.err, .int .i64 D3.got.held, .int .i64 (D3.got.taken 0), .int .i64 (D3.got.taken 1), .int .i64 (D3.got.taken 2), .int .i64 (D3.got.taken 3), .bool false]) _ _ hz
                  replace hw : Below W9.heap.size W9 (w12.setRow gz (#[.string (U0 ++ V0), .string X1, .string X2, .string X3, .int .i64 D3.got.need, .int .i64 D3.got.err, .int .i64 D3.got.held, .int .i64 (D3.got.taken 0), .int .i64 (D3.got.taken 1), .int .i64 (D3.got.taken 2), .int .i64 (D3.got.taken 3), .bool false])) := hw.trans ⟨rfl, rfl, rfl, by simp, fun j hj => setRow_other _ _ _ _ (by omega)⟩
                  refine ⟨hw, ?_⟩
                  generalize w12.setRow gz (#[.string (U0 ++ V0), .string X1, .string X2, .string X3, .int .i64 D3.got.need, .int .i64 D3.got.err, .int .i64 D3.got.held, .int .i64 (D3.got.taken 0), .int .i64 (D3.got.taken 1), .int .i64 (D3.got.taken 2), .int .i64 (D3.got.taken 3), .bool false]) = Wz at hr hw ⊢
                  refine anyG_step (i := 14) rfl (by kernel_rfl) rfl (fun K hK => ?_)
                  go_simp
                  refine hK.out _ _ hw ?_
                  clear hK K
                  try simp only [Act.put, List.setIfInBounds_toArray, List.set_cons_succ, List.set_cons_zero]
                  refine anyG_done (by kernel_rfl) ?_
                  go_wp2_with fail
                  go_meet
                  case rel => exact ⟨gz, rfl, rfl, by rw [cell_of_row _ _ _ _ _ _ hr]; rfl, hw⟩
              · go_simp
                have hz := heap_alloc_last Wn1 (.cells #[.string { data := #[] }, .string { data := #[] }, .string { data := #[] }, .string { data := #[] }, .int .i64 0, .int .i64 0, .int .i64 0, .int .i64 0, .int .i64 0, .int .i64 0, .int .i64 0, .bool false] 42)
                have hzg : W9.heap.size ≤ Wn1.heap.size := hw.size
                have hzl : Wn1.heap.size < (Wn1.alloc (.cells #[.string { data := #[] }, .string { data := #[] }, .string { data := #[] }, .string { data := #[] }, .int .i64 0, .int .i64 0, .int .i64 0, .int .i64 0, .int .i64 0, .int .i64 0, .int .i64 0, .bool false] 42)).heap.size := by simp
                have hne : ∀ k, (Value.slice (some ⟨G1, 0, none⟩) 0 0).ownBlock = some k → k ≠ Wn1.heap.size := fun k e h => by have := (hown.lt k e).2; omega
                replace hown := hown.alloc (.cells #[.string { data := #[] }, .string { data := #[] }, .string { data := #[] }, .string { data := #[] }, .int .i64 0, .int .i64 0, .int .i64 0, .int .i64 0, .int .i64 0, .int .i64 0, .int .i64 0, .bool false] 42)
                replace hw := hw.alloc hw.size (.cells #[.string { data := #[] }, .string { data := #[] }, .string { data := #[] }, .string { data := #[] }, .int .i64 0, .int .i64 0, .int .i64 0, .int .i64 0, .int .i64 0, .int .i64 0, .int .i64 0, .bool false] 42)
                refine hK.out _ _ hw ?_
                clear hK K
                try simp only [Act.put, List.setIfInBounds_toArray, List.set_cons_succ, List.set_cons_zero]
                generalize Wn1.alloc (.cells #[.string { data := #[] }, .string { data := #[] }, .string { data := #[] }, .string { data := #[] }, .int .i64 0, .int .i64 0, .int .i64 0, .int .i64 0, .int .i64 0, .int .i64 0, .int .i64 0, .bool false] 42) = Wn12 at hz hzl hw hown ⊢
                generalize Wn1.heap.size = gz at hz hzg hzl hne ⊢
                refine anyG_step (i := 4) rfl (by kernel_rfl) rfl (fun K hK => ?_)
                refine wp_append_more (.tmp 57) (.tmp 58) rfl W9.heap.size _ _ [] x rfl hown rfl (HX.out _ (HY.out _ (HW9.out.trans (hw.mono HW9.out.size)))) (by first | omega | (simp; omega)) hw.size 59 rfl ?_
                intro v1 Wn13 hown1 hg1 hb1
                have hw1 := owns_below_of hown hw hg1
                have hz1 := ((Frame.refl (fun k => (Value.slice (some ⟨G1, 0, none⟩) 0 0).ownBlock = some k) Wn12).grown hg1 (fun k _ e => e)).heap hz (fun e => hne _ e rfl)
                have hne1 : ∀ k, v1.ownBlock = some k → k ≠ gz := fun k e h => by
                  rcases hb1 with q | q
                  · rw [q] at e; exact hne k e h
                  · rw [q] at e; have := Option.some.inj e; omega
                have hzl1 := (Array.getElem?_eq_some_iff.1 hz1).1
                clear hz hne hzl
                clear hown hw hg1 hb1
                obtain ⟨a1, c1, rfl⟩ := owns_slice hown1
                have hown := hown1
                have hw := hw1
                have hz := hz1
                have hne := hne1
                have hzl := hzl1
                clear hown1 hw1 hz1 hne1 hzl1
                refine hK.out _ _ hw ?_
                clear hK K
                try simp only [Act.put, List.setIfInBounds_toArray, List.set_cons_succ, List.set_cons_zero]
                refine anyG_step (i := 6) rfl (by kernel_rfl) rfl (fun K hK => ?_)
                refine wp_append_more (.tmp 59) (.tmp 60) rfl W9.heap.size _ _ x y rfl hown rfl (HYy.out _ (HY.out _ (HW9.out.trans (hw.mono HW9.out.size)))) (by first | omega | (simp; omega)) hw.size 61 rfl ?_
                intro v1 Wn14 hown1 hg1 hb1
                have hw1 := owns_below_of hown hw hg1
                have hz1 := ((Frame.refl (fun k => (Value.slice a1 x.length c1).ownBlock = some k) Wn13).grown hg1 (fun k _ e => e)).heap hz (fun e => hne _ e rfl)
                have hne1 : ∀ k, v1.ownBlock = some k → k ≠ gz := fun k e h => by
                  rcases hb1 with q | q
                  · rw [q] at e; exact hne k e h
                  · rw [q] at e; have := Option.some.inj e; omega
                have hzl1 := (Array.getElem?_eq_some_iff.1 hz1).1
                clear hz hne hzl
                clear hown hw hg1 hb1
                obtain ⟨a2, c2, rfl⟩ := owns_slice hown1
                have hown := hown1
                have hw := hw1
                have hz := hz1
                have hne := hne1
                have hzl := hzl1
                clear hown1 hw1 hz1 hne1 hzl1
                refine hK.out _ _ hw ?_
                clear hK K
                try simp only [Act.put, List.setIfInBounds_toArray, List.set_cons_succ, List.set_cons_zero]
                rw [← HN2.out] at hown hne ⊢
                refine anyG_step (i := 7) rfl (by kernel_rfl) rfl (fun K hK => ?_)
                go_simp
                have hbP : Below Wn14.heap.size Wn14 (Wn14.alloc (.cells #[.slice a2 n2 c2] 22)) := (Below.refl _ _).alloc (Nat.le_refl _) _
                have hpc := pieces_new Wn14 (.slice a2 n2 c2) (x ++ y) (fun _ => True) trivial ((isBytes_of_owns (b := x ++ y) (by rw [← HN2.out]; exact hown)).mono (fun _ _ _ => trivial)) (0, 0)
                replace hz := zkeep hz hbP
                replace hzl := (Array.getElem?_eq_some_iff.1 hz).1
                clear hne
                replace hw := hw.alloc hw.size (.cells #[.slice a2 n2 c2] 22)
                clear hown hbP
                refine hK.out _ _ hw ?_
                clear hK K
                try simp only [Act.put, List.setIfInBounds_toArray, List.set_cons_succ, List.set_cons_zero]
                generalize Wn14.alloc (.cells #[.slice a2 n2 c2] 22) = Wn15 at hpc hw hz hzl ⊢
                generalize Wn14.heap.size = gp at hpc ⊢
                refine anyG_step (i := 8) rfl (by kernel_rfl) rfl (fun K hK => ?_)
                have hbw := HY.out _ (HW9.out.trans (hw.mono HW9.out.size))
                have htold := told_any N (.slice aa A.length ca) (.slice aB B.length cB) (.slice ac cuts.length cc) _ A B (x ++ y) cuts _ (HT.out _ hbw) (HA.out _ hbw) (HB.out _ hbw) (hpc.mono (fun k hk _ => hk)) ((HC.out _ hbw).mono (fun k hk _ => hk)) hE hok (by omega) (by omega) (by simp; omega) (by omega)
                unfold Pm.parV at htold
                go_simp
                refine htold.mono ?_
                clear htold hpc hbw
                rintro e w12 ⟨rfl, hb12⟩
                obtain ⟨D3, hD⟩ : ∃ D, D = drive (turnF N A B) [⟨x ++ y, true, 0, 0, 0⟩] cuts 100000 0 (start (turnF N A B) (turnI N A B)) := ⟨_, rfl⟩
                rw [← hD]
                obtain ⟨o0, ofine⟩ := turn_whole N A B (x ++ y) cuts hok (by simp; omega) D3 hD
                rw [ofine]
                obtain ⟨X0, X1, X2, X3, e0, -, -, -, hlit⟩ := got_lit D3.got
                rw [o0] at e0
                have hone := one_gotA D3.got
                rw [hlit] at hone ⊢
                have hq : X0 = U0 ++ V0 := by
                  have h := strV_add HU.out HV.out
                  rw [← turnL_append, e0] at h
                  injection h
                subst hq
                replace hz := zkeep hz (hb12.mono (Nat.le_refl _))
                replace hzl := (Array.getElem?_eq_some_iff.1 hz).1
                replace hw := hw.trans (hb12.mono hw.size)
                clear hb12 hD o0 ofine e0 hlit
                refine hK.out _ _ hw ?_
                clear hK K
                try simp only [Act.put, List.setIfInBounds_toArray, List.set_cons_succ, List.set_cons_zero]
                refine anyG_take (i := 9) 54 (.tuple #[.agg #[.string (U0 ++ V0), .string X1, .string X2, .string X3, .int .i64 D3.got.need, .int .i64 D3.got.err, .int .i64 D3.got.held, .int .i64 (D3.got.taken 0), .int .i64 (D3.got.taken 1), .int .i64 (D3.got.taken 2), .int .i64 (D3.got.taken 3), .bool false], .bool true]) rfl rfl (by kernel_rfl) (by kernel_rfl) (by kernel_rfl) rfl (fun _ _ => by go_simp) hw ?_
                try simp only [Act.put, List.setIfInBounds_toArray, List.set_cons_succ, List.set_cons_zero]
                refine anyG_take (i := 10) 64 (.agg #[.string (U0 ++ V0), .string X1, .string X2, .string X3, .int .i64 D3.got.need, .int .i64 D3.got.err, .int .i64 D3.got.held, .int .i64 (D3.got.taken 0), .int .i64 (D3.got.taken 1), .int .i64 (D3.got.taken 2), .int .i64 (D3.got.taken 3), .bool false]) rfl rfl (by kernel_rfl) (by kernel_rfl) (by kernel_rfl) rfl (fun _ _ => by go_simp) hw ?_
                try simp only [Act.put, List.setIfInBounds_toArray, List.set_cons_succ, List.set_cons_zero]
                refine anyG_take (i := 11) 65 (.bool true) rfl rfl (by kernel_rfl) (by kernel_rfl) (by kernel_rfl) rfl (fun _ _ => by go_simp) hw ?_
                try simp only [Act.put, List.setIfInBounds_toArray, List.set_cons_succ, List.set_cons_zero]
                refine anyG_one (i := 13) rfl (by kernel_rfl) rfl ?_
                refine wp_store_row 42 (.tmp 13) (.tmp 64) rfl gz (#[.string (U0 ++ V0), .string X1, .string X2, .string X3, .int .i64 D3.got.need, .int .i64 D3.got.err, .int .i64 D3.got.held, .int .i64 (D3.got.taken 0), .int .i64 (D3.got.taken 1), .int .i64 (D3.got.taken 2), .int .i64 (D3.got.taken 3), .bool false]) rfl rfl 42 (gotA zeroG) hz (by rw [Tryd.size_got]; rfl) rfl hone ?_
                have hr := setRow_heap w12 gz (gotA zeroG) (#[.string (U0 ++ V0), .string X1, .string X2, .string X3, .int .i64 D3.got.need, .int .i64 D3.got.err, .int .i64 D3.got.held, .int .i64 (D3.got.taken 0), .int .i64 (D3.got.taken 1), .int .i64 (D3.got.taken 2), .int .i64 (D3.got.taken 3), .bool false]) _ _ hz
                replace hw : Below W9.heap.size W9 (w12.setRow gz (#[.string (U0 ++ V0), .string X1, .string X2, .string X3, .int .i64 D3.got.need, .int .i64 D3.got.err, .int .i64 D3.got.held, .int .i64 (D3.got.taken 0), .int .i64 (D3.got.taken 1), .int .i64 (D3.got.taken 2), .int .i64 (D3.got.taken 3), .bool false])) := hw.trans ⟨rfl, rfl, rfl, by simp, fun j hj => setRow_other _ _ _ _ (by omega)⟩
                refine ⟨hw, ?_⟩
                generalize w12.setRow gz (#[.string (U0 ++ V0), .string X1, .string X2, .string X3, .int .i64 D3.got.need, .int .i64 D3.got.err, .int .i64 D3.got.held, .int .i64 (D3.got.taken 0), .int .i64 (D3.got.taken 1), .int .i64 (D3.got.taken 2), .int .i64 (D3.got.taken 3), .bool false]) = Wz at hr hw ⊢
                refine anyG_step (i := 14) rfl (by kernel_rfl) rfl (fun K hK => ?_)
                go_simp
                refine hK.out _ _ hw ?_
                clear hK K
                try simp only [Act.put, List.setIfInBounds_toArray, List.set_cons_succ, List.set_cons_zero]
                refine anyG_done (by kernel_rfl) ?_
                go_wp2_with fail
                go_meet
                case rel => exact ⟨gz, rfl, rfl, by rw [cell_of_row _ _ _ _ _ _ hr]; rfl, hw⟩
            · go_simp
              have hz := heap_alloc_last Wn0 (.cells #[.string { data := #[] }, .string { data := #[] }, .string { data := #[] }, .string { data := #[] }, .int .i64 0, .int .i64 0, .int .i64 0, .int .i64 0, .int .i64 0, .int .i64 0, .int .i64 0, .bool false] 42)
              have hzg : W9.heap.size ≤ Wn0.heap.size := hw.size
              have hzl : Wn0.heap.size < (Wn0.alloc (.cells #[.string { data := #[] }, .string { data := #[] }, .string { data := #[] }, .string { data := #[] }, .int .i64 0, .int .i64 0, .int .i64 0, .int .i64 0, .int .i64 0, .int .i64 0, .int .i64 0, .bool false] 42)).heap.size := by simp
              replace hw := hw.alloc hw.size (.cells #[.string { data := #[] }, .string { data := #[] }, .string { data := #[] }, .string { data := #[] }, .int .i64 0, .int .i64 0, .int .i64 0, .int .i64 0, .int .i64 0, .int .i64 0, .int .i64 0, .bool false] 42)
              refine hK.out _ _ hw ?_
              clear hK K
              try simp only [Act.put, List.setIfInBounds_toArray, List.set_cons_succ, List.set_cons_zero]
              generalize Wn0.alloc (.cells #[.string { data := #[] }, .string { data := #[] }, .string { data := #[] }, .string { data := #[] }, .int .i64 0, .int .i64 0, .int .i64 0, .int .i64 0, .int .i64 0, .int .i64 0, .int .i64 0, .bool false] 42) = Wn16 at hz hzl hw ⊢
              generalize Wn0.heap.size = gz at hz hzg hzl ⊢
              refine anyG_step (i := 2) rfl (by kernel_rfl) rfl (fun K hK => ?_)
              go_simp
              have hown := World.ownsRow_made (base := W9.heap.size) (e := 5) (size := 1) Wn16 #[] 0 hw.size (Nat.zero_le _) rfl
              replace hz := zkeep hz ((Below.refl Wn16.heap.size Wn16).alloc (Nat.le_refl _) (.cells #[] 5))
              have hne : ∀ k, (Value.slice (some ⟨Wn16.heap.size, 0, none⟩) 0 0).ownBlock = some k → k ≠ gz := fun k e h => by simp [Value.ownBlock] at e; omega
              replace hzl : gz < (Wn16.alloc (.cells #[] 5)).heap.size := by simp; omega
              replace hw := hw.alloc hw.size (.cells #[] 5)
              refine hK.out _ _ hw ?_
              clear hK K
              try simp only [Act.put, List.setIfInBounds_toArray, List.set_cons_succ, List.set_cons_zero]
              generalize Wn16.alloc (.cells #[] 5) = Wn17 at hown hw hz hzl ⊢
              generalize Wn16.heap.size = G1 at hown hne ⊢
              refine anyG_step (i := 4) rfl (by kernel_rfl) rfl (fun K hK => ?_)
              refine wp_append_more (.tmp 57) (.tmp 58) rfl W9.heap.size _ _ [] x rfl hown rfl (HX.out _ (HY.out _ (HW9.out.trans (hw.mono HW9.out.size)))) (by first | omega | (simp; omega)) hw.size 59 rfl ?_
              intro v1 Wn18 hown1 hg1 hb1
              have hw1 := owns_below_of hown hw hg1
              have hz1 := ((Frame.refl (fun k => (Value.slice (some ⟨G1, 0, none⟩) 0 0).ownBlock = some k) Wn17).grown hg1 (fun k _ e => e)).heap hz (fun e => hne _ e rfl)
              have hne1 : ∀ k, v1.ownBlock = some k → k ≠ gz := fun k e h => by
                rcases hb1 with q | q
                · rw [q] at e; exact hne k e h
                · rw [q] at e; have := Option.some.inj e; omega
              have hzl1 := (Array.getElem?_eq_some_iff.1 hz1).1
              clear hz hne hzl
              clear hown hw hg1 hb1
              obtain ⟨a1, c1, rfl⟩ := owns_slice hown1
              have hown := hown1
              have hw := hw1
              have hz := hz1
              have hne := hne1
              have hzl := hzl1
              clear hown1 hw1 hz1 hne1 hzl1
              refine hK.out _ _ hw ?_
              clear hK K
              try simp only [Act.put, List.setIfInBounds_toArray, List.set_cons_succ, List.set_cons_zero]
              refine anyG_step (i := 6) rfl (by kernel_rfl) rfl (fun K hK => ?_)
              refine wp_append_more (.tmp 59) (.tmp 60) rfl W9.heap.size _ _ x y rfl hown rfl (HYy.out _ (HY.out _ (HW9.out.trans (hw.mono HW9.out.size)))) (by first | omega | (simp; omega)) hw.size 61 rfl ?_
              intro v1 Wn19 hown1 hg1 hb1
              have hw1 := owns_below_of hown hw hg1
              have hz1 := ((Frame.refl (fun k => (Value.slice a1 x.length c1).ownBlock = some k) Wn18).grown hg1 (fun k _ e => e)).heap hz (fun e => hne _ e rfl)
              have hne1 : ∀ k, v1.ownBlock = some k → k ≠ gz := fun k e h => by
                rcases hb1 with q | q
                · rw [q] at e; exact hne k e h
                · rw [q] at e; have := Option.some.inj e; omega
              have hzl1 := (Array.getElem?_eq_some_iff.1 hz1).1
              clear hz hne hzl
              clear hown hw hg1 hb1
              obtain ⟨a2, c2, rfl⟩ := owns_slice hown1
              have hown := hown1
              have hw := hw1
              have hz := hz1
              have hne := hne1
              have hzl := hzl1
              clear hown1 hw1 hz1 hne1 hzl1
              refine hK.out _ _ hw ?_
              clear hK K
              try simp only [Act.put, List.setIfInBounds_toArray, List.set_cons_succ, List.set_cons_zero]
              rw [← HN2.out] at hown hne ⊢
              refine anyG_step (i := 7) rfl (by kernel_rfl) rfl (fun K hK => ?_)
              go_simp
              have hbP : Below Wn19.heap.size Wn19 (Wn19.alloc (.cells #[.slice a2 n2 c2] 22)) := (Below.refl _ _).alloc (Nat.le_refl _) _
              have hpc := pieces_new Wn19 (.slice a2 n2 c2) (x ++ y) (fun _ => True) trivial ((isBytes_of_owns (b := x ++ y) (by rw [← HN2.out]; exact hown)).mono (fun _ _ _ => trivial)) (0, 0)
              replace hz := zkeep hz hbP
              replace hzl := (Array.getElem?_eq_some_iff.1 hz).1
              clear hne
              replace hw := hw.alloc hw.size (.cells #[.slice a2 n2 c2] 22)
              clear hown hbP
              refine hK.out _ _ hw ?_
              clear hK K
              try simp only [Act.put, List.setIfInBounds_toArray, List.set_cons_succ, List.set_cons_zero]
              generalize Wn19.alloc (.cells #[.slice a2 n2 c2] 22) = Wn20 at hpc hw hz hzl ⊢
              generalize Wn19.heap.size = gp at hpc ⊢
              refine anyG_step (i := 8) rfl (by kernel_rfl) rfl (fun K hK => ?_)
              have hbw := HY.out _ (HW9.out.trans (hw.mono HW9.out.size))
              have htold := told_any N (.slice aa A.length ca) (.slice aB B.length cB) (.slice ac cuts.length cc) _ A B (x ++ y) cuts _ (HT.out _ hbw) (HA.out _ hbw) (HB.out _ hbw) (hpc.mono (fun k hk _ => hk)) ((HC.out _ hbw).mono (fun k hk _ => hk)) hE hok (by omega) (by omega) (by simp; omega) (by omega)
              unfold Pm.parV at htold
              go_simp
              refine htold.mono ?_
              clear htold hpc hbw
              rintro e w12 ⟨rfl, hb12⟩
              obtain ⟨D3, hD⟩ : ∃ D, D = drive (turnF N A B) [⟨x ++ y, true, 0, 0, 0⟩] cuts 100000 0 (start (turnF N A B) (turnI N A B)) := ⟨_, rfl⟩
              rw [← hD]
              obtain ⟨o0, ofine⟩ := turn_whole N A B (x ++ y) cuts hok (by simp; omega) D3 hD
              rw [ofine]
              obtain ⟨X0, X1, X2, X3, e0, -, -, -, hlit⟩ := got_lit D3.got
              rw [o0] at e0
              have hone := one_gotA D3.got
              rw [hlit] at hone ⊢
              have hq : X0 = U0 ++ V0 := by
                have h := strV_add HU.out HV.out
                rw [← turnL_append, e0] at h
                injection h
              subst hq
              replace hz := zkeep hz (hb12.mono (Nat.le_refl _))
              replace hzl := (Array.getElem?_eq_some_iff.1 hz).1
              replace hw := hw.trans (hb12.mono hw.size)
              clear hb12 hD o0 ofine e0 hlit
              refine hK.out _ _ hw ?_
              clear hK K
              try simp only [Act.put, List.setIfInBounds_toArray, List.set_cons_succ, List.set_cons_zero]
              refine anyG_take (i := 9) 54 (.tuple #[.agg #[.string (U0 ++ V0), .string X1, .string X2, .string X3, .int .i64 D3.got.need, .int .i64 D3.got.err, .int .i64 D3.got.held, .int .i64 (D3.got.taken 0), .int .i64 (D3.got.taken 1), .int .i64 (D3.got.taken 2), .int .i64 (D3.got.taken 3), .bool false], .bool true]) rfl rfl (by kernel_rfl) (by kernel_rfl) (by kernel_rfl) rfl (fun _ _ => by go_simp) hw ?_
              try simp only [Act.put, List.setIfInBounds_toArray, List.set_cons_succ, List.set_cons_zero]
              refine anyG_take (i := 10) 64 (.agg #[.string (U0 ++ V0), .string X1, .string X2, .string X3, .int .i64 D3.got.need, .int .i64 D3.got.err, .int .i64 D3.got.held, .int .i64 (D3.got.taken 0), .int .i64 (D3.got.taken 1), .int .i64 (D3.got.taken 2), .int .i64 (D3.got.taken 3), .bool false]) rfl rfl (by kernel_rfl) (by kernel_rfl) (by kernel_rfl) rfl (fun _ _ => by go_simp) hw ?_
              try simp only [Act.put, List.setIfInBounds_toArray, List.set_cons_succ, List.set_cons_zero]
              refine anyG_take (i := 11) 65 (.bool true) rfl rfl (by kernel_rfl) (by kernel_rfl) (by kernel_rfl) rfl (fun _ _ => by go_simp) hw ?_
              try simp only [Act.put, List.setIfInBounds_toArray, List.set_cons_succ, List.set_cons_zero]
              refine anyG_one (i := 13) rfl (by kernel_rfl) rfl ?_
              refine wp_store_row 42 (.tmp 13) (.tmp 64) rfl gz (#[.string (U0 ++ V0), .string X1, .string X2, .string X3, .int .i64 D3.got.need, .int .i64 D3.got.err, .int .i64 D3.got.held, .int .i64 (D3.got.taken 0), .int .i64 (D3.got.taken 1), .int .i64 (D3.got.taken 2), .int .i64 (D3.got.taken 3), .bool false]) rfl rfl 42 (gotA zeroG) hz (by rw [Tryd.size_got]; rfl) rfl hone ?_
              have hr := setRow_heap w12 gz (gotA zeroG) (#[.string (U0 ++ V0), .string X1, .string X2, .string X3, .int .i64 D3.got.need, .int .i64 D3.got.err, .int .i64 D3.got.held, .int .i64 (D3.got.taken 0), .int .i64 (D3.got.taken 1), .int .i64 (D3.got.taken 2), .int .i64 (D3.got.taken 3), .bool false]) _ _ hz
              replace hw : Below W9.heap.size W9 (w12.setRow gz (#[.string (U0 ++ V0), .string X1, .string X2, .string X3, .int .i64 D3.got.need, .int .i64 D3.got.err, .int .i64 D3.got.held, .int .i64 (D3.got.taken 0), .int .i64 (D3.got.taken 1), .int .i64 (D3.got.taken 2), .int .i64 (D3.got.taken 3), .bool false])) := hw.trans ⟨rfl, rfl, rfl, by simp, fun j hj => setRow_other _ _ _ _ (by omega)⟩
              refine ⟨hw, ?_⟩
              generalize w12.setRow gz (#[.string (U0 ++ V0), .string X1, .string X2, .string X3, .int .i64 D3.got.need, .int .i64 D3.got.err, .int .i64 D3.got.held, .int .i64 (D3.got.taken 0), .int .i64 (D3.got.taken 1), .int .i64 (D3.got.taken 2), .int .i64 (D3.got.taken 3), .bool false]) = Wz at hr hw ⊢
              refine anyG_step (i := 14) rfl (by kernel_rfl) rfl (fun K hK => ?_)
              go_simp
              refine hK.out _ _ hw ?_
              clear hK K
              try simp only [Act.put, List.setIfInBounds_toArray, List.set_cons_succ, List.set_cons_zero]
              refine anyG_done (by kernel_rfl) ?_
              go_wp2_with fail
              go_meet
              case rel => exact ⟨gz, rfl, rfl, by rw [cell_of_row _ _ _ _ _ _ hr]; rfl, hw⟩
          case rest =>
            obtain ⟨gz, rfl, rfl, hg3, hbc⟩ := hcut
            have zU := strV_size HU.out
            have zV := strV_size HV.out
            have lU := turnL_le A B x
            have lV := turnL_le A B y
            have hb89 := (HLw9.out.trans (HKW9.out.mono HLw9.out.size)).trans (hbc.mono (HLw9.out.trans (HKW9.out.mono HLw9.out.size)).size)
            have kU := zkeep HRW8.out hb89
            have kV := zkeep HRW9.out hbc
            have HCs := Lib.hid (show ∀ W, Below wc.heap.size wc W → W.cell? ⟨w8.heap.size, 0, none⟩ = some (.string U0) ∧ W.cell? ⟨w9.heap.size, 0, none⟩ = some (.string V0) ∧ W.cell? ⟨gz, 0, none⟩ = some (.string (U0 ++ V0)) from fun W hb => ⟨by rw [cell_of_row _ _ _ _ _ _ (zkeep kU hb)]; rfl, by rw [cell_of_row _ _ _ _ _ _ (zkeep kV hb)]; rfl, Pm.Below.cell hb hg3⟩)
            have HW0 := Lib.hid (HW9.out.trans (hbc.mono HW9.out.size))
            have HYc := Lib.hid (show ∀ W, Below wc.heap.size wc W → Below w.heap.size w W from fun W hb => HY.out _ (HW0.out.trans (hb.mono HW0.out.size)))
            have HX0c := Lib.hid (show ∀ W, Below wc.heap.size wc W → W.cell? ⟨w.heap.size, 2, none⟩ = some (.slice aa A.length ca) from fun W hb => (HX0.out _ (HW0.out.trans (hb.mono HW0.out.size))).2.2.1)
            clear hb89 kU kV hg3 hbc HLw8 HLw9 HKW8 HKW9 HRW8 HRW9 HSW8 HSW9 HW8 HW9 HWW HBw8 HBw9 HX0 HC HYy HB
            obtain ⟨k0, k1, k2⟩ := HCs.out _ (Below.refl _ _)
            have a1 := add_fits (S := U0) (T := V0) (by omega) (by omega)
            have q1 : ¬ (x.length : Int) < (U0.size : Int) := by omega
            go_wp2_with fail
            clear k0 k1 k2
            rename World => Wc
            go_loopw [15] (fun iv wr => ∃ i : Nat, iv = .int .i64 i ∧ i ≤ x.length ∧ Clean x A i ∧ Below Wc.heap.size Wc wr) (fun iv _ => x.length - (intOf iv).toNat)
            case atStart => exact ⟨0, rfl, Nat.zero_le _, (fun c hc => by simp at hc), Below.refl _ _⟩
            case round =>
              obtain ⟨i, rfl, hix, hcl, hbi⟩ := hrel
              have HCl := Lib.hid hcl
              have HBi := Lib.hid hbi
              clear hcl hbi
              by_cases hlt : i < x.length
              · obtain ⟨c, hc⟩ : ∃ c, x[i]? = some c := ⟨x[i]'hlt, List.getElem?_eq_getElem hlt⟩
                have HCc := Lib.hid hc
                have q2 : (i : Int) < (x.length : Int) := by omega
                have q3 : (0 : Int) ≤ (i : Int) := by omega
                clear hc
                rename World => Wi
                go_wp2_with fail
                go_loopw [16] (fun kv wr => ∃ m : Nat, kv = .int .i64 m ∧ m ≤ A.length ∧ c ∉ A.take m ∧ Below Wc.heap.size Wc wr) (fun kv _ => A.length - (intOf kv).toNat)
                case atStart => exact ⟨0, rfl, Nat.zero_le _, (fun h => by simp at h), HBi.out⟩
                case round =>
                  obtain ⟨m, rfl, hmA, hnm, hbm⟩ := hrel
                  have c2 := HX0c.out _ hbm
                  have HNm := Lib.hid hnm
                  have HBm := Lib.hid hbm
                  clear hnm hbm
                  by_cases hmt : m < A.length
                  · obtain ⟨d, hd⟩ : ∃ d, A[m]? = some d := ⟨A[m]'hmt, List.getElem?_eq_getElem hmt⟩
                    have HD := Lib.hid hd
                    have q4 : (m : Int) < (A.length : Int) := by omega
                    have q5 : (0 : Int) ≤ (m : Int) := by omega
                    clear hd
                    go_wp2_with fail
                    refine region_stillG (by kernel_rfl) (by kernel_rfl) ?_
                    have hbd := HBm.out.drew
                    generalize wr.drew = wd at hbd ⊢
                    have d2 := HX0c.out _ hbd
                    obtain ⟨_, _, e, -, hca⟩ := HA.out _ (HYc.out _ hbd)
                    cases e
                    obtain ⟨ga, fa, rfl, z2⟩ := hca m d HD.out
                    obtain ⟨_, _, e, -, hcx⟩ := HX.out _ (HYc.out _ hbd)
                    cases e
                    obtain ⟨gx, fx, rfl, -, z4⟩ := hcx i c HCc.out
                    clear hca hcx c2
                    repeat (refine stillG_step (fun K hK => ?_); go_simp; refine hK.out _ ?_; clear hK K)
                    refine stillG_nil ?_
                    have HBd := Lib.hid hbd
                    clear hbd d2 z2 z4
                    by_cases hdc : d = c
                    · have t1 : ((d.toNat : Int) == (c.toNat : Int)) = true := by simp [hdc]
                      clear hdc
                      go_wp2_with fail
                      refine (awake_true _ (HT.out _ (HYc.out _ HBd.out))).mono ?_
                      rintro e w2 ⟨rfl, hb2⟩
                      have hbz := (HYc.out _ HBd.out).trans (hb2.mono (HYc.out _ HBd.out).size)
                      go_wp2_with fail
                      go_ret
                      exact ⟨rfl, hbz⟩
                    · have t1 : ((d.toNat : Int) == (c.toNat : Int)) = false := by
                        simp
                        intro e
                        exact hdc (UInt8.toNat_inj.1 (by omega))
                      have HNn := Lib.hid (not_mem_next HNm.out HD.out hdc)
                      clear hdc
                      go_wp2_with fail
                      refine ⟨⟨m + 1, by go_num, by omega, HNn.out, HBd.out⟩, by simp [intOf]; omega⟩
                  · obtain rfl : m = A.length := by omega
                    have q4 : ¬ (A.length : Int) < (A.length : Int) := by omega
                    have hcA : c ∉ A := by have h := HNm.out; rwa [List.take_length] at h
                    have HNn := Lib.hid (HCl.out.next HCc.out hcA)
                    clear hcA
                    go_wp2_with fail
                    refine ⟨⟨i + 1, by go_num, by omega, HNn.out, HBm.out⟩, by simp [intOf]; omega⟩
              · obtain rfl : i = x.length := by omega
                have q2 : ¬ (x.length : Int) < (x.length : Int) := by omega
                have hsame : turnL A B x = x := turnL_none x (fun c hc => HCl.out c (by rw [List.take_length]; exact hc))
                have hU := HU.out
                rw [hsame] at hU
                have HU2 := Lib.hid hU
                clear hU hsame
                obtain ⟨k0, -, -⟩ := HCs.out _ HBi.out
                have kc := conv_any (HX.out _ (HYc.out _ HBi.out))
                rw [HU2.out] at kc
                go_wp2_with fail
                refine (awake_true _ (HT.out _ (HYc.out _ HBi.out))).mono ?_
                rintro e w2 ⟨rfl, hb2⟩
                have hbz := (HYc.out _ HBi.out).trans (hb2.mono (HYc.out _ HBi.out).size)
                clear kc k0
                go_wp2_with fail
                go_ret
                exact ⟨rfl, hbz⟩

end Go.Proofs.YtacmbjamnmpmoaaDoor
