/- TeeSame's walk. -/
import Derived.Test.YtdcaniidkaicdaaDoorTeeTold
import Derived.Test.YtdcaniidkaicdaaDoorSamemany
import Derived.Test.YtdcaniidkaicdaaDoorTakeskit
import Derived.Test.YtdcaniidkaicdaaDoorRA
import Derived.Deep.RegionHeld3
namespace Go.Proofs.YtdcaniidkaicdaaDoor
open Go.RowKit

theorem nil_strms (w : World) : IsStrms (· < w.heap.size) w (.slice none 0 0) [] := ⟨none, 0, rfl, fun j t h => by simp at h⟩
theorem tee_takeE (N : Nat) (h1 : 1 ≤ N) (h4 : N ≤ 4) : takeE 15 15 N [] [] = 0 := by
  obtain rfl | rfl | rfl | rfl : N = 1 ∨ N = 2 ∨ N = 3 ∨ N = 4 := by omega
  all_goals decide
theorem tee_told (N : Nat) (x : List UInt8) (cuts : List Int) (hok : teeOk N [] []) (hx : x.length ≤ 4000) (D : DS Bool) (hD : D = drive (teeF N [] []) [⟨x, true, 0, 0, 0⟩] cuts 100000 0 (start (teeF N [] []) (teeI N [] []))) :
    (∀ k, D.got.outs k = if k < N then x else []) ∧ (decide (D.got.err = 0) && decide (D.got.need = -1)) = true := by
  obtain ⟨d1, d2, d3⟩ := tee_drive N [] [] ⟨x, true, 0, 0, 0⟩ cuts hok hx
  rw [← hD] at d1 d2 d3
  have hm : min N 4 = N := Nat.min_eq_left hok.2
  refine ⟨fun k => by rw [d1]; show (if k < min N 4 then x else []) = _; rw [hm], ?_⟩
  rw [d2, d3]
  rfl

set_option maxRecDepth 100000 in
set_option maxHeartbeats 16000000 in
theorem sameLaw_any (n : Int) (xv cv : Value) (x : List UInt8) (cuts : List Int) (w : World) (hT : Pm.Tab w) (hX : IsBytes (· < w.heap.size) w xv x) (hC : IsInts (· < w.heap.size) w cv cuts) :
    Calls Tryd.prog 9 #[.int .i64 n, xv, cv] w (Pm.Gives w (.bool true)) := by
  have HT := Lib.hid (show ∀ W, Below w.heap.size w W → Pm.Tab W from fun W hb => hT.below hb)
  have HX := Lib.hid (show ∀ W, Below w.heap.size w W → IsBytes (· < w.heap.size) W xv x from fun W hb => hX.below hb)
  have HC := Lib.hid (show ∀ W, Below w.heap.size w W → IsInts (· < w.heap.size) W cv cuts from fun W hb => hC.below hb)
  obtain ⟨ax, cx, rfl, -, -⟩ := id hX
  obtain ⟨ac, cc, rfl, -⟩ := id hC
  clear hT hX hC
  go_enter Tryd.func9, Tryd.ntmps9
  obtain ⟨H, hH⟩ : ∃ H, H = heavyB [] [] [] [cuts] := ⟨_, rfl⟩
  have HH := Lib.hid hH
  clear hH
  go_wp2_with fail
  have hbox : Below w.heap.size w (w.alloc (.cells #[.int .i64 15, .int .i64 n, .slice none 0 0, .slice none 0 0] 24)) := (Below.refl _ _).alloc (Nat.le_refl _) _
  have hbx2 : Below w.heap.size w ((w.alloc (.cells #[.int .i64 15, .int .i64 n, .slice none 0 0, .slice none 0 0] 24)).alloc (.cells #[.slice ac cuts.length cc] 37)) := hbox.alloc (by simp) _
  have hcc := ints_list (w.alloc (.cells #[.int .i64 15, .int .i64 n, .slice none 0 0, .slice none 0 0] 24)) (.slice ac cuts.length cc) cuts (fun _ => True) trivial ((HC.out _ hbox).mono (fun _ _ _ => trivial)) (0, 0)
  rw [World.size_alloc] at hcc
  have hheavy := heavy_any 15 n (.slice none 0 0) (.slice none 0 0) (.slice none 0 0) _ [] [] [] [cuts] _ (pm_nil _) (pm_nil _) (nil_strms _) hcc (by simp)
  unfold Pm.parV at hheavy
  refine hheavy.mono ?_
  clear hheavy hcc
  rintro e w1 ⟨rfl, hb1⟩
  obtain ⟨c0, c1, c2, c3⟩ := box_cells (((Below.refl _ _).alloc (Nat.le_refl _) _).trans (hb1.mono (by simp)))
  have hb := hbx2.trans (hb1.mono hbx2.size)
  have HW := Lib.hid hb
  have HBX := Lib.hid (show ∀ W, Below w1.heap.size w1 W → W.cell? ⟨w.heap.size, 0, none⟩ = some (.int .i64 15) ∧ W.cell? ⟨w.heap.size, 1, none⟩ = some (.int .i64 n) ∧ W.cell? ⟨w.heap.size, 2, none⟩ = some (.slice none 0 0) ∧ W.cell? ⟨w.heap.size, 3, none⟩ = some (.slice none 0 0) from fun W hb => ⟨Pm.Below.cell hb c0, Pm.Below.cell hb c1, Pm.Below.cell hb c2, Pm.Below.cell hb c3⟩)
  clear hbox hbx2 hb1 hb c0 c1 c2 c3
  rw [← HH.out]
  cases H with
  | true =>
    go_wp2_with fail
    refine (awake_true _ (HT.out _ HW.out)).mono ?_
    rintro e w2 ⟨rfl, hb2⟩
    go_wp2_with fail
    go_ret
    exact ⟨rfl, HW.out.trans (hb2.mono HW.out.size)⟩
  | false =>
    obtain ⟨-, -, -, -, sC⟩ := heavy_no HH.out.symm
    have hcl := sC cuts (by simp)
    clear sC
    by_cases hx : (2000 : Int) < (x.length : Int)
    · go_wp2_with fail
      refine (awake_true _ (HT.out _ HW.out)).mono ?_
      rintro e w2 ⟨rfl, hb2⟩
      go_wp2_with fail
      go_ret
      exact ⟨rfl, HW.out.trans (hb2.mono HW.out.size)⟩
    by_cases h0 : n < 1
    · go_wp2_with fail
      refine (awake_true _ (HT.out _ HW.out)).mono ?_
      rintro e w2 ⟨rfl, hb2⟩
      go_wp2_with fail
      go_ret
      exact ⟨rfl, HW.out.trans (hb2.mono HW.out.size)⟩
    by_cases h9 : 4 < n
    · go_wp2_with fail
      refine (awake_true _ (HT.out _ HW.out)).mono ?_
      rintro e w2 ⟨rfl, hb2⟩
      go_wp2_with fail
      go_ret
      exact ⟨rfl, HW.out.trans (hb2.mono HW.out.size)⟩
    obtain ⟨N, rfl⟩ : ∃ N : Nat, n = N := ⟨n.toNat, by omega⟩
    have hN1 : 1 ≤ N := by omega
    have hN4 : N ≤ 4 := by omega
    obtain ⟨c0, c1, c2, c3⟩ := HBX.out _ (Below.refl _ _)
    have hbA : Below w.heap.size w (w1.alloc (.cells #[.slice ax x.length cx] 22)) := HW.out.alloc HW.out.size _
    have hpc := pieces_new w1 (.slice ax x.length cx) x (· < (w1.alloc (.cells #[.slice ax x.length cx] 22)).heap.size) (by simp) ((HX.out _ HW.out).mono (fun k hk _ => by simp; omega)) (0, 0)
    go_wp2_with fail
    have htold := told_any N (.slice none 0 0) (.slice none 0 0) (.slice ac cuts.length cc) _ [] [] x cuts _ (HT.out _ hbA) (pm_nil _) (pm_nil _) hpc ((HC.out _ hbA).mono (fun k hk _ => hk)) (tee_takeE N hN1 hN4) ⟨hN1, hN4⟩ (by simp) (by simp) (by omega) (by omega)
    unfold Pm.parV at htold
    refine htold.mono ?_
    clear htold hpc
    rintro e w3 ⟨rfl, hb3⟩
    obtain ⟨D, hD⟩ : ∃ D, D = drive (teeF N [] []) [⟨x, true, 0, 0, 0⟩] cuts 100000 0 (start (teeF N [] []) (teeI N [] [])) := ⟨_, rfl⟩
    rw [← hD]
    obtain ⟨o0, ofine⟩ := tee_told N x cuts ⟨hN1, hN4⟩ (by omega) D hD
    rw [ofine]
    obtain ⟨S0, S1, S2, S3, e0, e1, e2, e3, hlit⟩ := got_lit' D.got
    have HGo := Lib.hid (show ∀ k, k < 4 → ∃ S : ByteArray, strV (D.got.outs k) = .string S ∧ [Value.string S0, .string S1, .string S2, .string S3][k]? = some (.string S) from fun k hk => got_out hk e0 e1 e2 e3)
    have HO := Lib.hid o0
    obtain ⟨SX, hSX⟩ : ∃ S : ByteArray, strV x = .string S := ⟨_, rfl⟩
    have HSX := Lib.hid hSX
    rw [hlit]
    have HW3 := Lib.hid (hbA.trans (hb3.mono hbA.size))
    clear hbA hb3 hD o0 ofine e0 e1 e2 e3 hlit c0 c1 c2 c3 hSX
    go_upto_region 5 with fail
    have hr4 := heap_alloc_last w3 (.cells #[.string S0, .string S1, .string S2, .string S3, .int .i64 D.got.need, .int .i64 D.got.err, .int .i64 D.got.held, .int .i64 (D.got.taken 0), .int .i64 (D.got.taken 1), .int .i64 (D.got.taken 2), .int .i64 (D.got.taken 3), .bool false] 42)
    have hb4 : Below w3.heap.size w3 (w3.alloc (.cells #[.string S0, .string S1, .string S2, .string S3, .int .i64 D.got.need, .int .i64 D.got.err, .int .i64 D.got.held, .int .i64 (D.got.taken 0), .int .i64 (D.got.taken 1), .int .i64 (D.got.taken 2), .int .i64 (D.got.taken 3), .bool false] 42)) := (Below.refl _ _).alloc (Nat.le_refl _) _
    generalize w3.alloc (.cells #[.string S0, .string S1, .string S2, .string S3, .int .i64 D.got.need, .int .i64 D.got.err, .int .i64 D.got.held, .int .i64 (D.got.taken 0), .int .i64 (D.got.taken 1), .int .i64 (D.got.taken 2), .int .i64 (D.got.taken 3), .bool false] 42) = W4 at hr4 hb4 ⊢
    have HW4 := Lib.hid (HW3.out.trans (hb4.mono HW3.out.size))
    have HCe := Lib.hid (show ∀ W, Below W4.heap.size W4 W → ∀ k, k < 4 → ∃ S : ByteArray, strV (D.got.outs k) = .string S ∧ W.cell? ⟨w3.heap.size, k, none⟩ = some (.string S) from fun W hb k hk => by
      obtain ⟨S, hS, hSk⟩ := HGo.out k hk
      have hr := (hb.block w3.heap.size (Array.getElem?_eq_some_iff.1 hr4).1).trans hr4
      refine ⟨S, hS, ?_⟩
      rw [cell_of_row _ _ _ _ _ _ hr, ← hSk]
      obtain rfl | rfl | rfl | rfl : k = 0 ∨ k = 1 ∨ k = 2 ∨ k = 3 := by omega
      all_goals rfl)
    clear hr4 hb4
    go_wp2_with fail
    go_loopw [10] (fun iv wr => ∃ k : Nat, iv = .int .i64 k ∧ k ≤ 4 ∧ Below W4.heap.size W4 wr) (fun iv _ => 4 - (intOf iv).toNat)
    case atStart => exact ⟨0, rfl, Nat.zero_le _, Below.refl _ _⟩
    case round =>
      obtain ⟨k, rfl, hk, hbr⟩ := hrel
      have HBr := Lib.hid hbr
      clear hbr
      by_cases hk4 : k < 4
      · have q0 : (0 : Int) ≤ (k : Int) := by omega
        have q4 : (k : Int) < 4 := by omega
        go_wp2_with fail
        refine region_stillG (by kernel_rfl) (by kernel_rfl) ?_
        have hbd := HBr.out.drew
        generalize wr.drew = wd at hbd ⊢
        obtain ⟨S, hS, z0⟩ := HCe.out wd hbd k hk4
        have z1 := conv_any (HX.out wd (HW4.out.trans (hbd.mono HW4.out.size)))
        rw [HSX.out] at z1
        rw [HO.out k] at hS
        have HBd := Lib.hid hbd
        clear hbd
        by_cases hkn : k < N
        · rw [if_pos hkn, HSX.out] at hS
          obtain rfl : SX = S := by injection hS
          have q1 : (k : Int) < (N : Int) := by omega
          have q2 : ¬ (N : Int) ≤ (k : Int) := by omega
          clear hS
          repeat (refine stillG_step (fun K hK => ?_); go_simp; refine hK.out _ ?_; clear hK K)
          refine stillG_nil ?_
          clear z0 z1
          go_wp2_with fail
          refine ⟨⟨k + 1, by go_num, by omega, HBd.out⟩, by simp [intOf]; omega⟩
        · rw [if_neg hkn] at hS
          obtain rfl : S = ByteArray.empty := (Value.string.inj hS).symm
          have q1 : ¬ (k : Int) < (N : Int) := by omega
          have q2 : (N : Int) ≤ (k : Int) := by omega
          clear hS
          repeat (refine stillG_step (fun K hK => ?_); go_simp; refine hK.out _ ?_; clear hK K)
          refine stillG_nil ?_
          clear z0 z1
          go_wp2_with fail
          refine ⟨⟨k + 1, by go_num, by omega, HBd.out⟩, by simp [intOf]; omega⟩
      · obtain rfl : k = 4 := by omega
        have HWr := Lib.hid (HW4.out.trans (HBr.out.mono HW4.out.size))
        clear hk4
        go_wp2_with fail
        refine (awake_true _ (HT.out _ HWr.out)).mono ?_
        rintro e w5 ⟨rfl, hb5⟩
        go_wp2_with fail
        go_ret
        exact ⟨rfl, HWr.out.trans (hb5.mono HWr.out.size)⟩

end Go.Proofs.YtdcaniidkaicdaaDoor
