/- TailTakes's walk. -/
import Derived.Test.YtdpjopemdhbgpaaDoorTailTold
import Derived.Test.YtdpjopemdhbgpaaDoorTailLines
import Derived.Test.YtdpjopemdhbgpaaDoorTailJoined
import Derived.Test.YtdpjopemdhbgpaaDoorTailHeavy
import Derived.Test.YtdpjopemdhbgpaaDoorTakeskit
import Derived.Deep.RegionWith
namespace Go.Proofs.YtdpjopemdhbgpaaDoor
open Go.RowKit

theorem nil_strms (w : World) : IsStrms (· < w.heap.size) w (.slice none 0 0) [] := ⟨none, 0, rfl, fun j t h => by simp at h⟩

theorem tail_takeE (N : Nat) (h : N ≤ 31) : takeE 4 4 N [] [] = 0 := by
  simp [takeE, Pm.checkE, Pm.fits, Pm.kindOf, Pm.kinds, Pm.mayBe, Pm.tooMuch]
  omega

theorem joinL_app' (L M : Lines) : joinL (L ++ M) = joinL L ++ joinL M := by simp [joinL]
theorem tail_told (N : Nat) (x : List UInt8) (cuts : List Int) (hN : tailOk N [] []) (hx : x.length ≤ 4000) (hall : (readL x true (0, 0, 0)).2.1 = true) (D : DS TS) (hD : D = drive (tailF N [] []) [⟨x, true, 0, 0, 0⟩] cuts 100000 0 (start (tailF N [] []) (tailI N [] []))) :
    D.got.outs 0 = joinL (lastN N (readL x true (0, 0, 0)).1) ∧ (decide (D.got.err = 0) && decide (D.got.need = -1)) = true := by
  obtain ⟨d1, d2, d3⟩ := tail_drive N [] [] ⟨x, true, 0, 0, 0⟩ cuts hN hx
  rw [← hD] at d1 d2 d3
  obtain ⟨f1, f2, -⟩ := tail_final N x true (0, 0, 0)
  obtain ⟨q1, q2⟩ := f2 hall
  have ho : (tailFin N [] [] ⟨x, true, 0, 0, 0⟩).outs = putOuts (fun _ => []) ((lastN N (readL x true (0, 0, 0)).1).map fun l => (0, l ++ [10])) := by
    show putOuts (fun _ => []) (finalM (tailMach N) N tailS x true).2.1 = _
    rw [f1, if_pos hall]
  obtain ⟨p0, -⟩ := putOuts_lines (lastN N (readL x true (0, 0, 0)).1) (fun _ => [])
  rw [← ho] at p0
  have hn : (tailFin N [] [] ⟨x, true, 0, 0, 0⟩).need = (tailMach N).need (finalM (tailMach N) N tailS x true).1 := rfl
  have he : (tailFin N [] [] ⟨x, true, 0, 0, 0⟩).err = (finalM (tailMach N) N tailS x true).2.2 := rfl
  refine ⟨by rw [d1, p0]; rfl, ?_⟩
  rw [d2, d3, hn, he, q2, q1]
  rfl

set_option maxRecDepth 100000 in
set_option maxHeartbeats 16000000 in
theorem takesLaw_any (n : Int) (xv cv : Value) (x : List UInt8) (cuts : List Int) (w : World) (hT : Pm.Tab w) (hX : IsBytes (· < w.heap.size) w xv x) (hC : IsInts (· < w.heap.size) w cv cuts) :
    Calls Tryd.prog 9 #[.int .i64 n, xv, cv] w (Pm.Gives w (.bool true)) := by
  have HT := Lib.hid (show ∀ W, Below w.heap.size w W → Pm.Tab W from fun W hb => hT.below hb)
  have HX := Lib.hid (show ∀ W, Below w.heap.size w W → IsBytes (· < w.heap.size) W xv x from fun W hb => hX.below hb)
  have HC := Lib.hid (show ∀ W, Below w.heap.size w W → IsInts (· < w.heap.size) W cv cuts from fun W hb => hC.below hb)
  obtain ⟨ax, cx, rfl, -, -⟩ := id hX
  obtain ⟨ac, cc, rfl, -⟩ := id hC
  clear hT hX hC
  go_enter Tryd.func9, Tryd.ntmps9
  obtain ⟨H, hH⟩ : ∃ H, H = heavyB [] [] [] [cuts] := ⟨_, rfl⟩
  have HH := Lib.hid hH
  clear hH
  go_wp2_with fail
  have hbox : Below w.heap.size w (w.alloc (.cells #[.int .i64 4, .int .i64 n, .slice none 0 0, .slice none 0 0] 24)) := (Below.refl _ _).alloc (Nat.le_refl _) _
  have hbx2 : Below w.heap.size w ((w.alloc (.cells #[.int .i64 4, .int .i64 n, .slice none 0 0, .slice none 0 0] 24)).alloc (.cells #[.slice ac cuts.length cc] 37)) := hbox.alloc (by simp) _
  have hcc := ints_list (w.alloc (.cells #[.int .i64 4, .int .i64 n, .slice none 0 0, .slice none 0 0] 24)) (.slice ac cuts.length cc) cuts (fun _ => True) trivial ((HC.out _ hbox).mono (fun _ _ _ => trivial)) (0, 0)
  rw [World.size_alloc] at hcc
  have hheavy := heavy_any 4 n (.slice none 0 0) (.slice none 0 0) (.slice none 0 0) _ [] [] [] [cuts] _ (pm_nil _) (pm_nil _) (nil_strms _) hcc (by simp)
  unfold Pm.parV at hheavy
  refine hheavy.mono ?_
  clear hheavy hcc
  rintro e w1 ⟨rfl, hb1⟩
  obtain ⟨c0, c1, c2, c3⟩ := box_cells (((Below.refl _ _).alloc (Nat.le_refl _) _).trans (hb1.mono (by simp)))
  have hb := hbx2.trans (hb1.mono hbx2.size)
  have HW := Lib.hid hb
  have HBX := Lib.hid (show ∀ W, Below w1.heap.size w1 W → W.cell? ⟨w.heap.size, 0, none⟩ = some (.int .i64 4) ∧ W.cell? ⟨w.heap.size, 1, none⟩ = some (.int .i64 n) ∧ W.cell? ⟨w.heap.size, 2, none⟩ = some (.slice none 0 0) ∧ W.cell? ⟨w.heap.size, 3, none⟩ = some (.slice none 0 0) from fun W hb => ⟨Pm.Below.cell hb c0, Pm.Below.cell hb c1, Pm.Below.cell hb c2, Pm.Below.cell hb c3⟩)
  clear hbox hbx2 hb1 hb c0 c1 c2 c3
  rw [← HH.out]
  cases H with
  | true =>
    go_wp2_with fail
    refine (awake_true _ (HT.out _ HW.out)).mono ?_
    rintro e w2 ⟨rfl, hb2⟩
    go_wp2_with fail
    go_ret
    exact ⟨rfl, HW.out.trans (hb2.mono HW.out.size)⟩
  | false =>
    obtain ⟨-, -, -, -, sC⟩ := heavy_no HH.out.symm
    have hcl := sC cuts (by simp)
    clear sC
    by_cases hx : (2000 : Int) < (x.length : Int)
    · go_wp2_with fail
      refine (awake_true _ (HT.out _ HW.out)).mono ?_
      rintro e w2 ⟨rfl, hb2⟩
      go_wp2_with fail
      go_ret
      exact ⟨rfl, HW.out.trans (hb2.mono HW.out.size)⟩
    by_cases h0 : n < 0
    · go_wp2_with fail
      refine (awake_true _ (HT.out _ HW.out)).mono ?_
      rintro e w2 ⟨rfl, hb2⟩
      go_wp2_with fail
      go_ret
      exact ⟨rfl, HW.out.trans (hb2.mono HW.out.size)⟩
    by_cases h9 : 31 < n
    · go_wp2_with fail
      refine (awake_true _ (HT.out _ HW.out)).mono ?_
      rintro e w2 ⟨rfl, hb2⟩
      go_wp2_with fail
      go_ret
      exact ⟨rfl, HW.out.trans (hb2.mono HW.out.size)⟩
    obtain ⟨N, rfl⟩ : ∃ N : Nat, n = N := ⟨n.toNat, by omega⟩
    have hN : N ≤ 31 := by omega
    go_wp2_with fail
    refine (linesOf_any _ x w1 (HX.out _ HW.out) (by omega)).mono ?_
    rintro e w2 ⟨la, lc, rfl, hlc, hTx, hb2⟩
    have hr64 := (readL_lines x true (0, 0, 0)).1
    have hrl := (readL_lines x true (0, 0, 0)).2
    obtain ⟨L, hL⟩ : ∃ L, L = (readL x true (0, 0, 0)).1 := ⟨_, rfl⟩
    obtain ⟨all, hall⟩ : ∃ all, all = (readL x true (0, 0, 0)).2.1 := ⟨_, rfl⟩
    rw [← hL] at hTx hlc hr64 hrl ⊢
    rw [← hall]
    have HL := Lib.hid hL
    have HAll := Lib.hid hall
    have HTx := Lib.hid hTx
    have HR := Lib.hid hr64
    have HW2 := Lib.hid (HW.out.trans (hb2.mono HW.out.size))
    have HB2 := Lib.hid hb2
    clear hL hall hTx hb2 hr64
    cases all with
    | false =>
      go_wp2_with fail
      refine (awake_true _ (HT.out _ HW2.out)).mono ?_
      rintro e w3 ⟨rfl, hb3⟩
      go_wp2_with fail
      go_ret
      exact ⟨rfl, HW2.out.trans (hb3.mono HW2.out.size)⟩
    | true =>
      obtain ⟨c0, c1, c2, c3⟩ := HBX.out _ HB2.out
      go_wp2_with fail
      have hbA : Below w.heap.size w (w2.alloc (.cells #[.slice ax x.length cx] 22)) := HW2.out.alloc HW2.out.size _
      have hpc := pieces_new w2 (.slice ax x.length cx) x (· < (w2.alloc (.cells #[.slice ax x.length cx] 22)).heap.size) (by simp) ((HX.out _ HW2.out).mono (fun k hk _ => by simp; omega)) (0, 0)
      have htold := told_any N (.slice none 0 0) (.slice none 0 0) (.slice ac cuts.length cc) _ [] [] x cuts _ (HT.out _ hbA) (pm_nil _) (pm_nil _) hpc ((HC.out _ hbA).mono (fun k hk _ => hk)) (tail_takeE N hN) hN (by simp) (by simp) (by omega) (by omega)
      unfold Pm.parV at htold
      refine htold.mono ?_
      clear htold hpc
      rintro e w3 ⟨rfl, hb3⟩
      obtain ⟨D, hD⟩ : ∃ D, D = drive (tailF N [] []) [⟨x, true, 0, 0, 0⟩] cuts 100000 0 (start (tailF N [] []) (tailI N [] [])) := ⟨_, rfl⟩
      rw [← hD]
      obtain ⟨o0, ofine⟩ := tail_told N x cuts hN (by omega) HAll.out.symm D hD
      rw [ofine]
      obtain ⟨F, hF⟩ : ∃ F : ByteArray, strV (joinL (lastN N L)) = .string F := ⟨_, rfl⟩
      obtain ⟨S0, S1, S2, S3, e0, -, -, -, hlit⟩ := got_lit D.got
      rw [o0, ← HL.out, hF] at e0
      obtain rfl : F = S0 := by injection e0
      rw [hlit]
      have HF := Lib.hid hF
      have HW3 := Lib.hid (hbA.trans (hb3.mono hbA.size))
      have HB23 := Lib.hid (((Below.refl w2.heap.size w2).alloc (Nat.le_refl _) (.cells #[.slice ax x.length cx] 22)).trans (hb3.mono (by simp)))
      have HB3 := Lib.hid (HB2.out.trans (((Below.refl _ _).alloc (Nat.le_refl _) _ |>.trans (hb3.mono (by simp))).mono HB2.out.size))
      obtain ⟨K, hK⟩ : ∃ K, K = L.length - N := ⟨_, rfl⟩
      have hb4 : Below w3.heap.size w3 (w3.alloc (.cells #[.string F, .string S1, .string S2, .string S3, .int .i64 D.got.need, .int .i64 D.got.err, .int .i64 D.got.held, .int .i64 (D.got.taken 0), .int .i64 (D.got.taken 1), .int .i64 (D.got.taken 2), .int .i64 (D.got.taken 3), .bool false] 42)) := (Below.refl _ _).alloc (Nat.le_refl _) _
      have hr4 := heap_alloc_last w3 (.cells #[.string F, .string S1, .string S2, .string S3, .int .i64 D.got.need, .int .i64 D.got.err, .int .i64 D.got.held, .int .i64 (D.got.taken 0), .int .i64 (D.got.taken 1), .int .i64 (D.got.taken 2), .int .i64 (D.got.taken 3), .bool false] 42)
      have HR4 := Lib.hid hr4
      have HB4 := Lib.hid hb4
      have HK := Lib.hid hK
      clear hbA hb3 hD o0 ofine e0 hlit hF c0 c1 c2 c3 hr4 hb4 hK
      have hr4 := HR4.out
      have hb4 := HB4.out
      have hjl := joinL_len HR.out
      obtain ⟨J, hJ⟩ : ∃ J : ByteArray, strV (joinL L) = .string J := ⟨_, rfl⟩
      obtain ⟨J1, hJ1⟩ : ∃ J : ByteArray, strV (joinL (L.take K)) = .string J := ⟨_, rfl⟩
      have hcat : joinL (L.take K) ++ joinL (lastN N L) = joinL L := by
        rw [HK.out]
        unfold lastN
        rw [← joinL_app', List.take_append_drop]
      have z1 := strV_size hJ1
      have z2 := strV_size HF.out
      have hl1 := congrArg List.length hcat
      rw [List.length_append] at hl1
      have a1 := add_fits (S := J1) (T := F) (by omega) (by omega)
      have hadd := strV_add hJ1 HF.out
      rw [hcat, hJ] at hadd
      have q5 : J1 ++ F = J := by injection hadd with h; exact h.symm
      have HJ := Lib.hid hJ
      have HJ1 := Lib.hid hJ1
      clear hJ hJ1 hcat hadd hl1 hjl HR4 HB4 z1 z2
      by_cases hk : (N : Int) < (L.length : Int)
      · have qk : (L.length : Int) - (N : Int) = (K : Int) := by have := HK.out; omega
        have hK1 : ¬ (K : Int) ≤ 0 := by omega
        have hK2 : (0 : Int) < (K : Int) := by omega
        have hKL : (K : Int) ≤ (L.length : Int) := by omega
        have hKc : (K : Int) ≤ (lc : Int) := by omega
        have hKz : (0 : Int) ≤ (K : Int) := by omega
        go_upto_region 9 with fail
        generalize w3.alloc (.cells #[.string F, .string S1, .string S2, .string S3, .int .i64 D.got.need, .int .i64 D.got.err, .int .i64 D.got.held, .int .i64 (D.got.taken 0), .int .i64 (D.got.taken 1), .int .i64 (D.got.taken 2), .int .i64 (D.got.taken 3), .bool false] 42) = W4 at hr4 hb4 ⊢
        have hb24 : Below w2.heap.size w2 W4 := HB23.out.trans (hb4.mono HB23.out.size)
        have hbW4 : Below w.heap.size w W4 := HW3.out.trans (hb4.mono HW3.out.size)
        have hX0 : ∀ W, Below W4.heap.size W4 W → W.cell? ⟨w3.heap.size, 0, none⟩ = some (.string F) := fun W hb => Pm.Below.cell hb (by rw [cell_of_row _ _ _ _ _ _ hr4]; rfl)
        have hY : ∀ W, Below W4.heap.size W4 W → Below w.heap.size w W := fun W hb => hbW4.trans (hb.mono hbW4.size)
        have hj1 : ∀ W, Below W4.heap.size W4 W → Calls Tryd.prog 26 #[.slice la K lc] W (Pm.Gives W (.string J1)) := fun W hb => by
          have := joinedOf_any _ _ _ ((texts_take HTx.out K (by omega)).below (hb24.trans (hb.mono hb24.size))) (fun l hl => HR.out l (List.mem_of_mem_take hl)) (by first | (simp; omega) | simp)
          rw [HJ1.out] at this
          exact this.mono fun e w' h => ⟨h.1, h.2 ▸ Below.refl _ _⟩
        have hj2 : ∀ W, Below W4.heap.size W4 W → Calls Tryd.prog 26 #[.slice la L.length lc] W (Pm.Gives W (.string J)) := fun W hb => by
          have := joinedOf_any _ _ _ (HTx.out.below (hb24.trans (hb.mono hb24.size))) HR.out (by omega)
          rw [HJ.out] at this
          exact this.mono fun e w' h => ⟨h.1, h.2 ▸ Below.refl _ _⟩
        have HX0 := Lib.hid hX0
        have HY := Lib.hid hY
        have HC1 := Lib.hid hj1
        have HC2 := Lib.hid hj2
        have hw : Below W4.heap.size W4 W4.drew := (Below.refl _ _).drew
        clear hX0 hY hj1 hj2 hb24 hbW4 hr4 hb4
        go_region_held3 (fun W => W.cell? ⟨w3.heap.size, 0, none⟩ = some (.string F))
          (exact HX0.out _ hw)
          (first
          | (go_at_call_of 26 (Value.slice la K lc); refine (HC1.out _ hw).mono ?_; rintro e w7 ⟨rfl, hb1⟩; have hw := hw.trans (hb1.mono hw.size); clear hb1)
          | (go_at_call_of 26 (Value.slice la (List.length L) lc); refine (HC2.out _ hw).mono ?_; rintro e w7 ⟨rfl, hb1⟩; have hw := hw.trans (hb1.mono hw.size); clear hb1)
          | (go_at_call 11; refine (awake_true _ (HT.out _ (HY.out _ hw))).mono ?_; rintro e w7 ⟨rfl, hb1⟩; have hw := hw.trans (hb1.mono hw.size); clear hb1))
        all_goals (go_wp2_with fail; go_ret; exact ⟨rfl, HY.out _ hw⟩)
      · have hK0 : K = 0 := by have := HK.out; omega
        subst hK0
        have qk : (L.length : Int) - (N : Int) ≤ 0 := by omega
        have qk2 : ¬ (0 : Int) < (L.length : Int) - (N : Int) := by omega
        go_upto_region 9 with fail
        generalize w3.alloc (.cells #[.string F, .string S1, .string S2, .string S3, .int .i64 D.got.need, .int .i64 D.got.err, .int .i64 D.got.held, .int .i64 (D.got.taken 0), .int .i64 (D.got.taken 1), .int .i64 (D.got.taken 2), .int .i64 (D.got.taken 3), .bool false] 42) = W4 at hr4 hb4 ⊢
        have hb24 : Below w2.heap.size w2 W4 := HB23.out.trans (hb4.mono HB23.out.size)
        have hbW4 : Below w.heap.size w W4 := HW3.out.trans (hb4.mono HW3.out.size)
        have hX0 : ∀ W, Below W4.heap.size W4 W → W.cell? ⟨w3.heap.size, 0, none⟩ = some (.string F) := fun W hb => Pm.Below.cell hb (by rw [cell_of_row _ _ _ _ _ _ hr4]; rfl)
        have hY : ∀ W, Below W4.heap.size W4 W → Below w.heap.size w W := fun W hb => hbW4.trans (hb.mono hbW4.size)
        have hj1 : ∀ W, Below W4.heap.size W4 W → Calls Tryd.prog 26 #[.slice la 0 lc] W (Pm.Gives W (.string J1)) := fun W hb => by
          have := joinedOf_any _ _ _ ((texts_take HTx.out 0 (by omega)).below (hb24.trans (hb.mono hb24.size))) (fun l hl => HR.out l (List.mem_of_mem_take hl)) (by first | (simp; omega) | simp)
          rw [HJ1.out] at this
          exact this.mono fun e w' h => ⟨h.1, h.2 ▸ Below.refl _ _⟩
        have hj2 : ∀ W, Below W4.heap.size W4 W → Calls Tryd.prog 26 #[.slice la L.length lc] W (Pm.Gives W (.string J)) := fun W hb => by
          have := joinedOf_any _ _ _ (HTx.out.below (hb24.trans (hb.mono hb24.size))) HR.out (by omega)
          rw [HJ.out] at this
          exact this.mono fun e w' h => ⟨h.1, h.2 ▸ Below.refl _ _⟩
        have HX0 := Lib.hid hX0
        have HY := Lib.hid hY
        have HC1 := Lib.hid hj1
        have HC2 := Lib.hid hj2
        have hw : Below W4.heap.size W4 W4.drew := (Below.refl _ _).drew
        clear hX0 hY hj1 hj2 hb24 hbW4 hr4 hb4
        go_region_held3 (fun W => W.cell? ⟨w3.heap.size, 0, none⟩ = some (.string F))
          (exact HX0.out _ hw)
          (first
          | (go_at_call_of 26 (Value.slice la 0 lc); refine (HC1.out _ hw).mono ?_; rintro e w7 ⟨rfl, hb1⟩; have hw := hw.trans (hb1.mono hw.size); clear hb1)
          | (go_at_call_of 26 (Value.slice la (List.length L) lc); refine (HC2.out _ hw).mono ?_; rintro e w7 ⟨rfl, hb1⟩; have hw := hw.trans (hb1.mono hw.size); clear hb1)
          | (go_at_call 11; refine (awake_true _ (HT.out _ (HY.out _ hw))).mono ?_; rintro e w7 ⟨rfl, hb1⟩; have hw := hw.trans (hb1.mono hw.size); clear hb1))
        all_goals (go_wp2_with fail; go_ret; exact ⟨rfl, HY.out _ hw⟩)

end Go.Proofs.YtdpjopemdhbgpaaDoor
