/- HeadTakes's walk. -/
import Derived.Test.YtbmollcbaipmiaaDoorHeadTold
import Derived.Test.YtbmollcbaipmiaaDoorHeadLines
import Derived.Test.YtbmollcbaipmiaaDoorHeadJoined
import Derived.Test.YtbmollcbaipmiaaDoorHeadHeavy
import Derived.Test.YtbmollcbaipmiaaDoorHeadEaten
import Derived.Test.YtbmollcbaipmiaaDoorTakeskit
namespace Go.Proofs.YtbmollcbaipmiaaDoor
open Go.RowKit

theorem nil_strms (w : World) : IsStrms (· < w.heap.size) w (.slice none 0 0) [] := ⟨none, 0, rfl, fun j t h => by simp at h⟩

theorem head_takeE (N : Nat) (h : N ≤ 1000000000) : takeE 3 3 N [] [] = 0 := by
  simp [takeE, Pm.checkE, Pm.fits, Pm.kindOf, Pm.kinds, Pm.mayBe, Pm.tooMuch]
  omega

set_option maxRecDepth 100000 in
set_option maxHeartbeats 16000000 in
theorem takesLaw_any (n : Int) (xv cv : Value) (x : List UInt8) (cuts : List Int) (w : World) (hT : Pm.Tab w) (hX : IsBytes (· < w.heap.size) w xv x) (hC : IsInts (· < w.heap.size) w cv cuts) :
    Calls Tryd.prog 9 #[.int .i64 n, xv, cv] w (Pm.Gives w (.bool true)) := by
  have HT := Lib.hid (show ∀ W, Below w.heap.size w W → Pm.Tab W from fun W hb => hT.below hb)
  have HX := Lib.hid (show ∀ W, Below w.heap.size w W → IsBytes (· < w.heap.size) W xv x from fun W hb => hX.below hb)
  have HC := Lib.hid (show ∀ W, Below w.heap.size w W → IsInts (· < w.heap.size) W cv cuts from fun W hb => hC.below hb)
  obtain ⟨ax, cx, rfl, -, -⟩ := id hX
  obtain ⟨ac, cc, rfl, -⟩ := id hC
  clear hT hX hC
  go_enter Tryd.func9, Tryd.ntmps9
  obtain ⟨H, hH⟩ : ∃ H, H = heavyB [] [] [] [cuts] := ⟨_, rfl⟩
  have HH := Lib.hid hH
  clear hH
  go_wp2_with fail
  have hbox : Below w.heap.size w (w.alloc (.cells #[.int .i64 3, .int .i64 n, .slice none 0 0, .slice none 0 0] 24)) := (Below.refl _ _).alloc (Nat.le_refl _) _
  have hbx2 : Below w.heap.size w ((w.alloc (.cells #[.int .i64 3, .int .i64 n, .slice none 0 0, .slice none 0 0] 24)).alloc (.cells #[.slice ac cuts.length cc] 37)) := hbox.alloc (by simp) _
  have hcc := ints_list (w.alloc (.cells #[.int .i64 3, .int .i64 n, .slice none 0 0, .slice none 0 0] 24)) (.slice ac cuts.length cc) cuts (fun _ => True) trivial ((HC.out _ hbox).mono (fun _ _ _ => trivial)) (0, 0)
  rw [World.size_alloc] at hcc
  have hheavy := heavy_any 3 n (.slice none 0 0) (.slice none 0 0) (.slice none 0 0) _ [] [] [] [cuts] _ (pm_nil _) (pm_nil _) (nil_strms _) hcc (by simp)
  unfold Pm.parV at hheavy
  refine hheavy.mono ?_
  clear hheavy hcc
  rintro e w1 ⟨rfl, hb1⟩
  obtain ⟨c0, c1, c2, c3⟩ := box_cells (((Below.refl _ _).alloc (Nat.le_refl _) _).trans (hb1.mono (by simp)))
  have hb := hbx2.trans (hb1.mono hbx2.size)
  have HW := Lib.hid hb
  have HBX := Lib.hid (show ∀ W, Below w1.heap.size w1 W → W.cell? ⟨w.heap.size, 0, none⟩ = some (.int .i64 3) ∧ W.cell? ⟨w.heap.size, 1, none⟩ = some (.int .i64 n) ∧ W.cell? ⟨w.heap.size, 2, none⟩ = some (.slice none 0 0) ∧ W.cell? ⟨w.heap.size, 3, none⟩ = some (.slice none 0 0) from fun W hb => ⟨Pm.Below.cell hb c0, Pm.Below.cell hb c1, Pm.Below.cell hb c2, Pm.Below.cell hb c3⟩)
  clear hbox hbx2 hb1 hb c0 c1 c2 c3
  rw [← HH.out]
  cases H with
  | true =>
    go_wp2_with fail
    refine (awake_true _ (HT.out _ HW.out)).mono ?_
    rintro e w2 ⟨rfl, hb2⟩
    go_wp2_with fail
    go_ret
    exact ⟨rfl, HW.out.trans (hb2.mono HW.out.size)⟩
  | false =>
    obtain ⟨-, -, -, -, sC⟩ := heavy_no HH.out.symm
    have hcl := sC cuts (by simp)
    clear sC
    by_cases hx : (2000 : Int) < (x.length : Int)
    · go_wp2_with fail
      refine (awake_true _ (HT.out _ HW.out)).mono ?_
      rintro e w2 ⟨rfl, hb2⟩
      go_wp2_with fail
      go_ret
      exact ⟨rfl, HW.out.trans (hb2.mono HW.out.size)⟩
    by_cases h0 : n < 0
    · go_wp2_with fail
      refine (awake_true _ (HT.out _ HW.out)).mono ?_
      rintro e w2 ⟨rfl, hb2⟩
      go_wp2_with fail
      go_ret
      exact ⟨rfl, HW.out.trans (hb2.mono HW.out.size)⟩
    by_cases h9 : 1000000000 < n
    · go_wp2_with fail
      refine (awake_true _ (HT.out _ HW.out)).mono ?_
      rintro e w2 ⟨rfl, hb2⟩
      go_wp2_with fail
      go_ret
      exact ⟨rfl, HW.out.trans (hb2.mono HW.out.size)⟩
    obtain ⟨N, rfl⟩ : ∃ N : Nat, n = N := ⟨n.toNat, by omega⟩
    have hN : N ≤ 1000000000 := by omega
    go_wp2_with fail
    refine (linesOf_any _ x w1 (HX.out _ HW.out) (by omega)).mono ?_
    rintro e w2 ⟨la, lc, rfl, hlc, hTx, hb2⟩
    have hr64 := (readL_lines x true (0, 0, 0)).1
    have hrl := (readL_lines x true (0, 0, 0)).2
    obtain ⟨L, hL⟩ : ∃ L, L = (readL x true (0, 0, 0)).1 := ⟨_, rfl⟩
    obtain ⟨all, hall⟩ : ∃ all, all = (readL x true (0, 0, 0)).2.1 := ⟨_, rfl⟩
    rw [← hL] at hTx hlc hr64 hrl ⊢
    rw [← hall]
    have HL := Lib.hid hL
    have HAll := Lib.hid hall
    have HTx := Lib.hid hTx
    have HR := Lib.hid hr64
    have HW2 := Lib.hid (HW.out.trans (hb2.mono HW.out.size))
    have HB2 := Lib.hid hb2
    clear hL hall hTx hb2 hr64
    cases all with
    | false =>
      go_wp2_with fail
      refine (awake_true _ (HT.out _ HW2.out)).mono ?_
      rintro e w3 ⟨rfl, hb3⟩
      go_wp2_with fail
      go_ret
      exact ⟨rfl, HW2.out.trans (hb3.mono HW2.out.size)⟩
    | true =>
      obtain ⟨c0, c1, c2, c3⟩ := HBX.out _ HB2.out
      go_wp2_with fail
      have hbA : Below w.heap.size w (w2.alloc (.cells #[.slice ax x.length cx] 22)) := HW2.out.alloc HW2.out.size _
      have hpc := pieces_new w2 (.slice ax x.length cx) x (· < (w2.alloc (.cells #[.slice ax x.length cx] 22)).heap.size) (by simp) ((HX.out _ HW2.out).mono (fun k hk _ => by simp; omega)) (0, 0)
      have htold := told_any N (.slice none 0 0) (.slice none 0 0) (.slice ac cuts.length cc) _ [] [] x cuts _ (HT.out _ hbA) (pm_nil _) (pm_nil _) hpc ((HC.out _ hbA).mono (fun k hk _ => hk)) (head_takeE N hN) hN (by simp) (by simp) (by omega) (by omega)
      unfold Pm.parV at htold
      refine htold.mono ?_
      clear htold hpc
      rintro e w3 ⟨rfl, hb3⟩
      obtain ⟨D, hD⟩ : ∃ D, D = drive (headF N [] []) [⟨x, true, 0, 0, 0⟩] cuts 100000 0 (start (headF N [] []) (headI N [] [])) := ⟨_, rfl⟩
      rw [← hD]
      obtain ⟨o0, ofine⟩ := head_told N x cuts hN (by omega) HAll.out.symm D hD
      rw [ofine]
      obtain ⟨F, hF⟩ : ∃ F : ByteArray, strV (joinL (L.take N)) = .string F := ⟨_, rfl⟩
      obtain ⟨S0, S1, S2, S3, e0, -, -, -, hlit⟩ := got_lit D.got
      rw [o0, ← HL.out, hF] at e0
      obtain rfl : F = S0 := by injection e0
      rw [hlit]
      have HF := Lib.hid hF
      have HW3 := Lib.hid (hbA.trans (hb3.mono hbA.size))
      have HB23 := Lib.hid (((Below.refl w2.heap.size w2).alloc (Nat.le_refl _) (.cells #[.slice ax x.length cx] 22)).trans (hb3.mono (by simp)))
      have HB3 := Lib.hid (HB2.out.trans (((Below.refl _ _).alloc (Nat.le_refl _) _ |>.trans (hb3.mono (by simp))).mono HB2.out.size))
      have hbo : ∀ o, Below w1.heap.size w1 (w3.alloc o) := fun o => HB3.out.alloc HB3.out.size o
      have k0 := fun o => (HBX.out _ (hbo o)).1
      have k1 := fun o => (HBX.out _ (hbo o)).2.1
      have k2 := fun o => (HBX.out _ (hbo o)).2.2.1
      have k3 := fun o => (HBX.out _ (hbo o)).2.2.2
      clear hbA hb3 hD o0 ofine e0 hlit hF c0 c1 c2 c3
      go_wp2_with fail
      have hr4 := heap_alloc_last w3 (.cells #[.string F, .string S1, .string S2, .string S3, .int .i64 D.got.need, .int .i64 D.got.err, .int .i64 D.got.held, .int .i64 (D.got.taken 0), .int .i64 (D.got.taken 1), .int .i64 (D.got.taken 2), .int .i64 (D.got.taken 3), .bool false] 42)
      have hb4 : Below w3.heap.size w3 (w3.alloc (.cells #[.string F, .string S1, .string S2, .string S3, .int .i64 D.got.need, .int .i64 D.got.err, .int .i64 D.got.held, .int .i64 (D.got.taken 0), .int .i64 (D.got.taken 1), .int .i64 (D.got.taken 2), .int .i64 (D.got.taken 3), .bool false] 42)) := (Below.refl _ _).alloc (Nat.le_refl _) _
      have hs4 : (w3.alloc (.cells #[.string F, .string S1, .string S2, .string S3, .int .i64 D.got.need, .int .i64 D.got.err, .int .i64 D.got.held, .int .i64 (D.got.taken 0), .int .i64 (D.got.taken 1), .int .i64 (D.got.taken 2), .int .i64 (D.got.taken 3), .bool false] 42)).heap.size = w3.heap.size + 1 := by simp
      generalize w3.alloc (.cells #[.string F, .string S1, .string S2, .string S3, .int .i64 D.got.need, .int .i64 D.got.err, .int .i64 D.got.held, .int .i64 (D.got.taken 0), .int .i64 (D.got.taken 1), .int .i64 (D.got.taken 2), .int .i64 (D.got.taken 3), .bool false] 42) = W4 at hr4 hb4 hs4 ⊢
      have HB24 := Lib.hid (HB23.out.trans (hb4.mono HB23.out.size))
      have hbW4 : Below w.heap.size w W4 := HW3.out.trans (hb4.mono HW3.out.size)
      have hbB : Below w.heap.size w ((W4.alloc (.cells #[.int .i64 0] 3)).alloc (.cells #[.slice ax x.length cx] 22)) := (hbW4.alloc hbW4.size _).alloc (by have := hbW4.size; simp; omega) _
      have hb44 : Below W4.heap.size W4 ((W4.alloc (.cells #[.int .i64 0] 3)).alloc (.cells #[.slice ax x.length cx] 22)) := ((Below.refl _ _).alloc (Nat.le_refl _) _).alloc (by simp) _
      have hbi : Below w.heap.size w (W4.alloc (.cells #[.int .i64 0] 3)) := hbW4.alloc hbW4.size _
      have hsb : ((W4.alloc (.cells #[.int .i64 0] 3)).alloc (.cells #[.slice ax x.length cx] 22)).heap.size = w3.heap.size + 3 := by simp; omega
      have hpc := pieces_new (W4.alloc (.cells #[.int .i64 0] 3)) (.slice ax x.length cx) x (· < ((W4.alloc (.cells #[.int .i64 0] 3)).alloc (.cells #[.slice ax x.length cx] 22)).heap.size) (by simp) ((HX.out _ hbi).mono (fun k hk _ => by simp at hk ⊢; omega)) (0, 0)
      have hci := (ints_new W4 0 (· < ((W4.alloc (.cells #[.int .i64 0] 3)).alloc (.cells #[.slice ax x.length cx] 22)).heap.size) (by simp; omega) (0, 0)).below ((Below.refl _ _).alloc (Nat.le_refl _) (.cells #[.slice ax x.length cx] 22))
      rw [show (W4.alloc (.cells #[.int .i64 0] 3)).heap.size = w3.heap.size + 1 + 1 by simp [hs4]] at hpc
      rw [hs4] at hci
      have htold := told_any N (.slice none 0 0) (.slice none 0 0) _ _ [] [] x [0] _ (HT.out _ hbB) (pm_nil _) (pm_nil _) hpc hci (head_takeE N hN) hN (by simp) (by simp) (by omega) (by simp)
      unfold Pm.parV at htold
      refine htold.mono ?_
      clear htold hpc hci
      rintro e w5 ⟨rfl, hb5⟩
      obtain ⟨E, hE⟩ : ∃ E, E = drive (headF N [] []) [⟨x, true, 0, 0, 0⟩] [0] 100000 0 (start (headF N [] []) (headI N [] [])) := ⟨_, rfl⟩
      have htk := head_takes N x (by omega) HAll.out.symm
      rw [← hE] at htk ⊢
      rw [← HL.out] at htk
      obtain ⟨o0, ofine⟩ := head_told N x [0] hN (by omega) HAll.out.symm E hE
      rw [ofine]
      obtain ⟨U0, U1, U2, U3, e0, -, -, -, hlit⟩ := got_lit E.got
      rw [o0, ← HL.out, HF.out] at e0
      obtain rfl : F = U0 := by injection e0
      rw [hlit]
      have HTake := Lib.hid htk
      have HB5 := Lib.hid (hb44.trans (hb5.mono hb44.size))
      have HW5 := Lib.hid (hbB.trans (hb5.mono hbB.size))
      have HR4 := Lib.hid hr4
      have HS4 := Lib.hid hs4
      clear hbB hb5 hE o0 ofine e0 hlit htk hr4 hb44 hbi hbW4 k0 k1 k2 k3 hsb hb4 hs4
      have hz : F.size = (joinL (L.take N)).length := strV_size HF.out
      have htk : ((N : Int) ≤ (L.length : Int) ∧ (F.size : Int) ≤ (x.length : Int) ∧ E.got.taken 0 = F.size) ∨ ((N : Int) ≤ (L.length : Int) ∧ ¬ (F.size : Int) ≤ (x.length : Int) ∧ E.got.taken 0 = x.length) ∨ (¬ (N : Int) ≤ (L.length : Int) ∧ E.got.taken 0 = x.length) := by
        have h := HTake.out
        by_cases h1 : N ≤ L.length
        · rw [if_pos h1, ← hz] at h
          by_cases h2 : F.size ≤ x.length
          · exact .inl ⟨by omega, by omega, by omega⟩
          · exact .inr (.inl ⟨by omega, by omega, by omega⟩)
        · rw [if_neg h1] at h
          exact .inr (.inr ⟨by omega, h⟩)
      have hb25 : Below w2.heap.size w2 w5 := HB24.out.trans (HB5.out.mono HB24.out.size)
      have hb5 : Below w5.heap.size w5 (w5.alloc (.cells #[.string F, .string U1, .string U2, .string U3, .int .i64 E.got.need, .int .i64 E.got.err, .int .i64 E.got.held, .int .i64 (E.got.taken 0), .int .i64 (E.got.taken 1), .int .i64 (E.got.taken 2), .int .i64 (E.got.taken 3), .bool false] 42)) := (Below.refl _ _).alloc (Nat.le_refl _) _
      have hjn : ∀ k, k ≤ L.length → L.take k = L.take N → Calls Tryd.prog 26 #[.slice la k lc] (w5.alloc (.cells #[.string F, .string U1, .string U2, .string U3, .int .i64 E.got.need, .int .i64 E.got.err, .int .i64 E.got.held, .int .i64 (E.got.taken 0), .int .i64 (E.got.taken 1), .int .i64 (E.got.taken 2), .int .i64 (E.got.taken 3), .bool false] 42)) (Says (w5.alloc (.cells #[.string F, .string U1, .string U2, .string U3, .int .i64 E.got.need, .int .i64 E.got.err, .int .i64 E.got.held, .int .i64 (E.got.taken 0), .int .i64 (E.got.taken 1), .int .i64 (E.got.taken 2), .int .i64 (E.got.taken 3), .bool false] 42)) (.string F)) := fun k hk he => by
        have := joinedOf_any _ _ _ ((texts_take HTx.out k hk).below (hb25.trans (hb5.mono hb25.size))) (fun l hl => HR.out l (List.mem_of_mem_take hl)) (by simp; omega)
        rw [he, HF.out] at this
        exact this
      have HJn := Lib.hid hjn
      have k9 : (w5.alloc (.cells #[.string F, .string U1, .string U2, .string U3, .int .i64 E.got.need, .int .i64 E.got.err, .int .i64 E.got.held, .int .i64 (E.got.taken 0), .int .i64 (E.got.taken 1), .int .i64 (E.got.taken 2), .int .i64 (E.got.taken 3), .bool false] 42)).cell? ⟨w3.heap.size, 0, none⟩ = some (.string F) :=
        Pm.Below.cell (HB5.out.trans (hb5.mono HB5.out.size)) (by rw [cell_of_row _ _ _ _ _ _ HR4.out]; rfl)
      have HW6 := Lib.hid (HW5.out.trans (hb5.mono HW5.out.size))
      clear hjn hb25 hb5
      rcases htk with ⟨h1, h2, h3⟩ | ⟨h1, h2, h3⟩ | ⟨h1, h3⟩
      · have q7 : (((E.got.taken 0 : Nat) : Int) == (F.size : Int)) = true := by rw [h3]; simp
        clear h3 hz
        go_wp2_with fail
        refine (HJn.out N (by omega) rfl).mono ?_
        rintro e w6 ⟨rfl, rfl⟩
        go_wp2_with fail
        refine (awake_true _ (HT.out _ HW6.out)).mono ?_
        rintro e w7 ⟨rfl, hb7⟩
        go_wp2_with fail
        go_ret
        exact ⟨rfl, HW6.out.trans (hb7.mono HW6.out.size)⟩
      · have q7 : (((E.got.taken 0 : Nat) : Int) == (x.length : Int)) = true := by rw [h3]; simp
        clear h3 hz
        go_wp2_with fail
        refine (HJn.out N (by omega) rfl).mono ?_
        rintro e w6 ⟨rfl, rfl⟩
        go_wp2_with fail
        refine (awake_true _ (HT.out _ HW6.out)).mono ?_
        rintro e w7 ⟨rfl, hb7⟩
        go_wp2_with fail
        go_ret
        exact ⟨rfl, HW6.out.trans (hb7.mono HW6.out.size)⟩
      · have q7 : (((E.got.taken 0 : Nat) : Int) == (x.length : Int)) = true := by rw [h3]; simp
        clear h3 hz
        go_wp2_with fail
        refine (HJn.out L.length (by omega) (by rw [List.take_length, List.take_of_length_le (by omega)])).mono ?_
        rintro e w6 ⟨rfl, rfl⟩
        go_wp2_with fail
        refine (awake_true _ (HT.out _ HW6.out)).mono ?_
        rintro e w7 ⟨rfl, hb7⟩
        go_wp2_with fail
        go_ret
        exact ⟨rfl, HW6.out.trans (hb7.mono HW6.out.size)⟩

end Go.Proofs.YtbmollcbaipmiaaDoor
