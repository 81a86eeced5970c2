/- CountChunks's walk. -/
import Derived.Test.YtlflhjgfegflfaaDoorCountHolds
import Derived.Test.YtlflhjgfegflfaaDoorGchunks
namespace Go.Proofs.YtlflhjgfegflfaaDoor
open Go.RowKit
variable [Inhabited TabBox]

set_option maxRecDepth 100000 in
set_option maxHeartbeats 16000000 in
theorem chunksLaw_any (k n : Int) (hn : Pm.Fits n) (va vb iv xv yv : Value) (A B : List UInt8) (ins : List Strm) (xs ys : List Int) (w : World) (hT : TabP w) (hA : Pm.IsBytes w va A) (hB : Pm.IsBytes w vb B) (hI : IsStrms (· < w.heap.size) w iv ins) (hX : IsInts (· < w.heap.size) w xv xs) (hY : IsInts (· < w.heap.size) w yv ys) :
    Calls Tryd.prog 7 #[Pm.parV k n va vb, iv, xv, yv] w (Pm.Gives w (.bool true)) := by
  have HT := Lib.hid (show ∀ W, Below w.heap.size w W → TabP W from fun W hb => hT.below hb)
  have HA := Lib.hid (show ∀ W, Below w.heap.size w W → Pm.IsBytes W va A from fun W hb => hA.below hb)
  have HB := Lib.hid (show ∀ W, Below w.heap.size w W → Pm.IsBytes W vb B from fun W hb => hB.below hb)
  have HI := Lib.hid (show ∀ W, Below w.heap.size w W → IsStrms (· < w.heap.size) W iv ins from fun W hb => hI.below hb)
  have HX := Lib.hid (show ∀ W, Below w.heap.size w W → IsInts (· < w.heap.size) W xv xs from fun W hb => hX.below hb)
  have HY := Lib.hid (show ∀ W, Below w.heap.size w W → IsInts (· < w.heap.size) W yv ys from fun W hb => hY.below hb)
  obtain ⟨H, hH⟩ : ∃ H, H = heavyB A B ins [xs, ys] := ⟨_, rfl⟩
  obtain ⟨F, hF⟩ : ∃ F, F = fitB k n A B ins := ⟨_, rfl⟩
  have HH := Lib.hid hH
  have HF := Lib.hid hF
  obtain ⟨ai, ci, hiv, -⟩ := id hI
  obtain ⟨ax, cx, hxv, -⟩ := id hX
  obtain ⟨ay, cy, hyv, -⟩ := id hY
  subst hiv hxv hyv
  clear hT hA hB hI hX hY hH hF
  unfold Pm.parV
  go_enter Tryd.func7, Tryd.ntmps7
  go_wp2_with fail
  have hbox : Below w.heap.size w (w.alloc (.cells #[.int .i64 k, .int .i64 n, va, vb] 24)) := (Below.refl _ _).alloc (Nat.le_refl _) _
  have hbx2 : Below w.heap.size w ((w.alloc (.cells #[.int .i64 k, .int .i64 n, va, vb] 24)).alloc (.cells #[.slice ax xs.length cx, .slice ay ys.length cy] 37)) := hbox.alloc (by simp) _
  have hcc := ints_list2 (w.alloc (.cells #[.int .i64 k, .int .i64 n, va, vb] 24)) (.slice ax xs.length cx) (.slice ay ys.length cy) xs ys (fun _ => True) trivial ((HX.out _ hbox).mono (fun _ _ _ => trivial)) ((HY.out _ hbox).mono (fun _ _ _ => trivial)) (0, 0)
  rw [World.size_alloc] at hcc
  have hheavy := heavy_any k n va vb (.slice ai ins.length ci) _ A B ins [xs, ys] _ (HA.out _ hbx2) (HB.out _ hbx2) (HI.out _ hbx2) hcc (by simp)
  unfold Pm.parV at hheavy
  refine hheavy.mono ?_
  clear hheavy hcc
  rintro e w1 ⟨rfl, hb1⟩
  obtain ⟨c0, c1, c2, c3⟩ := box_cells (((Below.refl _ _).alloc (Nat.le_refl _) _).trans (hb1.mono (by simp)))
  have hb := hbx2.trans (hb1.mono hbx2.size)
  have HW := Lib.hid hb
  clear hbox hbx2 hb1 hb
  rw [← HH.out]
  cases H with
  | true =>
    go_wp2_with fail
    refine (awake_true _ (HT.out _ HW.out)).mono ?_
    rintro e w2 ⟨rfl, hb2⟩
    go_wp2_with fail
    go_ret
    exact ⟨rfl, HW.out.trans (hb2.mono HW.out.size)⟩
  | false =>
    obtain ⟨sA, sB, s8, sI, sC⟩ := heavy_no HH.out.symm
    have SI := Lib.hid sI
    have SC := Lib.hid sC
    have HBX := Lib.hid (show ∀ W, Below w1.heap.size w1 W → W.cell? ⟨w.heap.size, 0, none⟩ = some (.int .i64 k) ∧ W.cell? ⟨w.heap.size, 1, none⟩ = some (.int .i64 n) ∧ W.cell? ⟨w.heap.size, 2, none⟩ = some va ∧ W.cell? ⟨w.heap.size, 3, none⟩ = some vb from fun W hb => ⟨Pm.Below.cell hb c0, Pm.Below.cell hb c1, Pm.Below.cell hb c2, Pm.Below.cell hb c3⟩)
    clear sI sC
    go_wp2_with fail
    have hfit := fit_any k n hn va vb (.slice ai ins.length ci) A B ins w1 (HA.out _ HW.out) (HB.out _ HW.out) (HI.out _ HW.out) (by omega)
    unfold Pm.parV at hfit
    refine hfit.mono ?_
    clear hfit
    rintro e w2 ⟨rfl, hb2⟩
    have HW2 := Lib.hid (HW.out.trans (hb2.mono HW.out.size))
    have HB2 := Lib.hid hb2
    clear hb2 c0 c1 c2 c3
    rw [← HF.out]
    cases F with
    | false =>
      go_wp2_with fail
      refine (awake_true _ (HT.out _ HW2.out)).mono ?_
      rintro e w3 ⟨rfl, hb3⟩
      go_wp2_with fail
      go_ret
      exact ⟨rfl, HW2.out.trans (hb3.mono HW2.out.size)⟩
    | true =>
      obtain ⟨rfl, N, rfl, n9, htake, hbound, hcheck, i, rfl⟩ := fit_yes HF.out.symm
      have HBs := Lib.hid (count_base (HT.out _ (Below.refl _ _)))
      have HTk := Lib.hid htake
      have HBo := Lib.hid hbound
      have HCh := Lib.hid hcheck
      have hlen := SI.out i (by simp)
      have hcx := SC.out xs (by simp)
      have hcy := SC.out ys (by simp)
      obtain ⟨c0, c1, c2, c3⟩ := HBX.out _ HB2.out
      clear htake hbound hcheck
      go_wp2_with fail
      have hnew := count_yes 9 N va vb A B w2 (HT.out _ HW2.out) (HA.out _ HW2.out) (HB.out _ HW2.out) HTk.out n9
      unfold Pm.parV at hnew
      refine hnew.mono ?_
      clear hnew
      rintro e w3 ⟨g, own, rfl, hR, hg, hb3⟩
      have HR := Lib.hid hR
      have HW3 := Lib.hid (HW2.out.trans (hb3.mono HW2.out.size))
      obtain ⟨c0, c1, c2, c3⟩ := HBX.out _ (HB2.out.trans (hb3.mono HB2.out.size))
      have HGw := Lib.hid (show ∀ k, own k → w.heap.size ≤ k from fun k hk => Nat.le_trans HW2.out.size (hg k hk))
      have HB3 := Lib.hid hb3
      have HG3 := Lib.hid (count_old hR)
      clear hR hb3 hg
      go_wp2_with fail
      have hnew := count_yes 9 N va vb A B w3 (HT.out _ HW3.out) (HA.out _ HW3.out) (HB.out _ HW3.out) HTk.out n9
      unfold Pm.parV at hnew
      refine hnew.mono ?_
      clear hnew
      rintro e w4 ⟨g', own', rfl, hR', hg', hb4⟩
      have HR4' := Lib.hid hR'
      have HR4 := Lib.hid (count_below HR.out hb4)
      have HW4 := Lib.hid (HW3.out.trans (hb4.mono HW3.out.size))
      have HGw' := Lib.hid (show ∀ k, own' k → w.heap.size ≤ k from fun k hk => Nat.le_trans HW3.out.size (hg' k hk))
      have HG4 := Lib.hid (show ∀ k, own' k → w3.heap.size ≤ k ∧ k < w4.heap.size from fun k hk => ⟨hg' k hk, count_old hR' k hk⟩)
      clear hb4 c0 c1 c2 c3 hR' hg'
      go_wp2_with fail
      refine (driveCount_any N A B g (countI N A B) own _ _ i xs w4 HR4.out ((HI.out _ HW4.out).mono (fun k _ h e => by have := HGw.out k e; omega)) ((HX.out _ HW4.out).mono (fun k _ h e => by have := HGw.out k e; omega)) (by omega) (by omega)).mono ?_
      rintro e w5 ⟨rfl, -, hf5⟩
      have hb5 : Below w.heap.size w w5 := Frame.belowO HW4.out HGw.out HW4.out.size hf5
      have HW5 := Lib.hid hb5
      have HR5 := Lib.hid (count_keep HR4'.out hf5 (fun k hk h => by have hbs := HBs.out; rcases hk with hk | hk; (have := HG4.out k hk; rcases h with h | h; (have := HG3.out k h; omega); omega); rcases h with h | h; (have := HGw.out k h; omega); (have := HW4.out.size; omega)))
      obtain ⟨d2, d4, d3⟩ := count_drive N A B i xs n9 (by omega)
      generalize drive (countF N A B) [i] xs 100000 0 (start (countF N A B) (countI N A B)) = D at d2 d3 d4 ⊢
      have HD2 := Lib.hid d2
      have HD3 := Lib.hid d3
      have HD4 := Lib.hid d4
      clear hf5 hb5 d2 d3 d4
      go_wp2_with fail
      refine (driveCount_any N A B g' (countI N A B) own' _ _ i ys w5 HR5.out ((HI.out _ HW5.out).mono (fun k _ h e => by have := HGw'.out k e; omega)) ((HY.out _ HW5.out).mono (fun k _ h e => by have := HGw'.out k e; omega)) (by omega) (by omega)).mono ?_
      rintro e w6 ⟨rfl, -, hf6⟩
      have hb6 : Below w.heap.size w w6 := Frame.belowO HW5.out HGw'.out HW5.out.size hf6
      have HW6 := Lib.hid hb6
      have hsz6 := hb6.size
      obtain ⟨d2, d4, d3⟩ := count_drive N A B i ys n9 (by omega)
      generalize drive (countF N A B) [i] ys 100000 0 (start (countF N A B) (countI N A B)) = D' at d2 d3 d4 ⊢
      rw [← HD2.out] at d2
      rw [← HD3.out] at d3
      rw [← HD4.out] at d4
      obtain ⟨S0, S1, S2, S3, e0, e1, e2, e3, hlit⟩ := got_lit D.got
      have hlit' : gotA D'.got = #[.string S0, .string S1, .string S2, .string S3, .int .i64 D.got.need, .int .i64 D.got.err, .int .i64 D'.got.held, .int .i64 (D'.got.taken 0), .int .i64 (D'.got.taken 1), .int .i64 (D'.got.taken 2), .int .i64 (D'.got.taken 3), .bool false] := by
        rw [← e0, ← e1, ← e2, ← e3, ← d2, ← d3, ← d4]
        rfl
      rw [hlit, hlit']
      have heq := eq_outs S0 S1 S2 S3
      have heq2 := eq_outs2 S0 S1 S2 S3
      have q1 : (D.got.need == D.got.need) = true := by simp
      have q2 : (D.got.err == D.got.err) = true := by simp
      clear hlit hlit' hf6 hb6 d2 d3 d4 e0 e1 e2 e3
      go_wp2_with fail
      have hb7 : ∀ o1 o2, Below w.heap.size w ((w6.alloc o1).alloc o2) := fun o1 o2 => (HW6.out.alloc hsz6 o1).alloc (by simp; omega) o2
      refine (awake_true _ (HT.out _ (hb7 _ _))).mono ?_
      rintro e w7 ⟨rfl, hb8⟩
      have hfin := (hb7 _ _).trans (hb8.mono (hb7 _ _).size)
      have HFin := Lib.hid hfin
      clear hfin hb8 hb7 heq heq2 q1 q2
      go_wp2_with fail
      go_ret
      exact ⟨rfl, HFin.out⟩

end Go.Proofs.YtlflhjgfegflfaaDoor
