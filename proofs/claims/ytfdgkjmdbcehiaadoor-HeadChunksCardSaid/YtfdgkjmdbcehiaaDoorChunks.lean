/- HeadChunks's walk. -/
import Derived.Test.YtfdgkjmdbcehiaaDoorHolds
import Derived.ChangeKeysEq
import Derived.Laws.StructEq
namespace Go.Proofs.YtfdgkjmdbcehiaaDoor
open Go.RowKit

theorem Tryd.info9s : (Tryd.prog.info? 9).map (fun i => (i.zero, i.size, i.bytes)) = some (some (.string ByteArray.empty), 1, 16) := by kernel_rfl
theorem eq_outs2 (S0 S1 S2 S3 : ByteArray) (w : World) : (Op.equalIn 10000 39 (.agg #[.string S0, .string S1, .string S2, .string S3]) (.agg #[.string S0, .string S1, .string S2, .string S3])).run Tryd.prog w = .ok true w := by
  obtain ⟨i0, hi, hz0, hz1, hz2⟩ := info_parts Tryd.info9s
  rw [show (10000 : Nat) = 9999 + 1 from rfl, run_equalIn_array w 9999 _ _ Tryd.underlying39 hi]
  have hc : Tryd.prog.cellsOf 9 = 1 := by kernel_rfl
  rw [hc]
  simp only [show List.range 4 = [0, 1, 2, 3] from rfl, Op.eqItems, Sem.run_bind]
  simp [part, go_sem, Tryd.underlying9]
theorem eq_outs (S0 S1 S2 S3 : ByteArray) (w : World) : (binOp .eql 39 (.agg #[.string S0, .string S1, .string S2, .string S3]) (.agg #[.string S0, .string S1, .string S2, .string S3])).run Tryd.prog w = .ok (.bool true) w := by
  rw [run_eql_struct, eq_outs2]
  rfl
theorem ints_list2 (w : World) (av bv : Value) (a b : List Int) (q : Nat → Prop) (hq : q w.heap.size) (h : IsInts q w av a) (k : IsInts q w bv b) (m : Nat × Nat) : IsIntss q (w.alloc (.cells #[av, bv] 37 m)) (.slice (some ⟨w.heap.size, 0, none⟩) 2 2) [a, b] := by
  refine ⟨_, 2, rfl, fun j t' hj => ?_⟩
  match j, hj with
  | 0, hj =>
    simp at hj
    subst hj
    refine ⟨_, 0, av, rfl, hq, ?_, h.below ((Below.refl _ _).alloc (Nat.le_refl _) _)⟩
    rw [Nat.zero_add, cell_of_row _ _ _ _ _ _ (heap_alloc_last w _)]
    rfl
  | 1, hj =>
    simp at hj
    subst hj
    refine ⟨_, 0, bv, rfl, hq, ?_, k.below ((Below.refl _ _).alloc (Nat.le_refl _) _)⟩
    rw [Nat.zero_add, cell_of_row _ _ _ _ _ _ (heap_alloc_last w _)]
    rfl
  | j + 2, hj => simp at hj

set_option maxRecDepth 100000 in
set_option maxHeartbeats 16000000 in
theorem chunksLaw_any (k n : Int) (hn : Pm.Fits n) (va vb iv xv yv : Value) (A B : List UInt8) (ins : List Strm) (xs ys : List Int) (w : World) (hT : Pm.Tab w) (hA : Pm.IsBytes w va A) (hB : Pm.IsBytes w vb B) (hI : IsStrms (· < w.heap.size) w iv ins) (hX : IsInts (· < w.heap.size) w xv xs) (hY : IsInts (· < w.heap.size) w yv ys) :
    Calls Tryd.prog 7 #[Pm.parV k n va vb, iv, xv, yv] w (Pm.Gives w (.bool true)) := by
  have HT := Lib.hid (show ∀ W, Below w.heap.size w W → Pm.Tab W from fun W hb => hT.below hb)
  have HA := Lib.hid (show ∀ W, Below w.heap.size w W → Pm.IsBytes W va A from fun W hb => hA.below hb)
  have HB := Lib.hid (show ∀ W, Below w.heap.size w W → Pm.IsBytes W vb B from fun W hb => hB.below hb)
  have HI := Lib.hid (show ∀ W, Below w.heap.size w W → IsStrms (· < w.heap.size) W iv ins from fun W hb => hI.below hb)
  have HX := Lib.hid (show ∀ W, Below w.heap.size w W → IsInts (· < w.heap.size) W xv xs from fun W hb => hX.below hb)
  have HY := Lib.hid (show ∀ W, Below w.heap.size w W → IsInts (· < w.heap.size) W yv ys from fun W hb => hY.below hb)
  obtain ⟨H, hH⟩ : ∃ H, H = heavyB A B ins [xs, ys] := ⟨_, rfl⟩
  obtain ⟨F, hF⟩ : ∃ F, F = fitB k n A B ins := ⟨_, rfl⟩
  have HH := Lib.hid hH
  have HF := Lib.hid hF
  obtain ⟨ai, ci, hiv, -⟩ := id hI
  obtain ⟨ax, cx, hxv, -⟩ := id hX
  obtain ⟨ay, cy, hyv, -⟩ := id hY
  subst hiv hxv hyv
  clear hT hA hB hI hX hY hH hF
  unfold Pm.parV
  go_enter Tryd.func7, Tryd.ntmps7
  go_wp2_with fail
  have hbox : Below w.heap.size w (w.alloc (.cells #[.int .i64 k, .int .i64 n, va, vb] 24)) := (Below.refl _ _).alloc (Nat.le_refl _) _
  have hbx2 : Below w.heap.size w ((w.alloc (.cells #[.int .i64 k, .int .i64 n, va, vb] 24)).alloc (.cells #[.slice ax xs.length cx, .slice ay ys.length cy] 37)) := hbox.alloc (by simp) _
  have hcc := ints_list2 (w.alloc (.cells #[.int .i64 k, .int .i64 n, va, vb] 24)) (.slice ax xs.length cx) (.slice ay ys.length cy) xs ys (fun _ => True) trivial ((HX.out _ hbox).mono (fun _ _ _ => trivial)) ((HY.out _ hbox).mono (fun _ _ _ => trivial)) (0, 0)
  rw [World.size_alloc] at hcc
  have hheavy := heavy_any k n va vb (.slice ai ins.length ci) _ A B ins [xs, ys] _ (HA.out _ hbx2) (HB.out _ hbx2) (HI.out _ hbx2) hcc (by simp)
  unfold Pm.parV at hheavy
  refine hheavy.mono ?_
  clear hheavy hcc
  rintro e w1 ⟨rfl, hb1⟩
  obtain ⟨c0, c1, c2, c3⟩ := box_cells (((Below.refl _ _).alloc (Nat.le_refl _) _).trans (hb1.mono (by simp)))
  have hb := hbx2.trans (hb1.mono hbx2.size)
  have HW := Lib.hid hb
  clear hbox hbx2 hb1 hb
  rw [← HH.out]
  cases H with
  | true =>
    go_wp2_with fail
    refine (awake_true _ (HT.out _ HW.out)).mono ?_
    rintro e w2 ⟨rfl, hb2⟩
    go_wp2_with fail
    go_ret
    exact ⟨rfl, HW.out.trans (hb2.mono HW.out.size)⟩
  | false =>
    obtain ⟨sA, sB, s8, sI, sC⟩ := heavy_no HH.out.symm
    have SI := Lib.hid sI
    have SC := Lib.hid sC
    have HBX := Lib.hid (show ∀ W, Below w1.heap.size w1 W → W.cell? ⟨w.heap.size, 0, none⟩ = some (.int .i64 k) ∧ W.cell? ⟨w.heap.size, 1, none⟩ = some (.int .i64 n) ∧ W.cell? ⟨w.heap.size, 2, none⟩ = some va ∧ W.cell? ⟨w.heap.size, 3, none⟩ = some vb from fun W hb => ⟨Pm.Below.cell hb c0, Pm.Below.cell hb c1, Pm.Below.cell hb c2, Pm.Below.cell hb c3⟩)
    clear sI sC
    go_wp2_with fail
    have hfit := fit_any k n hn va vb (.slice ai ins.length ci) A B ins w1 (HA.out _ HW.out) (HB.out _ HW.out) (HI.out _ HW.out) (by omega)
    unfold Pm.parV at hfit
    refine hfit.mono ?_
    clear hfit
    rintro e w2 ⟨rfl, hb2⟩
    have HW2 := Lib.hid (HW.out.trans (hb2.mono HW.out.size))
    have HB2 := Lib.hid hb2
    clear hb2 c0 c1 c2 c3
    rw [← HF.out]
    cases F with
    | false =>
      go_wp2_with fail
      refine (awake_true _ (HT.out _ HW2.out)).mono ?_
      rintro e w3 ⟨rfl, hb3⟩
      go_wp2_with fail
      go_ret
      exact ⟨rfl, HW2.out.trans (hb3.mono HW2.out.size)⟩
    | true =>
      obtain ⟨rfl, n0, n9, rfl, rfl, htake, hbound, hcheck, i, rfl⟩ := fit_yes HF.out.symm
      obtain ⟨N, rfl⟩ : ∃ N : Nat, n = N := ⟨n.toNat, by omega⟩
      have HTk := Lib.hid htake
      have HBo := Lib.hid hbound
      have HCh := Lib.hid hcheck
      have hlen := SI.out i (by simp)
      have hcx := SC.out xs (by simp)
      have hcy := SC.out ys (by simp)
      obtain ⟨c0, c1, c2, c3⟩ := HBX.out _ HB2.out
      clear htake hbound hcheck
      go_wp2_with fail
      have hnew := new_yes 3 N va vb [] [] w2 (HT.out _ HW2.out) (HA.out _ HW2.out) (HB.out _ HW2.out) HTk.out (by omega)
      unfold Pm.parV at hnew
      refine hnew.mono ?_
      clear hnew
      rintro e w3 ⟨g, rfl, hg, hR, hb3⟩
      have HR := Lib.hid hR
      have HW3 := Lib.hid (HW2.out.trans (hb3.mono HW2.out.size))
      obtain ⟨c0, c1, c2, c3⟩ := HBX.out _ (HB2.out.trans (hb3.mono HB2.out.size))
      have hgw : w.heap.size ≤ g := Nat.le_trans HW2.out.size hg
      have HB3 := Lib.hid hb3
      have hg3 := HR.out.spl.lt
      clear hR hb3
      go_wp2_with fail
      have hnew := new_yes 3 N va vb [] [] w3 (HT.out _ HW3.out) (HA.out _ HW3.out) (HB.out _ HW3.out) HTk.out (by omega)
      unfold Pm.parV at hnew
      refine hnew.mono ?_
      clear hnew
      rintro e w4 ⟨g', rfl, hg', hR', hb4⟩
      have HR4' := Lib.hid hR'
      have HR4 := Lib.hid (HR.out.frame (Below.toFrame hb4 fun _ => False) (fun h => h))
      have HW4 := Lib.hid (HW3.out.trans (hb4.mono HW3.out.size))
      have hgw' : w.heap.size ≤ g' := Nat.le_trans HW3.out.size hg'
      have hg4 := HR4'.out.spl.lt
      clear hb4 c0 c1 c2 c3 hR'
      go_wp2_with fail
      refine (driveHead_any g (headS N) _ _ i xs w4 HR4.out ((HI.out _ HW4.out).mono (fun k _ h => by omega)) ((HX.out _ HW4.out).mono (fun k _ h => by omega)) (by omega) (by omega)).mono ?_
      rintro e w5 ⟨rfl, -, hf5⟩
      have hb5 : Below w.heap.size w w5 := Frame.belowG HW4.out hgw hf5
      have HW5 := Lib.hid hb5
      have HR5 := Lib.hid (HR4'.out.frame hf5 (fun h => by rcases h with h | h <;> omega))
      obtain ⟨-, d2, d3, d4⟩ := head_drive N i xs (by omega)
      generalize drive headMach [i] xs 100000 0 (start headMach (headS N)) = D at d2 d3 d4 ⊢
      have HD2 := Lib.hid d2
      have HD3 := Lib.hid d3
      have HD4 := Lib.hid d4
      clear hf5 hb5 d2 d3 d4
      go_wp2_with fail
      refine (driveHead_any g' (headS N) _ _ i ys w5 HR5.out ((HI.out _ HW5.out).mono (fun k _ h => by omega)) ((HY.out _ HW5.out).mono (fun k _ h => by omega)) (by omega) (by omega)).mono ?_
      rintro e w6 ⟨rfl, -, hf6⟩
      have hb6 : Below w.heap.size w w6 := Frame.belowG HW5.out hgw' hf6
      have HW6 := Lib.hid hb6
      have hsz6 := hb6.size
      obtain ⟨-, d2, d3, d4⟩ := head_drive N i ys (by omega)
      generalize drive headMach [i] ys 100000 0 (start headMach (headS N)) = D' at d2 d3 d4 ⊢
      rw [← HD2.out] at d2
      rw [← HD3.out] at d3
      rw [← HD4.out] at d4
      obtain ⟨S0, S1, S2, S3, e0, e1, e2, e3, hlit⟩ := got_lit D.got
      have hlit' : gotA D'.got = #[.string S0, .string S1, .string S2, .string S3, .int .i64 D.got.need, .int .i64 D.got.err, .int .i64 D'.got.held, .int .i64 (D'.got.taken 0), .int .i64 (D'.got.taken 1), .int .i64 (D'.got.taken 2), .int .i64 (D'.got.taken 3), .bool false] := by
        rw [← e0, ← e1, ← e2, ← e3, ← d2, ← d3, ← d4]
        rfl
      rw [hlit, hlit']
      have heq := eq_outs S0 S1 S2 S3
      have heq2 := eq_outs2 S0 S1 S2 S3
      have q1 : (D.got.need == D.got.need) = true := by simp
      have q2 : (D.got.err == D.got.err) = true := by simp
      clear hlit hlit' hf6 hb6 d2 d3 d4 e0 e1 e2 e3
      go_wp2_with fail
      have hb7 : ∀ o1 o2, Below w.heap.size w ((w6.alloc o1).alloc o2) := fun o1 o2 => (HW6.out.alloc hsz6 o1).alloc (by simp; omega) o2
      refine (awake_true _ (HT.out _ (hb7 _ _))).mono ?_
      rintro e w7 ⟨rfl, hb8⟩
      have hfin := (hb7 _ _).trans (hb8.mono (hb7 _ _).size)
      have HFin := Lib.hid hfin
      clear hfin hb8 hb7 heq heq2 q1 q2
      go_wp2_with fail
      go_ret
      exact ⟨rfl, HFin.out⟩

end Go.Proofs.YtfdgkjmdbcehiaaDoor
