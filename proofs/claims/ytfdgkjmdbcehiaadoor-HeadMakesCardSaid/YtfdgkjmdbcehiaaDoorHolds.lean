/- HeadHolds's walk. -/
import Derived.Test.YtfdgkjmdbcehiaaDoorAwake
import Derived.Test.YtfdgkjmdbcehiaaDoorFfit
import Derived.Test.YtfdgkjmdbcehiaaDoorPrefcheck
import Derived.Outline
namespace Go.Proofs.YtfdgkjmdbcehiaaDoor
open Go.RowKit

theorem drive_held {U : Type} (tell : Teller U) (ins : List Strm) (cuts : List Int) : ∀ (f n : Nat) (x : DS (LS U)), x.got.held ≤ 64 → x.s.b.length ≤ 64 → (drive (linesM tell) ins cuts f n x).got.held ≤ 64 ∧ (drive (linesM tell) ins cuts f n x).s.b.length ≤ 64 := by
  intro f
  induction f with
  | zero => intro n x h1 h2; exact ⟨h1, h2⟩
  | succ f ih =>
    intro n x h1 h2
    rw [drive]
    split
    · cases hs : step (linesM tell) ins cuts n x with
      | none => exact ⟨h1, h2⟩
      | some y =>
        have hy : y.got.held ≤ 64 ∧ y.s.b.length ≤ 64 := by
          have key : ∀ (x' : DS (LS U)) (r : LS U × Outs × Int), x'.got.held ≤ 64 → r.1.b.length ≤ 64 → (after (linesM tell) x' r).got.held ≤ 64 ∧ (after (linesM tell) x' r).s.b.length ≤ 64 := by
            intro x' r k1 k2
            refine ⟨?_, k2⟩
            show max x'.got.held (r.1.b.length : Int) ≤ 64
            omega
          unfold step at hs
          split at hs
          · cases hs; exact key x _ h1 h2
          · split at hs
            · cases hs
            · split at hs
              · cases hs
                exact key _ _ h1 (feedB_le tell _ _ h2)
              · split at hs
                · cases hs
                  refine key _ _ h1 ?_
                  show (endB tell x.s).1.b.length ≤ 64
                  unfold endB
                  split <;> simp
                · cases hs
        exact ih (n + 1) y hy.1 hy.2
    · exact ⟨h1, h2⟩

theorem got_lit (g : GotL) : ∃ S0 S1 S2 S3 : ByteArray, strV (g.outs 0) = .string S0 ∧ strV (g.outs 1) = .string S1 ∧ strV (g.outs 2) = .string S2 ∧ strV (g.outs 3) = .string S3 ∧
    gotA g = #[.string S0, .string S1, .string S2, .string S3, .int .i64 g.need, .int .i64 g.err, .int .i64 g.held, .int .i64 (g.taken 0), .int .i64 (g.taken 1), .int .i64 (g.taken 2), .int .i64 (g.taken 3), .bool false] :=
  ⟨_, _, _, _, rfl, rfl, rfl, rfl, rfl⟩
theorem ints_list (w : World) (cv : Value) (cuts : List Int) (q : Nat → Prop) (hq : q w.heap.size) (h : IsInts q w cv cuts) (m : Nat × Nat) : IsIntss q (w.alloc (.cells #[cv] 37 m)) (.slice (some ⟨w.heap.size, 0, none⟩) 1 1) [cuts] := by
  refine ⟨_, 1, rfl, fun j t' hj => ?_⟩
  match j, hj with
  | 0, hj =>
    simp at hj
    subst hj
    refine ⟨_, 0, cv, rfl, hq, ?_, h.below ((Below.refl _ _).alloc (Nat.le_refl _) _)⟩
    rw [Nat.zero_add, cell_of_row _ _ _ _ _ _ (heap_alloc_last w _)]
    rfl
  | j + 1, hj => simp at hj

/-- Parameters that were boxed. -/
theorem box_cells {w W : World} {k n : Int} {va vb : Value} (hb : Below (w.alloc (.cells #[.int .i64 k, .int .i64 n, va, vb] 24)).heap.size (w.alloc (.cells #[.int .i64 k, .int .i64 n, va, vb] 24)) W) :
    W.cell? ⟨w.heap.size, 0, none⟩ = some (.int .i64 k) ∧ W.cell? ⟨w.heap.size, 1, none⟩ = some (.int .i64 n) ∧ W.cell? ⟨w.heap.size, 2, none⟩ = some va ∧ W.cell? ⟨w.heap.size, 3, none⟩ = some vb :=
  ⟨Pm.Below.cell hb (by simp), Pm.Below.cell hb (by simp), Pm.Below.cell hb (by simp), Pm.Below.cell hb (by simp)⟩

set_option maxRecDepth 100000 in
set_option maxHeartbeats 16000000 in
theorem holdsLaw_any (k n : Int) (hn : Pm.Fits n) (va vb iv cv : Value) (A B : List UInt8) (ins : List Strm) (cuts : List Int) (w : World) (hT : Pm.Tab w) (hA : Pm.IsBytes w va A) (hB : Pm.IsBytes w vb B) (hI : IsStrms (· < w.heap.size) w iv ins) (hC : IsInts (· < w.heap.size) w cv cuts) :
    Calls Tryd.prog 5 #[Pm.parV k n va vb, iv, cv] w (Pm.Gives w (.bool true)) := by
  have HT := Lib.hid (show ∀ W, Below w.heap.size w W → Pm.Tab W from fun W hb => hT.below hb)
  have HA := Lib.hid (show ∀ W, Below w.heap.size w W → Pm.IsBytes W va A from fun W hb => hA.below hb)
  have HB := Lib.hid (show ∀ W, Below w.heap.size w W → Pm.IsBytes W vb B from fun W hb => hB.below hb)
  have HI := Lib.hid (show ∀ W, Below w.heap.size w W → IsStrms (· < w.heap.size) W iv ins from fun W hb => hI.below hb)
  have HC := Lib.hid (show ∀ W, Below w.heap.size w W → IsInts (· < w.heap.size) W cv cuts from fun W hb => hC.below hb)
  obtain ⟨H, hH⟩ : ∃ H, H = heavyB A B ins [cuts] := ⟨_, rfl⟩
  obtain ⟨F, hF⟩ : ∃ F, F = fitB k n A B ins := ⟨_, rfl⟩
  have HH := Lib.hid hH
  have HF := Lib.hid hF
  obtain ⟨ai, ci, hiv, -⟩ := id hI
  obtain ⟨ac, cc, hcv, -⟩ := id hC
  subst hiv hcv
  clear hT hA hB hI hC hH hF
  unfold Pm.parV
  go_enter Tryd.func5, Tryd.ntmps5
  go_wp2_with fail
  have hbox : Below w.heap.size w (w.alloc (.cells #[.int .i64 k, .int .i64 n, va, vb] 24)) := (Below.refl _ _).alloc (Nat.le_refl _) _
  have hbx2 : Below w.heap.size w ((w.alloc (.cells #[.int .i64 k, .int .i64 n, va, vb] 24)).alloc (.cells #[.slice ac cuts.length cc] 37)) := hbox.alloc (by simp) _
  have hcc := ints_list (w.alloc (.cells #[.int .i64 k, .int .i64 n, va, vb] 24)) (.slice ac cuts.length cc) cuts (fun _ => True) trivial ((HC.out _ hbox).mono (fun _ _ _ => trivial)) (0, 0)
  rw [World.size_alloc] at hcc
  have hheavy := heavy_any k n va vb (.slice ai ins.length ci) _ A B ins [cuts] _ (HA.out _ hbx2) (HB.out _ hbx2) (HI.out _ hbx2) hcc (by simp)
  unfold Pm.parV at hheavy
  refine hheavy.mono ?_
  clear hheavy hcc
  rintro e w1 ⟨rfl, hb1⟩
  obtain ⟨c0, c1, c2, c3⟩ := box_cells (((Below.refl _ _).alloc (Nat.le_refl _) _).trans (hb1.mono (by simp)))
  have hb := hbx2.trans (hb1.mono hbx2.size)
  have HW := Lib.hid hb
  clear hbox hbx2 hb1 hb
  rw [← HH.out]
  cases H with
  | true =>
    go_wp2_with fail
    refine (awake_true _ (HT.out _ HW.out)).mono ?_
    rintro e w2 ⟨rfl, hb2⟩
    go_wp2_with fail
    go_ret
    exact ⟨rfl, HW.out.trans (hb2.mono HW.out.size)⟩
  | false =>
    obtain ⟨sA, sB, s8, sI, sC⟩ := heavy_no HH.out.symm
    have SI := Lib.hid sI
    have SC := Lib.hid sC
    have HBX := Lib.hid (show ∀ W, Below w1.heap.size w1 W → W.cell? ⟨w.heap.size, 0, none⟩ = some (.int .i64 k) ∧ W.cell? ⟨w.heap.size, 1, none⟩ = some (.int .i64 n) ∧ W.cell? ⟨w.heap.size, 2, none⟩ = some va ∧ W.cell? ⟨w.heap.size, 3, none⟩ = some vb from fun W hb => ⟨Pm.Below.cell hb c0, Pm.Below.cell hb c1, Pm.Below.cell hb c2, Pm.Below.cell hb c3⟩)
    clear sI sC
    go_wp2_with fail
    have hfit := fit_any k n hn va vb (.slice ai ins.length ci) A B ins w1 (HA.out _ HW.out) (HB.out _ HW.out) (HI.out _ HW.out) (by omega)
    unfold Pm.parV at hfit
    refine hfit.mono ?_
    clear hfit
    rintro e w2 ⟨rfl, hb2⟩
    have HW2 := Lib.hid (HW.out.trans (hb2.mono HW.out.size))
    have HB2 := Lib.hid hb2
    clear hb2 c0 c1 c2 c3
    rw [← HF.out]
    cases F with
    | false =>
      go_wp2_with fail
      refine (awake_true _ (HT.out _ HW2.out)).mono ?_
      rintro e w3 ⟨rfl, hb3⟩
      go_wp2_with fail
      go_ret
      exact ⟨rfl, HW2.out.trans (hb3.mono HW2.out.size)⟩
    | true =>
      obtain ⟨rfl, n0, n9, rfl, rfl, htake, hbound, hcheck, i, rfl⟩ := fit_yes HF.out.symm
      obtain ⟨N, rfl⟩ : ∃ N : Nat, n = N := ⟨n.toNat, by omega⟩
      have HTk := Lib.hid htake
      have HBo := Lib.hid hbound
      have HCh := Lib.hid hcheck
      have hlen := SI.out i (by simp)
      have hcl := SC.out cuts (by simp)
      obtain ⟨c0, c1, c2, c3⟩ := HBX.out _ HB2.out
      clear htake hbound hcheck
      go_wp2_with fail
      have hnew := new_yes 3 N va vb [] [] w2 (HT.out _ HW2.out) (HA.out _ HW2.out) (HB.out _ HW2.out) HTk.out (by omega)
      unfold Pm.parV at hnew
      refine hnew.mono ?_
      clear hnew
      rintro e w3 ⟨g, rfl, hg, hR, hb3⟩
      have HR := Lib.hid hR
      have HW3 := Lib.hid (HW2.out.trans (hb3.mono HW2.out.size))
      obtain ⟨c0, c1, c2, c3⟩ := HBX.out _ (HB2.out.trans (hb3.mono HB2.out.size))
      have hgw : w.heap.size ≤ g := Nat.le_trans HW2.out.size hg
      have HB3 := Lib.hid hb3
      clear hR hb3 hg
      go_wp2_with fail
      have hbd := Pm.refBound_any 3 N hn va vb [] [] w3 (HA.out _ HW3.out) (HB.out _ HW3.out) (by simp)
      rw [HBo.out, HCh.out] at hbd
      unfold Pm.parV at hbd
      refine hbd.mono ?_
      clear hbd
      rintro e w4 ⟨rfl, hb4⟩
      have HR4 := Lib.hid (HR.out.frame (Below.toFrame hb4 fun _ => False) (fun h => h))
      have HW4 := Lib.hid (HW3.out.trans (hb4.mono HW3.out.size))
      clear hb4 c0 c1 c2 c3
      go_wp2_with fail
      refine (driveHead_any g (headS N) _ _ i cuts w4 HR4.out ((HI.out _ HW4.out).mono (fun k _ h => by omega)) ((HC.out _ HW4.out).mono (fun k _ h => by omega)) (by omega) (by omega)).mono ?_
      rintro e w5 ⟨rfl, hR5, hf5⟩
      obtain ⟨hh1, hh2⟩ := drive_held headT [i] cuts 100000 0 (start headMach (headS N)) (by simp [start]) (by simp [start, headS])
      rw [show linesM headT = headMach from rfl] at hh1 hh2
      generalize drive headMach [i] cuts 100000 0 (start headMach (headS N)) = D at hh1 hh2 hR5 ⊢
      obtain ⟨S0, S1, S2, S3, -, -, -, -, hlit⟩ := got_lit D.got
      rw [hlit]
      have hb5 : Below w.heap.size w w5 := Frame.belowG HW4.out hgw hf5
      have HW5 := Lib.hid hb5
      have hsz5 := hb5.size
      have goH := fun W : World => (head_goes g W).2.1
      have HR6 := Lib.hid (show ∀ o, headM.Rep g D.s (w5.alloc o) from fun o => hR5.frame (Below.toFrame ((Below.refl _ _).alloc (Nat.le_refl _) _) fun _ => False) (fun h => h))
      clear hlit hR5 hf5 hb5
      go_wp2_with fail
      refine (held_any (o := 0) (HR6.out _).spl).mono ?_
      rintro e w6 ⟨rfl, rfl⟩
      have q1 : (0 : Int) ≤ (D.s.b.length : Int) := by omega
      go_wp2_with fail
      refine (awake_true _ (HT.out _ (HW5.out.alloc hsz5 _))).mono ?_
      rintro e w7 ⟨rfl, hb7⟩
      go_wp2_with fail
      go_ret
      exact ⟨rfl, (HW5.out.alloc hsz5 _).trans (hb7.mono (HW5.out.alloc hsz5 _).size)⟩

end Go.Proofs.YtfdgkjmdbcehiaaDoor
