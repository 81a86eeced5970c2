/- ParamsSame's walk. -/
import Derived.Test.YtdneopolcehgmaaDoorOpen
import Derived.Test.YtdneopolcehgmaaDoorOwn
import Derived.Deep.RegionHeld3
namespace Go.Proofs.YtdneopolcehgmaaDoor
open Go.ChangeShapes Go.WideShapes Go.ChangeAt Go.RowKit Go.Deep

/-- Two parameters that were boxed. -/
theorem boxes {w W : World} {k n k' n' : Int} {va vb va' vb' : Value}
    (hb : Below ((w.alloc (.cells #[.int .i64 k, .int .i64 n, va, vb] 24)).alloc (.cells #[.int .i64 k', .int .i64 n', va', vb'] 24)).heap.size ((w.alloc (.cells #[.int .i64 k, .int .i64 n, va, vb] 24)).alloc (.cells #[.int .i64 k', .int .i64 n', va', vb'] 24)) W) :
    W.cell? ⟨w.heap.size, 0, none⟩ = some (.int .i64 k) ∧ W.cell? ⟨w.heap.size, 1, none⟩ = some (.int .i64 n) ∧ W.cell? ⟨w.heap.size, 2, none⟩ = some va ∧ W.cell? ⟨w.heap.size, 3, none⟩ = some vb ∧
    W.cell? ⟨w.heap.size + 1, 0, none⟩ = some (.int .i64 k') ∧ W.cell? ⟨w.heap.size + 1, 1, none⟩ = some (.int .i64 n') ∧ W.cell? ⟨w.heap.size + 1, 2, none⟩ = some va' ∧ W.cell? ⟨w.heap.size + 1, 3, none⟩ = some vb' :=
  ⟨Below.cell hb (by simp), Below.cell hb (by simp), Below.cell hb (by simp), Below.cell hb (by simp), Below.cell hb (by simp), Below.cell hb (by simp), Below.cell hb (by simp), Below.cell hb (by simp)⟩

set_option maxRecDepth 100000 in
set_option maxHeartbeats 4000000 in
theorem sameLaw_any (k n : Int) (va vb : Value) (A B : List UInt8) (k' n' : Int) (va' vb' : Value) (A' B' : List UInt8) (w : World) (hT : Tab w) (hA : IsBytes w va A) (hB : IsBytes w vb B) (hA' : IsBytes w va' A') (hB' : IsBytes w vb' B') :
    Calls Tryd.prog 5 #[parV k n va vb, parV k' n' va' vb'] w (Gives w (.bool true)) := by
  have HT := Lib.hid (show ∀ W, Below w.heap.size w W → Tab W from fun W hb => hT.below hb)
  have HA := Lib.hid (show ∀ W, Below w.heap.size w W → IsBytes W va A from fun W hb => hA.below hb)
  have HB := Lib.hid (show ∀ W, Below w.heap.size w W → IsBytes W vb B from fun W hb => hB.below hb)
  have HA' := Lib.hid (show ∀ W, Below w.heap.size w W → IsBytes W va' A' from fun W hb => hA'.below hb)
  have HB' := Lib.hid (show ∀ W, Below w.heap.size w W → IsBytes W vb' B' from fun W hb => hB'.below hb)
  have hb0 : ∀ o1 o2, Below w.heap.size w ((w.alloc o1).alloc o2) := fun o1 o2 => ((Below.refl _ _).alloc (Nat.le_refl _) _).alloc (by simp) _
  have HB0 := Lib.hid hb0
  clear hb0 hT hA hB hA' hB'
  obtain ⟨L1, hL1⟩ : ∃ b, b = (decide (2000 < A.length) || decide (2000 < B.length)) := ⟨_, rfl⟩
  obtain ⟨L2, hL2⟩ : ∃ b, b = (decide (2000 < A'.length) || decide (2000 < B'.length)) := ⟨_, rfl⟩
  have HL1 := Lib.hid hL1
  have HL2 := Lib.hid hL2
  clear hL1 hL2
  unfold parV
  go_enter Tryd.func5, Tryd.ntmps5
  go_wp2_with fail
  refine (long_any k n va vb A B _ (HA.out _ (HB0.out _ _)) (HB.out _ (HB0.out _ _))).mono ?_
  rintro e w1 ⟨rfl, hb1'⟩
  obtain ⟨c0, c1, c2, c3, d0, d1, d2, d3⟩ := boxes hb1'
  have hb1 := (HB0.out _ _).trans (hb1'.mono (HB0.out _ _).size)
  have HW1 := Lib.hid hb1
  have HW1' := Lib.hid hb1'
  clear hb1 hb1'
  rw [← HL1.out]
  cases L1 with
  | true =>
    go_wp2_with fail
    refine (awake_true _ (HT.out _ HW1.out)).mono ?_
    rintro e w' ⟨rfl, hb⟩
    go_wp2_with fail
    go_ret
    exact ⟨rfl, HW1.out.trans (hb.mono HW1.out.size)⟩
  | false =>
    go_wp2_with fail
    refine (long_any k' n' va' vb' A' B' _ (HA'.out _ HW1.out) (HB'.out _ HW1.out)).mono ?_
    rintro e w2 ⟨rfl, hb2'⟩
    have hw2' := HW1'.out.trans (hb2'.mono HW1'.out.size)
    have hb2 := HW1.out.trans (hb2'.mono HW1.out.size)
    clear hb2' c0 c1 c2 c3 d0 d1 d2 d3 HW1 HW1'
    obtain ⟨c0, c1, c2, c3, d0, d1, d2, d3⟩ := boxes hw2'
    have HX := Lib.hid (show ∀ W, Below w2.heap.size w2 W → _ from fun W hb => boxes (hw2'.trans (hb.mono hw2'.size)))
    have HY := Lib.hid (show ∀ W, Below w2.heap.size w2 W → Below w.heap.size w W from fun W hb => hb2.trans (hb.mono hb2.size))
    clear hw2' hb2
    rw [← HL2.out]
    cases L2 with
    | true =>
      go_wp2_with fail
      refine (awake_true _ (HT.out _ (HY.out _ (Below.refl _ _)))).mono ?_
      rintro e w' ⟨rfl, hb⟩
      go_wp2_with fail
      go_ret
      exact ⟨rfl, HY.out _ hb⟩
    | false =>
      have s1 : A.length ≤ 2000 ∧ B.length ≤ 2000 := by have := HL1.out; simp at this; omega
      obtain ⟨sA, sB⟩ := s1
      obtain ⟨S, hS⟩ : ∃ b, b = sameB k n A B k' n' A' B' := ⟨_, rfl⟩
      have HS := Lib.hid hS
      clear hS
      have gS : (S == S) = true := by simp
      go_wp2_with fail
      have hw : Below w2.heap.size w2 w2.drew := (Below.refl _ _).drew
      go_region_held3 (fun W => W.cell? ⟨w.heap.size, 0, none⟩ = some (.int .i64 k) ∧ W.cell? ⟨w.heap.size, 1, none⟩ = some (.int .i64 n) ∧ W.cell? ⟨w.heap.size, 2, none⟩ = some va ∧ W.cell? ⟨w.heap.size, 3, none⟩ = some vb ∧ W.cell? ⟨w.heap.size + 1, 0, none⟩ = some (.int .i64 k') ∧ W.cell? ⟨w.heap.size + 1, 1, none⟩ = some (.int .i64 n') ∧ W.cell? ⟨w.heap.size + 1, 2, none⟩ = some va' ∧ W.cell? ⟨w.heap.size + 1, 3, none⟩ = some vb')
        (exact HX.out _ hw)
        (first
        | (go_at_call 17; refine (same_any k n va vb A B k n xa xb A B _ (HA.out _ (HY.out _ hw)) (HB.out _ (HY.out _ hw)) HXA.out HXB.out).mono ?_; rw [sameB_self]; rintro e w1 ⟨rfl, hb1⟩; have hw := hw.trans (hb1.mono hw.size); clear hb1)
        | (go_at_call 17; refine (same_any k n va vb A B k' n' va' vb' A' B' _ (HA.out _ (HY.out _ hw)) (HB.out _ (HY.out _ hw)) (HA'.out _ (HY.out _ hw)) (HB'.out _ (HY.out _ hw))).mono ?_; rw [← HS.out]; rintro e w1 ⟨rfl, hb1⟩; have hw := hw.trans (hb1.mono hw.size); clear hb1)
        | (go_at_call 12; refine (refSame_any k n va vb A B k' n' va' vb' A' B' _ (HA.out _ (HY.out _ hw)) (HB.out _ (HY.out _ hw)) (HA'.out _ (HY.out _ hw)) (HB'.out _ (HY.out _ hw))).mono ?_; rw [← HS.out]; rintro e w1 ⟨rfl, hb1⟩; have hw := hw.trans (hb1.mono hw.size); clear hb1)
        | (go_at_call 9; refine (own_any k n va vb A B _ (HA.out _ (HY.out _ hw)) (HB.out _ (HY.out _ hw)) sA sB).mono ?_; rintro e w1 ⟨xa, xb, rfl, hxa, hxb, hb1⟩; have HXA := Lib.hid hxa; have HXB := Lib.hid hxb; have hw := hw.trans (hb1.mono hw.size); clear hb1 hxa hxb)
        | (go_at_call 8; refine (awake_true _ (HT.out _ (HY.out _ hw))).mono ?_; rintro e w1 ⟨rfl, hb1⟩; have hw := hw.trans (hb1.mono hw.size); clear hb1))
      all_goals (go_wp2_with fail; go_ret; exact ⟨rfl, HY.out _ hw⟩)

end Go.Proofs.YtdneopolcehgmaaDoor
