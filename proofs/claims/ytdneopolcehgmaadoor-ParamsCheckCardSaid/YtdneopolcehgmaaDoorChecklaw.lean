/- ParamsCheck's walk. -/
import Derived.Test.YtdneopolcehgmaaDoorBoundslaw
import Derived.Test.YtdneopolcehgmaaDoorRefcheck
import Derived.Test.YtdneopolcehgmaaDoorOwn
import Derived.Deep.RegionHeld3
namespace Go.Proofs.YtdneopolcehgmaaDoor
open Go.ChangeShapes Go.WideShapes Go.ChangeAt Go.RowKit Go.Deep

set_option maxRecDepth 100000 in
set_option maxHeartbeats 4000000 in
theorem checkLaw_any (k n : Int) (hn : Fits n) (va vb : Value) (A B : List UInt8) (w : World) (hT : Tab w) (hA : IsBytes w va A) (hB : IsBytes w vb B) :
    Calls Tryd.prog 3 #[parV k n va vb] w (Gives w (.bool true)) := by
  have HN := Lib.hid hn
  have HT := Lib.hid (show ∀ W, Below w.heap.size w W → Tab W from fun W hb => hT.below hb)
  have HA := Lib.hid (show ∀ W, Below w.heap.size w W → IsBytes W va A from fun W hb => hA.below hb)
  have HB := Lib.hid (show ∀ W, Below w.heap.size w W → IsBytes W vb B from fun W hb => hB.below hb)
  have HB0 := Lib.hid (show ∀ o1, Below w.heap.size w (w.alloc o1) from fun o1 => (Below.refl _ _).alloc (Nat.le_refl _) _)
  clear hT hA hB hn
  obtain ⟨L1, hL1⟩ : ∃ b, b = (decide (2000 < A.length) || decide (2000 < B.length)) := ⟨_, rfl⟩
  have HL1 := Lib.hid hL1
  clear hL1
  unfold parV
  go_enter Tryd.func3, Tryd.ntmps3
  go_wp2_with fail
  refine (long_any k n va vb A B _ (HA.out _ (HB0.out _)) (HB.out _ (HB0.out _))).mono ?_
  rintro e w1 ⟨rfl, hb1'⟩
  obtain ⟨c0, c1, c2, c3⟩ := boxed hb1'
  have hb1 := (HB0.out _).trans (hb1'.mono (HB0.out _).size)
  have HX := Lib.hid (show ∀ W, Below w1.heap.size w1 W → _ from fun W hb => boxed (hb1'.trans (hb.mono hb1'.size)))
  have HY := Lib.hid (show ∀ W, Below w1.heap.size w1 W → Below w.heap.size w W from fun W hb => hb1.trans (hb.mono hb1.size))
  clear hb1 hb1'
  rw [← HL1.out]
  cases L1 with
  | true =>
    go_wp2_with fail
    refine (awake_true _ (HT.out _ (HY.out _ (Below.refl _ _)))).mono ?_
    rintro e w' ⟨rfl, hb⟩
    go_wp2_with fail
    go_ret
    exact ⟨rfl, HY.out _ hb⟩
  | false =>
    have s1 : A.length ≤ 2000 ∧ B.length ≤ 2000 := by have := HL1.out; simp at this; omega
    obtain ⟨sA, sB⟩ := s1
    obtain ⟨E, hE⟩ : ∃ E : Int, E = checkE k n A B := ⟨_, rfl⟩
    have HE := Lib.hid hE
    clear hE
    have gE : (E == E) = true := by simp
    go_wp2_with fail
    refine (own_any k n va vb A B _ (HA.out _ (HY.out _ (Below.refl _ _))) (HB.out _ (HY.out _ (Below.refl _ _))) sA sB).mono ?_
    rintro e w2 ⟨xa, xb, rfl, hxa, hxb, hb2⟩
    unfold parV
    obtain ⟨aa, ca, rfl, -, -⟩ := id hxa
    obtain ⟨ab, cb, rfl, -, -⟩ := id hxb
    have HXA := Lib.hid hxa
    have HXB := Lib.hid hxb
    have HW2 := Lib.hid hb2
    clear hxa hxb hb2 c0 c1 c2 c3
    go_upto_region 4 with fail
    have hb3 : Below w2.heap.size w2 (w2.alloc (.cells #[.int .i64 k, .int .i64 n, .slice aa A.length ca, .slice ab B.length cb] 24)) := (Below.refl _ _).alloc (Nat.le_refl _) _
    have HZ := Lib.hid (show ∀ W, Below (w2.alloc (.cells #[.int .i64 k, .int .i64 n, .slice aa A.length ca, .slice ab B.length cb] 24)).heap.size (w2.alloc (.cells #[.int .i64 k, .int .i64 n, .slice aa A.length ca, .slice ab B.length cb] 24)) W →
      (W.cell? ⟨w.heap.size, 0, none⟩ = some (.int .i64 k) ∧ W.cell? ⟨w.heap.size, 1, none⟩ = some (.int .i64 n) ∧ W.cell? ⟨w.heap.size, 2, none⟩ = some va ∧ W.cell? ⟨w.heap.size, 3, none⟩ = some vb) ∧
      (W.cell? ⟨w2.heap.size, 0, none⟩ = some (.int .i64 k) ∧ W.cell? ⟨w2.heap.size, 1, none⟩ = some (.int .i64 n) ∧ W.cell? ⟨w2.heap.size, 2, none⟩ = some (.slice aa A.length ca) ∧ W.cell? ⟨w2.heap.size, 3, none⟩ = some (.slice ab B.length cb)) from
      fun W hb => ⟨HX.out W (HW2.out.trans ((hb3.trans (hb.mono hb3.size)).mono HW2.out.size)), boxed hb⟩)
    have HV := Lib.hid (show ∀ W, Below (w2.alloc (.cells #[.int .i64 k, .int .i64 n, .slice aa A.length ca, .slice ab B.length cb] 24)).heap.size (w2.alloc (.cells #[.int .i64 k, .int .i64 n, .slice aa A.length ca, .slice ab B.length cb] 24)) W → Below w.heap.size w W from
      fun W hb => HY.out W (HW2.out.trans ((hb3.trans (hb.mono hb3.size)).mono HW2.out.size)))
    have HU := Lib.hid (show ∀ W, Below (w2.alloc (.cells #[.int .i64 k, .int .i64 n, .slice aa A.length ca, .slice ab B.length cb] 24)).heap.size (w2.alloc (.cells #[.int .i64 k, .int .i64 n, .slice aa A.length ca, .slice ab B.length cb] 24)) W → IsBytes W (.slice aa A.length ca) A ∧ IsBytes W (.slice ab B.length cb) B from
      fun W hb => ⟨HXA.out.below (hb3.trans (hb.mono hb3.size)), HXB.out.below (hb3.trans (hb.mono hb3.size))⟩)
    clear hb3 HX HY HW2 HXA HXB HB0
    generalize w2.alloc (.cells #[.int .i64 k, .int .i64 n, .slice aa A.length ca, .slice ab B.length cb] 24) = w3 at HZ HV HU ⊢
    have hw : Below w3.heap.size w3 w3.drew := (Below.refl _ _).drew
    go_region_held3 (fun W => (W.cell? ⟨w.heap.size, 0, none⟩ = some (.int .i64 k) ∧ W.cell? ⟨w.heap.size, 1, none⟩ = some (.int .i64 n) ∧ W.cell? ⟨w.heap.size, 2, none⟩ = some va ∧ W.cell? ⟨w.heap.size, 3, none⟩ = some vb) ∧
      (W.cell? ⟨w2.heap.size, 0, none⟩ = some (.int .i64 k) ∧ W.cell? ⟨w2.heap.size, 1, none⟩ = some (.int .i64 n) ∧ W.cell? ⟨w2.heap.size, 2, none⟩ = some (.slice aa A.length ca) ∧ W.cell? ⟨w2.heap.size, 3, none⟩ = some (.slice ab B.length cb)))
      (exact HZ.out _ hw)
      (first
      | (go_at_call 10; refine (check_any k n va vb A B _ (HT.out _ (HV.out _ hw)) (HA.out _ (HV.out _ hw)) (HB.out _ (HV.out _ hw))).mono ?_; rw [← HE.out]; rintro e w1 ⟨rfl, hb1⟩; have hw := hw.trans (hb1.mono hw.size); clear hb1)
      | (go_at_call 11; refine (refCheck_any k n HN.out _ _ A B _ (HU.out _ hw).1 (HU.out _ hw).2 sA).mono ?_; rw [← HE.out]; rintro e w1 ⟨rfl, hb1⟩; have hw := hw.trans (hb1.mono hw.size); clear hb1)
      | (go_at_call 12; refine (refSame_any k n va vb A B k n _ _ A B _ (HA.out _ (HV.out _ hw)) (HB.out _ (HV.out _ hw)) (HU.out _ hw).1 (HU.out _ hw).2).mono ?_; rw [sameB_self]; rintro e w1 ⟨rfl, hb1⟩; have hw := hw.trans (hb1.mono hw.size); clear hb1)
      | (go_at_call 8; refine (awake_true _ (HT.out _ (HV.out _ hw))).mono ?_; rintro e w1 ⟨rfl, hb1⟩; have hw := hw.trans (hb1.mono hw.size); clear hb1))
    all_goals (go_wp2_with fail; go_ret; exact ⟨rfl, HV.out _ hw⟩)

end Go.Proofs.YtdneopolcehgmaaDoor
