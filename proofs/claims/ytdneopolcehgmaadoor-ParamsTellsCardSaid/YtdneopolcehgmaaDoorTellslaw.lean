/- ParamsTells' walk. -/
import Derived.Test.YtdneopolcehgmaaDoorBoundslaw
import Derived.Test.YtdneopolcehgmaaDoorRefarity
namespace Go.Proofs.YtdneopolcehgmaaDoor
open Go.ChangeShapes Go.WideShapes Go.ChangeAt Go.RowKit Go.Deep

set_option maxRecDepth 100000 in
set_option maxHeartbeats 4000000 in
theorem tellsLaw_any (k n : Int) (hn : Fits n) (va vb : Value) (A B : List UInt8) (w : World) (hT : Tab w) (hA : IsBytes w va A) (hB : IsBytes w vb B) :
    Calls Tryd.prog 4 #[parV k n va vb] w (Gives w (.bool true)) := by
  have HN := Lib.hid hn
  have HT := Lib.hid (show ∀ W, Below w.heap.size w W → Tab W from fun W hb => hT.below hb)
  have HA := Lib.hid (show ∀ W, Below w.heap.size w W → IsBytes W va A from fun W hb => hA.below hb)
  have HB := Lib.hid (show ∀ W, Below w.heap.size w W → IsBytes W vb B from fun W hb => hB.below hb)
  have HB0 := Lib.hid (show ∀ o1, Below w.heap.size w (w.alloc o1) from fun o1 => (Below.refl _ _).alloc (Nat.le_refl _) _)
  clear hT hA hB hn
  obtain ⟨L1, hL1⟩ : ∃ b, b = (decide (2000 < A.length) || decide (2000 < B.length)) := ⟨_, rfl⟩
  have HL1 := Lib.hid hL1
  clear hL1
  unfold parV
  go_enter Tryd.func4, Tryd.ntmps4
  go_wp2_with fail
  refine (long_any k n va vb A B _ (HA.out _ (HB0.out _)) (HB.out _ (HB0.out _))).mono ?_
  rintro e w1 ⟨rfl, hb1'⟩
  obtain ⟨c0, c1, c2, c3⟩ := boxed hb1'
  have hb1 := (HB0.out _).trans (hb1'.mono (HB0.out _).size)
  have HX := Lib.hid (show ∀ W, Below w1.heap.size w1 W → _ from fun W hb => boxed (hb1'.trans (hb.mono hb1'.size)))
  have HY := Lib.hid (show ∀ W, Below w1.heap.size w1 W → Below w.heap.size w W from fun W hb => hb1.trans (hb.mono hb1.size))
  clear hb1 hb1'
  rw [← HL1.out]
  cases L1 with
  | true =>
    go_wp2_with fail
    refine (awake_true _ (HT.out _ (HY.out _ (Below.refl _ _)))).mono ?_
    rintro e w' ⟨rfl, hb⟩
    go_wp2_with fail
    go_ret
    exact ⟨rfl, HY.out _ hb⟩
  | false =>
    have sA : A.length ≤ 2000 := by have := HL1.out; simp at this; omega
    obtain ⟨E, hE⟩ : ∃ E : Int, E = checkE k n A B := ⟨_, rfl⟩
    obtain ⟨I, hI⟩ : ∃ I : Int, I = insE k n A B := ⟨_, rfl⟩
    obtain ⟨O, hO⟩ : ∃ O : Int, O = outsE k n A B := ⟨_, rfl⟩
    obtain ⟨D, hD⟩ : ∃ D : Int, D = boundE k n A B := ⟨_, rfl⟩
    have HE := Lib.hid hE
    have HI := Lib.hid hI
    have HO := Lib.hid hO
    have HD := Lib.hid hD
    clear hE hI hO hD
    have gE : (E == E) = true := by simp
    have gI : (I == I) = true := by simp
    have gO : (O == O) = true := by simp
    have gD : (D == D) = true := by simp
    go_wp2_with fail
    refine (arity_any k n va vb A B _ (HT.out _ (HY.out _ (Below.refl _ _))) (HA.out _ (HY.out _ (Below.refl _ _))) (HB.out _ (HY.out _ (Below.refl _ _)))).mono ?_
    rw [← HE.out, ← HI.out, ← HO.out]
    rintro e w2 ⟨rfl, hb2⟩
    have HW2 := Lib.hid hb2
    clear c0 c1 c2 c3
    obtain ⟨c0, c1, c2, c3⟩ := HX.out _ hb2
    clear hb2
    go_wp2_with fail
    refine (refArity_any k n HN.out va vb A B _ (HA.out _ (HY.out _ HW2.out)) (HB.out _ (HY.out _ HW2.out)) sA).mono ?_
    rw [← HE.out, ← HI.out, ← HO.out]
    rintro e w3 ⟨rfl, hb3'⟩
    have hb3 := HW2.out.trans (hb3'.mono HW2.out.size)
    have HW3 := Lib.hid hb3
    clear c0 c1 c2 c3
    obtain ⟨c0, c1, c2, c3⟩ := HX.out _ hb3
    clear hb3 hb3' HW2
    go_wp2_with fail
    refine (bound_any k n va vb A B _ (HT.out _ (HY.out _ HW3.out)) (HA.out _ (HY.out _ HW3.out)) (HB.out _ (HY.out _ HW3.out))).mono ?_
    rw [← HE.out, ← HD.out]
    rintro e w4 ⟨rfl, hb4'⟩
    have hb4 := HW3.out.trans (hb4'.mono HW3.out.size)
    have HW4 := Lib.hid hb4
    clear c0 c1 c2 c3
    obtain ⟨c0, c1, c2, c3⟩ := HX.out _ hb4
    clear hb4 hb4' HW3
    go_wp2_with fail
    refine (refBound_any k n HN.out va vb A B _ (HA.out _ (HY.out _ HW4.out)) (HB.out _ (HY.out _ HW4.out)) sA).mono ?_
    rw [← HE.out, ← HD.out]
    rintro e w5 ⟨rfl, hb5'⟩
    have hb5 := HW4.out.trans (hb5'.mono HW4.out.size)
    have HW5 := Lib.hid hb5
    clear c0 c1 c2 c3 hb5 hb5' HW4
    go_wp2_with fail
    refine (awake_true _ (HT.out _ (HY.out _ HW5.out))).mono ?_
    rintro e w' ⟨rfl, hb⟩
    go_wp2_with fail
    go_ret
    exact ⟨rfl, HY.out _ (HW5.out.trans (hb.mono HW5.out.size))⟩

end Go.Proofs.YtdneopolcehgmaaDoor
