/- ParamsBounds' walk. -/
import Derived.Test.YtdneopolcehgmaaDoorOpen
namespace Go.Proofs.YtdneopolcehgmaaDoor
open Go.ChangeShapes Go.WideShapes Go.ChangeAt Go.RowKit Go.Deep

theorem bounds_pure {k n : Int} {A B : List UInt8} (h : checkE k n A B = 0) : 0 ≤ insE k n A B ∧ insE k n A B ≤ 4 ∧ 0 ≤ outsE k n A B ∧ outsE k n A B ≤ 4 ∧ insE k n A B + outsE k n A B ≠ 0 ∧ 0 ≤ boundE k n A B ∧ boundE k n A B ≤ 2048 := by
  obtain ⟨K, rfl, h1, h16, hl, hm, ht⟩ := check_zero h
  obtain ⟨_, r1, r2, r3, r4, r5, r6, r7⟩ := kind_range K h1 h16 n hl hm ht
  have hsm := kinds_small K h16
  simp only [insE, outsE, boundE, if_pos h, Int.toNat_natCast]
  omega
theorem bounds_mono {k n n' : Int} {A B : List UInt8} (h : checkE k n A B = 0) (h' : checkE k n' A B = 0) (hn : n' ≤ n) : boundE k n' A B ≤ boundE k n A B := by
  obtain ⟨K, rfl, h1, h16, -⟩ := check_zero h
  have := each_nonneg K h16
  simp only [boundE, if_pos h, if_pos h', Int.toNat_natCast]
  have := Int.mul_le_mul_of_nonneg_left hn this
  omega

/-- Parameters that were boxed. -/
theorem boxed {w W : World} {k n : Int} {va vb : Value} (hb : Below (w.alloc (.cells #[.int .i64 k, .int .i64 n, va, vb] 24)).heap.size (w.alloc (.cells #[.int .i64 k, .int .i64 n, va, vb] 24)) W) :
    W.cell? ⟨w.heap.size, 0, none⟩ = some (.int .i64 k) ∧ W.cell? ⟨w.heap.size, 1, none⟩ = some (.int .i64 n) ∧ W.cell? ⟨w.heap.size, 2, none⟩ = some va ∧ W.cell? ⟨w.heap.size, 3, none⟩ = some vb :=
  ⟨Below.cell hb (by simp), Below.cell hb (by simp), Below.cell hb (by simp), Below.cell hb (by simp)⟩

set_option maxRecDepth 100000 in
set_option maxHeartbeats 4000000 in
theorem boundsLaw_any (k n : Int) (va vb : Value) (A B : List UInt8) (m : Int) (w : World) (hT : Tab w) (hA : IsBytes w va A) (hB : IsBytes w vb B) :
    Calls Tryd.prog 6 #[parV k n va vb, .int .i64 m] w (Gives w (.bool true)) := by
  have HT := Lib.hid (show ∀ W, Below w.heap.size w W → Tab W from fun W hb => hT.below hb)
  have HA := Lib.hid (show ∀ W, Below w.heap.size w W → IsBytes W va A from fun W hb => hA.below hb)
  have HB := Lib.hid (show ∀ W, Below w.heap.size w W → IsBytes W vb B from fun W hb => hB.below hb)
  have HB0 := Lib.hid (show ∀ o1, Below w.heap.size w (w.alloc o1) from fun o1 => (Below.refl _ _).alloc (Nat.le_refl _) _)
  clear hT hA hB
  obtain ⟨L1, hL1⟩ : ∃ b, b = (decide (2000 < A.length) || decide (2000 < B.length)) := ⟨_, rfl⟩
  have HL1 := Lib.hid hL1
  clear hL1
  unfold parV
  go_enter Tryd.func6, Tryd.ntmps6
  go_wp2_with fail
  refine (long_any k n va vb A B _ (HA.out _ (HB0.out _)) (HB.out _ (HB0.out _))).mono ?_
  rintro e w1 ⟨rfl, hb1'⟩
  obtain ⟨c0, c1, c2, c3⟩ := boxed hb1'
  have hb1 := (HB0.out _).trans (hb1'.mono (HB0.out _).size)
  have HX := Lib.hid (show ∀ W, Below w1.heap.size w1 W → _ from fun W hb => boxed (hb1'.trans (hb.mono hb1'.size)))
  have HY := Lib.hid (show ∀ W, Below w1.heap.size w1 W → Below w.heap.size w W from fun W hb => hb1.trans (hb.mono hb1.size))
  clear hb1 hb1'
  rw [← HL1.out]
  cases L1 with
  | true =>
    go_wp2_with fail
    refine (awake_true _ (HT.out _ (HY.out _ (Below.refl _ _)))).mono ?_
    rintro e w' ⟨rfl, hb⟩
    go_wp2_with fail
    go_ret
    exact ⟨rfl, HY.out _ hb⟩
  | false =>
    obtain ⟨E, hE⟩ : ∃ E : Int, E = checkE k n A B := ⟨_, rfl⟩
    obtain ⟨I, hI⟩ : ∃ I : Int, I = insE k n A B := ⟨_, rfl⟩
    obtain ⟨O, hO⟩ : ∃ O : Int, O = outsE k n A B := ⟨_, rfl⟩
    obtain ⟨D, hD⟩ : ∃ D : Int, D = boundE k n A B := ⟨_, rfl⟩
    have HE := Lib.hid hE
    have HI := Lib.hid hI
    have HO := Lib.hid hO
    have HD := Lib.hid hD
    clear hE hI hO hD
    have gE : (E != E) = false := by simp
    go_wp2_with fail
    refine (arity_any k n va vb A B _ (HT.out _ (HY.out _ (Below.refl _ _))) (HA.out _ (HY.out _ (Below.refl _ _))) (HB.out _ (HY.out _ (Below.refl _ _)))).mono ?_
    rw [← HE.out, ← HI.out, ← HO.out]
    rintro e w2 ⟨rfl, hb2⟩
    have HW2 := Lib.hid hb2
    clear c0 c1 c2 c3
    obtain ⟨c0, c1, c2, c3⟩ := HX.out _ hb2
    clear hb2
    go_wp2_with fail
    refine (bound_any k n va vb A B _ (HT.out _ (HY.out _ HW2.out)) (HA.out _ (HY.out _ HW2.out)) (HB.out _ (HY.out _ HW2.out))).mono ?_
    rw [← HE.out, ← HD.out]
    rintro e w3 ⟨rfl, hb3'⟩
    have hb3 := HW2.out.trans (hb3'.mono HW2.out.size)
    have HW3 := Lib.hid hb3
    clear c0 c1 c2 c3
    obtain ⟨c0, c1, c2, c3⟩ := HX.out _ hb3
    clear hb3 hb3' HW2
    go_wp2_with fail
    refine (check_any k n va vb A B _ (HT.out _ (HY.out _ HW3.out)) (HA.out _ (HY.out _ HW3.out)) (HB.out _ (HY.out _ HW3.out))).mono ?_
    rw [← HE.out]
    rintro e w4 ⟨rfl, hb4'⟩
    have hb4 := HW3.out.trans (hb4'.mono HW3.out.size)
    have HW4 := Lib.hid hb4
    clear c0 c1 c2 c3
    obtain ⟨c0, c1, c2, c3⟩ := HX.out _ hb4
    clear hb4 hb4' HW3
    by_cases h0 : E = 0
    · subst h0
      obtain ⟨i0, i4, o0, o4, io, b0, b4⟩ := bounds_pure HE.out.symm
      rw [← HI.out] at i0 i4 io
      rw [← HO.out] at o0 o4 io
      rw [← HD.out] at b0 b4
      have g1 : ¬ I < 0 := by omega
      have g2 : ¬ O < 0 := by omega
      have g3 : ¬ 4 < I := by omega
      have g4 : ¬ 4 < O := by omega
      have g5 : (I + O == 0) = false := by simpa using io
      have g6 : ¬ D < 0 := by omega
      have g7 : ¬ 2048 < D := by omega
      clear io
      obtain ⟨aa, ca, rfl, -, -⟩ := HA.out _ (Below.refl _ _)
      obtain ⟨ab, cb, rfl, -, -⟩ := HB.out _ (Below.refl _ _)
      have hq : Below w.heap.size w (w4.alloc (.cells #[.int .i64 k, .int .i64 m, .slice aa A.length ca, .slice ab B.length cb] 24)) := (HY.out _ HW4.out).alloc (HY.out _ HW4.out).size _
      have hr : Below w1.heap.size w1 (w4.alloc (.cells #[.int .i64 k, .int .i64 m, .slice aa A.length ca, .slice ab B.length cb] 24)) := HW4.out.alloc HW4.out.size _
      have HQ := Lib.hid hq
      have HR := Lib.hid hr
      clear hq hr
      obtain ⟨G, hG⟩ : ∃ G : Int, G = checkE k m A B := ⟨_, rfl⟩
      obtain ⟨C, hC⟩ : ∃ C : Int, C = boundE k m A B := ⟨_, rfl⟩
      have HG := Lib.hid hG
      have HC := Lib.hid hC
      clear hG hC
      go_wp2_with fail
      refine (bound_any k m _ _ A B _ (HT.out _ HQ.out) (HA.out _ HQ.out) (HB.out _ HQ.out)).mono ?_
      rw [← HG.out, ← HC.out]
      rintro e w5 ⟨rfl, hb5'⟩
      have hb5 := HR.out.trans (hb5'.mono HR.out.size)
      have HW5 := Lib.hid hb5
      clear c0 c1 c2 c3
      obtain ⟨c0, c1, c2, c3⟩ := HX.out _ hb5
      clear hb5 hb5' HR HW4
      by_cases q0 : G = 0
      · subst q0
        by_cases q1 : m ≤ n
        · have q2 : ¬ D < C := by
            have := bounds_mono HE.out.symm HG.out.symm q1
            rw [← HC.out, ← HD.out] at this
            omega
          go_wp2_with fail
          refine (awake_true _ (HT.out _ (HY.out _ HW5.out))).mono ?_
          rintro e w' ⟨rfl, hb⟩
          go_wp2_with fail
          go_ret
          exact ⟨rfl, HY.out _ (HW5.out.trans (hb.mono HW5.out.size))⟩
        · go_wp2_with fail
          refine (awake_true _ (HT.out _ (HY.out _ HW5.out))).mono ?_
          rintro e w' ⟨rfl, hb⟩
          go_wp2_with fail
          go_ret
          exact ⟨rfl, HY.out _ (HW5.out.trans (hb.mono HW5.out.size))⟩
      · have q2 : (G == 0) = false := by simpa using q0
        go_wp2_with fail
        refine (awake_true _ (HT.out _ (HY.out _ HW5.out))).mono ?_
        rintro e w' ⟨rfl, hb⟩
        go_wp2_with fail
        go_ret
        exact ⟨rfl, HY.out _ (HW5.out.trans (hb.mono HW5.out.size))⟩
    · obtain ⟨hI, hO, hD⟩ := ins_of (A := A) (B := B) (k := k) (n := n) (by rw [← HE.out]; exact h0)
      rw [← HI.out] at hI
      rw [← HO.out] at hO
      rw [← HD.out] at hD
      subst hI
      subst hO
      subst hD
      have g0 : (E != 0) = true := by simpa using h0
      go_wp2_with fail
      refine (awake_true _ (HT.out _ (HY.out _ HW4.out))).mono ?_
      rintro e w' ⟨rfl, hb⟩
      go_wp2_with fail
      go_ret
      exact ⟨rfl, HY.out _ (HW4.out.trans (hb.mono HW4.out.size))⟩

end Go.Proofs.YtdneopolcehgmaaDoor
