/- What fit does. -/
import Derived.Test.YtlflhjgfegflfaaDoorCountFace
import Derived.Test.YtlflhjgfegflfaaDoorPD
namespace Go.Proofs.YtlflhjgfegflfaaDoor
open Go.RowKit

def fitB (k n : Int) (A B : List UInt8) (ins : List Strm) : Bool := decide (Pm.checkE k n A B = 0) && decide (k = 9) && decide ((ins.length : Int) = Pm.insE k n A B)
theorem fit_yes {k n : Int} {A B : List UInt8} {ins : List Strm} (h : fitB k n A B ins = true) : k = 9 ∧ ∃ N : Nat, n = N ∧ countOk N A B ∧ takeE 9 k n A B = 0 ∧ Pm.boundE k n A B = countBound N A B ∧ Pm.checkE k n A B = 0 ∧ ∃ i, ins = [i] := by
  simp only [fitB, Bool.and_eq_true, decide_eq_true_eq] at h
  obtain ⟨⟨h1, hk⟩, h3⟩ := h
  obtain ⟨q1, q2, q5, q6, q7⟩ := count_fit h1 hk
  refine ⟨hk, n.toNat, by omega, q2, q5, q7, h1, ?_⟩
  rw [q6] at h3
  exact List.length_eq_one_iff.1 (by omega)

set_option maxRecDepth 100000 in
set_option maxHeartbeats 2000000 in
theorem fit_any (k n : Int) (hn : Pm.Fits n) (va vb iv : Value) (A B : List UInt8) (ins : List Strm) {p : Nat → Prop} (w : World) (hA : Pm.IsBytes w va A) (hB : Pm.IsBytes w vb B) (hI : IsStrms p w iv ins) (sA : A.length ≤ 2000) :
    Calls Tryd.prog 16 #[Pm.parV k n va vb, iv] w (Pm.Gives w (.bool (fitB k n A B ins))) := by
  have HA := Lib.hid (show ∀ o1, Pm.IsBytes (w.alloc o1) va A from fun o1 => hA.below ((Below.refl _ _).alloc (Nat.le_refl _) _))
  have HB := Lib.hid (show ∀ o1, Pm.IsBytes (w.alloc o1) vb B from fun o1 => hB.below ((Below.refl _ _).alloc (Nat.le_refl _) _))
  have HB0 := Lib.hid (show ∀ o1, Below w.heap.size w (w.alloc o1) from fun o1 => (Below.refl _ _).alloc (Nat.le_refl _) _)
  obtain ⟨ai, ci, rfl, -⟩ := hI
  clear hA hB
  obtain ⟨E, hE⟩ : ∃ E : Int, E = Pm.checkE k n A B := ⟨_, rfl⟩
  obtain ⟨I, hI⟩ : ∃ I : Int, I = Pm.insE k n A B := ⟨_, rfl⟩
  obtain ⟨O, hO⟩ : ∃ O : Int, O = Pm.outsE k n A B := ⟨_, rfl⟩
  have HE := Lib.hid hE
  have HI := Lib.hid hI
  have HO := Lib.hid hO
  unfold fitB
  rw [← hE, ← hI]
  clear hE hI hO
  unfold Pm.parV
  have key : ∀ (P : Bool), P = (decide (E = 0) && decide (k = 9) && decide ((ins.length : Int) = I)) → Calls Tryd.prog 16 #[.agg #[.int .i64 k, .int .i64 n, va, vb], .slice ai ins.length ci] w (Pm.Gives w (.bool P)) := by
    intro P hP
    have HP := Lib.hid hP
    clear hP
    by_cases h0 : E = 0
    · by_cases hk : k = 9
      · by_cases hl : (ins.length : Int) = I
        · obtain rfl : P = true := by rw [HP.out]; simp [h0, hk, hl]
          subst h0 hk
          have g1 : ((ins.length : Int) == I) = true := by simpa using hl
          clear hl
          go_enter Tryd.func16, Tryd.ntmps16
          go_wp2_with fail
          refine (Pm.refArity_any 9 n hn va vb A B _ (HA.out _) (HB.out _) sA).mono ?_
          rintro e w1 ⟨rfl, hb⟩
          rw [← HE.out, ← HI.out, ← HO.out]
          have q0 : w1.cell? ⟨w.heap.size, 0, none⟩ = some (.int .i64 9) := Pm.Below.cell hb (by simp)
          have HW := Lib.hid ((HB0.out _).trans (hb.mono (HB0.out _).size))
          clear hb
          go_wp2_with fail
          go_ret
          exact ⟨rfl, HW.out⟩
        · obtain rfl : P = false := by rw [HP.out]; simp [hl]
          subst h0 hk
          have g1 : ((ins.length : Int) == I) = false := by simpa using hl
          clear hl
          go_enter Tryd.func16, Tryd.ntmps16
          go_wp2_with fail
          refine (Pm.refArity_any 9 n hn va vb A B _ (HA.out _) (HB.out _) sA).mono ?_
          rintro e w1 ⟨rfl, hb⟩
          rw [← HE.out, ← HI.out, ← HO.out]
          have q0 : w1.cell? ⟨w.heap.size, 0, none⟩ = some (.int .i64 9) := Pm.Below.cell hb (by simp)
          have HW := Lib.hid ((HB0.out _).trans (hb.mono (HB0.out _).size))
          clear hb
          go_wp2_with fail
          go_ret
          exact ⟨rfl, HW.out⟩
      · obtain rfl : P = false := by rw [HP.out]; simp [hk]
        subst h0
        have g1 : (k == 9) = false := by simpa using hk
        clear hk
        go_enter Tryd.func16, Tryd.ntmps16
        go_wp2_with fail
        refine (Pm.refArity_any k n hn va vb A B _ (HA.out _) (HB.out _) sA).mono ?_
        rintro e w1 ⟨rfl, hb⟩
        rw [← HE.out, ← HI.out, ← HO.out]
        have q0 : w1.cell? ⟨w.heap.size, 0, none⟩ = some (.int .i64 k) := Pm.Below.cell hb (by simp)
        have HW := Lib.hid ((HB0.out _).trans (hb.mono (HB0.out _).size))
        clear hb
        go_wp2_with fail
        go_ret
        exact ⟨rfl, HW.out⟩
    · obtain rfl : P = false := by rw [HP.out]; simp [h0]
      have g1 : (E == 0) = false := by simpa using h0
      clear h0
      go_enter Tryd.func16, Tryd.ntmps16
      go_wp2_with fail
      refine (Pm.refArity_any k n hn va vb A B _ (HA.out _) (HB.out _) sA).mono ?_
      rintro e w1 ⟨rfl, hb⟩
      rw [← HE.out, ← HI.out, ← HO.out]
      have HW := Lib.hid ((HB0.out _).trans (hb.mono (HB0.out _).size))
      clear hb
      go_wp2_with fail
      go_ret
      exact ⟨rfl, HW.out⟩
  exact key _ rfl

end Go.Proofs.YtlflhjgfegflfaaDoor
