/- What Arity and Bound do. -/
import Derived.Test.YtdneopolcehgmaaDoorCheck
import Derived.Test.YtdneopolcehgmaaDoorPure
namespace Go.Proofs.YtdneopolcehgmaaDoor
open Go.RowKit

set_option maxRecDepth 100000 in
set_option maxHeartbeats 1000000 in
theorem bound_any (k n : Int) (va vb : Value) (A B : List UInt8) (w : World) (hT : Tab w) (hA : IsBytes w va A) (hB : IsBytes w vb B) :
    Calls Tryd.prog 15 #[parV k n va vb] w (Gives w (.tuple #[.int .i64 (boundE k n A B), .int .i64 (checkE k n A B)])) := by
  have HT := Lib.hid (show ∀ W, Below w.heap.size w W → Tab W from fun W hb => hT.below hb)
  have HA := Lib.hid (show ∀ W, Below w.heap.size w W → IsBytes W va A from fun W hb => hA.below hb)
  have HB := Lib.hid (show ∀ W, Below w.heap.size w W → IsBytes W vb B from fun W hb => hB.below hb)
  have HB0 := Lib.hid (show ∀ o1, Below w.heap.size w (w.alloc o1) from fun o1 => (Below.refl _ _).alloc (Nat.le_refl _) _)
  clear hT hA hB
  obtain ⟨E, hE⟩ : ∃ E : Int, E = checkE k n A B := ⟨_, rfl⟩
  obtain ⟨D, hD⟩ : ∃ D : Int, D = boundE k n A B := ⟨_, rfl⟩
  have HE := Lib.hid hE
  have HD := Lib.hid hD
  rw [← hE, ← hD]
  clear hE hD
  by_cases h0 : E = 0
  · subst h0
    obtain ⟨K, rfl, h1, h16, hl, hm, ht⟩ := check_zero HE.out.symm
    obtain ⟨r0, r1, r2, -⟩ := kind_range K h1 h16 n hl hm ht
    have hD : D = (kindOf K).holds + (kindOf K).each * n := by rw [HD.out, boundE, if_pos HE.out.symm, Int.toNat_natCast]
    subst hD
    have hsm := kinds_small K h16
    have HR := Lib.hid (show ∀ W, Below w.heap.size w W → Tab W from HT.out)
    unfold parV
    clear hl hm ht
    go_enter Tryd.func15, Tryd.ntmps15
    go_wp2_with fail
    refine (check_any K n va vb A B _ (HT.out _ (HB0.out _)) (HA.out _ (HB0.out _)) (HB.out _ (HB0.out _))).mono ?_
    rintro e w' ⟨rfl, hb⟩
    rw [← HE.out]
    have hw : Below w.heap.size w w' := (HB0.out _).trans (hb.mono (HB0.out _).size)
    have q0 : w'.cell? ⟨w.heap.size, 0, none⟩ = some (.int .i64 K) := Below.cell hb (by simp)
    have q1 : w'.cell? ⟨w.heap.size, 1, none⟩ = some (.int .i64 n) := Below.cell hb (by simp)
    obtain ⟨c0, c1, c2, c3, c4, c5, c6⟩ := (HT.out _ hw).row h16
    have hp := (HT.out _ hw).pos
    generalize kindOf K = r at *
    have g3 : (0 : Int) ≤ (K : Int) := by omega
    have g4 : (K : Int) < 17 := by omega
    have HW := Lib.hid hw
    have hs : w.heap.size < w'.heap.size := block_lt_of_cell q0
    clear hb hw HE HD HT HA HB HB0 HR
    go_wp2_with fail
    go_ret2
    exact ⟨rfl, HW.out.trans ((Below.refl _ _).alloc (by omega) _)⟩
  · have hD : D = 0 := by rw [HD.out]; exact (ins_of (by rw [← HE.out]; exact h0)).2.2
    subst hD
    have g0 : (E != 0) = true := by simpa using h0
    unfold parV
    go_enter Tryd.func15, Tryd.ntmps15
    go_wp2_with fail
    refine (check_any k n va vb A B _ (HT.out _ (HB0.out _)) (HA.out _ (HB0.out _)) (HB.out _ (HB0.out _))).mono ?_
    rintro e w' ⟨rfl, hb⟩
    rw [← HE.out]
    have hw : Below w.heap.size w w' := (HB0.out _).trans (hb.mono (HB0.out _).size)
    have HW := Lib.hid hw
    clear hb hw HE HD HT HA HB HB0
    go_wp2_with fail
    go_ret2
    exact ⟨rfl, HW.out⟩

set_option maxRecDepth 100000 in
set_option maxHeartbeats 1000000 in
theorem arity_any (k n : Int) (va vb : Value) (A B : List UInt8) (w : World) (hT : Tab w) (hA : IsBytes w va A) (hB : IsBytes w vb B) :
    Calls Tryd.prog 13 #[parV k n va vb] w (Gives w (.tuple #[.int .i64 (insE k n A B), .int .i64 (outsE k n A B), .int .i64 (checkE k n A B)])) := by
  have HT := Lib.hid (show ∀ W, Below w.heap.size w W → Tab W from fun W hb => hT.below hb)
  have HA := Lib.hid (show ∀ W, Below w.heap.size w W → IsBytes W va A from fun W hb => hA.below hb)
  have HB := Lib.hid (show ∀ W, Below w.heap.size w W → IsBytes W vb B from fun W hb => hB.below hb)
  have HB0 := Lib.hid (show ∀ o1, Below w.heap.size w (w.alloc o1) from fun o1 => (Below.refl _ _).alloc (Nat.le_refl _) _)
  clear hT hA hB
  obtain ⟨E, hE⟩ : ∃ E : Int, E = checkE k n A B := ⟨_, rfl⟩
  obtain ⟨I, hI⟩ : ∃ I : Int, I = insE k n A B := ⟨_, rfl⟩
  obtain ⟨O, hO⟩ : ∃ O : Int, O = outsE k n A B := ⟨_, rfl⟩
  have HE := Lib.hid hE
  have HI := Lib.hid hI
  have HO := Lib.hid hO
  rw [← hE, ← hI, ← hO]
  clear hE hI hO
  by_cases h0 : E = 0
  · subst h0
    obtain ⟨K, rfl, h1, h16, hl, hm, ht⟩ := check_zero HE.out.symm
    have hI : I = portsE (kindOf K).ins n := by rw [HI.out, insE, if_pos HE.out.symm, Int.toNat_natCast]
    have hO : O = portsE (kindOf K).outs n := by rw [HO.out, outsE, if_pos HE.out.symm, Int.toNat_natCast]
    unfold parV
    clear hl hm ht
    go_enter Tryd.func13, Tryd.ntmps13
    go_wp2_with fail
    refine (check_any K n va vb A B _ (HT.out _ (HB0.out _)) (HA.out _ (HB0.out _)) (HB.out _ (HB0.out _))).mono ?_
    rintro e w' ⟨rfl, hb⟩
    rw [← HE.out]
    have hw : Below w.heap.size w w' := (HB0.out _).trans (hb.mono (HB0.out _).size)
    have q0 : w'.cell? ⟨w.heap.size, 0, none⟩ = some (.int .i64 K) := Below.cell hb (by simp)
    have q1 : w'.cell? ⟨w.heap.size, 1, none⟩ = some (.int .i64 n) := Below.cell hb (by simp)
    obtain ⟨c0, c1, c2, c3, c4, c5, c6⟩ := (HT.out _ hw).row h16
    have hp := (HT.out _ hw).pos
    generalize kindOf K = r at *
    have HI2 := Lib.hid hI
    have HO2 := Lib.hid hO
    have g3 : (0 : Int) ≤ (K : Int) := by omega
    have g4 : (K : Int) < 17 := by omega
    have HW := Lib.hid hw
    have hs : w.heap.size < w'.heap.size := block_lt_of_cell q0
    clear hb hw HE HI HO HT HA HB HB0 hI hO
    go_wp2_with fail
    go_quiet ((go_at_call 22; exact Calls.quiet_of_same ((ports_any _ _ _).mono fun _ _ h => ⟨h.1, h.2.symm⟩)))
    rw [← HI2.out, ← HO2.out]
    go_wp2_with fail
    go_ret3
    exact ⟨rfl, HW.out.trans (((Below.refl _ _).alloc (by omega) _).trans ⟨rfl, rfl, rfl, Nat.le_refl _, fun _ _ => rfl⟩)⟩
  · obtain ⟨hI, hO, -⟩ := ins_of (A := A) (B := B) (k := k) (n := n) (by rw [← HE.out]; exact h0)
    rw [← HI.out] at hI
    rw [← HO.out] at hO
    subst hI
    subst hO
    have g0 : (E != 0) = true := by simpa using h0
    unfold parV
    go_enter Tryd.func13, Tryd.ntmps13
    go_wp2_with fail
    refine (check_any k n va vb A B _ (HT.out _ (HB0.out _)) (HA.out _ (HB0.out _)) (HB.out _ (HB0.out _))).mono ?_
    rintro e w' ⟨rfl, hb⟩
    rw [← HE.out]
    have hw : Below w.heap.size w w' := (HB0.out _).trans (hb.mono (HB0.out _).size)
    have HW := Lib.hid hw
    clear hb hw HE HI HO HT HA HB HB0
    go_wp2_with fail
    go_ret3
    exact ⟨rfl, HW.out⟩

end Go.Proofs.YtdneopolcehgmaaDoor
