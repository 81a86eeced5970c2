/- What intake.Check does. -/
import Derived.Test.YtlflhjgfegflfaaDoorDA
import Derived.Test.YtlflhjgfegflfaaDoorPB
import Derived.Test.YtlflhjgfegflfaaDoorPA
namespace Go.Proofs.YtlflhjgfegflfaaDoor
open Go.RowKit

def takeE (kind k n : Int) (A B : List UInt8) : Int := if Pm.checkE k n A B ≠ 0 then Pm.checkE k n A B else if k ≠ kind then 10 else 0

set_option maxRecDepth 100000 in
set_option maxHeartbeats 1000000 in
theorem intakeCheck_any (kind k n : Int) (va vb : Value) (A B : List UInt8) (w : World) (hT : Pm.Tab w) (hA : Pm.IsBytes w va A) (hB : Pm.IsBytes w vb B) :
    Calls Tryd.prog 28 #[Pm.parV k n va vb, .int .i64 kind] w (Pm.Gives w (.int .i64 (takeE kind k n A B))) := by
  have HT := Lib.hid (show ∀ o1, Pm.Tab (w.alloc o1) from fun o1 => hT.below ((Below.refl _ _).alloc (Nat.le_refl _) _))
  have HA := Lib.hid (show ∀ o1, Pm.IsBytes (w.alloc o1) va A from fun o1 => hA.below ((Below.refl _ _).alloc (Nat.le_refl _) _))
  have HB := Lib.hid (show ∀ o1, Pm.IsBytes (w.alloc o1) vb B from fun o1 => hB.below ((Below.refl _ _).alloc (Nat.le_refl _) _))
  have HB0 := Lib.hid (show ∀ o1, Below w.heap.size w (w.alloc o1) from fun o1 => (Below.refl _ _).alloc (Nat.le_refl _) _)
  clear hT hA hB
  obtain ⟨E, hE⟩ : ∃ E : Int, E = Pm.checkE k n A B := ⟨_, rfl⟩
  have HE := Lib.hid hE
  unfold takeE
  rw [← hE]
  clear hE
  by_cases h0 : E = 0
  · subst h0
    rw [if_neg (by simp)]
    by_cases hk : k = kind
    · subst hk
      rw [if_neg (by simp)]
      have g1 : (k != k) = false := by simp
      unfold Pm.parV
      go_enter Tryd.func28, Tryd.ntmps28
      go_wp2_with fail
      refine (Pm.check_any k n va vb A B _ (HT.out _) (HA.out _) (HB.out _)).mono ?_
      rintro e w1 ⟨rfl, hb⟩
      rw [← HE.out]
      have q0 : w1.cell? ⟨w.heap.size, 0, none⟩ = some (.int .i64 k) := Pm.Below.cell hb (by simp)
      have HW := Lib.hid ((HB0.out _).trans (hb.mono (HB0.out _).size))
      clear hb
      go_wp2_with fail
      go_ret
      exact ⟨rfl, HW.out⟩
    · rw [if_pos hk]
      have g1 : (k != kind) = true := by simpa using hk
      clear hk
      unfold Pm.parV
      go_enter Tryd.func28, Tryd.ntmps28
      go_wp2_with fail
      refine (Pm.check_any k n va vb A B _ (HT.out _) (HA.out _) (HB.out _)).mono ?_
      rintro e w1 ⟨rfl, hb⟩
      rw [← HE.out]
      have q0 : w1.cell? ⟨w.heap.size, 0, none⟩ = some (.int .i64 k) := Pm.Below.cell hb (by simp)
      have HW := Lib.hid ((HB0.out _).trans (hb.mono (HB0.out _).size))
      clear hb
      go_wp2_with fail
      go_ret
      exact ⟨rfl, HW.out⟩
  · rw [if_pos h0]
    have g1 : (E != 0) = true := by simpa using h0
    clear h0
    unfold Pm.parV
    go_enter Tryd.func28, Tryd.ntmps28
    go_wp2_with fail
    refine (Pm.check_any k n va vb A B _ (HT.out _) (HA.out _) (HB.out _)).mono ?_
    rintro e w1 ⟨rfl, hb⟩
    rw [← HE.out]
    have HW := Lib.hid ((HB0.out _).trans (hb.mono (HB0.out _).size))
    clear hb
    go_wp2_with fail
    go_ret
    exact ⟨rfl, HW.out⟩

end Go.Proofs.YtlflhjgfegflfaaDoor
