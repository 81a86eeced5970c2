/- What Same, the document's Same, and Own do. -/
import Derived.Test.YthedfcdcocimbaaDoorPsmall
namespace Go.Proofs.YthedfcdcocimbaaDoor.Pm
open Go.RowKit

def sameB (k n : Int) (A B : List UInt8) (k' n' : Int) (A' B' : List UInt8) : Bool := (k == k') && ((n == n') && (decide (A = A') && decide (B = B')))
theorem sameB_self (k n : Int) (A B : List UInt8) : sameB k n A B k n A B = true := by simp [sameB]

set_option maxRecDepth 100000 in
set_option maxHeartbeats 1000000 in
theorem refSame_any (k n : Int) (va vb : Value) (A B : List UInt8) (k' n' : Int) (va' vb' : Value) (A' B' : List UInt8) (w : World) (hA : IsBytes w va A) (hB : IsBytes w vb B) (hA' : IsBytes w va' A') (hB' : IsBytes w vb' B') :
    Calls Tryd.prog 22 #[parV k n va vb, parV k' n' va' vb'] w (Gives w (.bool (sameB k n A B k' n' A' B'))) := by
  have hb0 : ∀ o1 o2, Below w.heap.size w ((w.alloc o1).alloc o2) := fun o1 o2 => ((Below.refl _ _).alloc (Nat.le_refl _) _).alloc (by simp) _
  have HB0 := Lib.hid hb0
  have k1 := fun o1 o2 => conv_any (hA.below (hb0 o1 o2))
  have k2 := fun o1 o2 => conv_any (hB.below (hb0 o1 o2))
  have k3 := fun o1 o2 => conv_any (hA'.below (hb0 o1 o2))
  have k4 := fun o1 o2 => conv_any (hB'.below (hb0 o1 o2))
  clear hb0 hA hB hA' hB'
  unfold parV sameB
  rw [← strV_eq A A', ← strV_eq B B']
  simp only [strV] at k1 k2 k3 k4
  generalize (⟨A.toArray⟩ : ByteArray) = SA at k1 ⊢
  generalize (⟨B.toArray⟩ : ByteArray) = SB at k2 ⊢
  generalize (⟨A'.toArray⟩ : ByteArray) = SA' at k3 ⊢
  generalize (⟨B'.toArray⟩ : ByteArray) = SB' at k4 ⊢
  rcases Bool.eq_false_or_eq_true (k == k') with h1 | h1
  · rw [h1, Bool.true_and]
    rcases Bool.eq_false_or_eq_true (n == n') with h2 | h2
    · rw [h2, Bool.true_and]
      rcases Bool.eq_false_or_eq_true (SA.toList == SA'.toList) with h3 | h3
      · rw [h3, Bool.true_and]
        go_enter Tryd.func22, Tryd.ntmps22
        go_wp2_with fail
        go_ret
        exact ⟨rfl, HB0.out _ _⟩
      · rw [h3, Bool.false_and]
        go_enter Tryd.func22, Tryd.ntmps22
        go_wp2_with fail
        go_ret
        exact ⟨rfl, HB0.out _ _⟩
    · rw [h2, Bool.false_and]
      go_enter Tryd.func22, Tryd.ntmps22
      go_wp2_with fail
      go_ret
      exact ⟨rfl, HB0.out _ _⟩
  · rw [h1, Bool.false_and]
    go_enter Tryd.func22, Tryd.ntmps22
    go_wp2_with fail
    go_ret
    exact ⟨rfl, HB0.out _ _⟩

end Go.Proofs.YthedfcdcocimbaaDoor.Pm
