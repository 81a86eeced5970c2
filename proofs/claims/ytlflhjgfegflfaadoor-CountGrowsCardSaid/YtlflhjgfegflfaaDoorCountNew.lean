/- What count.New does. -/
import Derived.Test.YtlflhjgfegflfaaDoorCount
import Derived.Test.YtlflhjgfegflfaaDoorIcheck
import Derived.Test.YtlflhjgfegflfaaDoorPB
namespace Go.Proofs.YtlflhjgfegflfaaDoor
open Go.RowKit

def countRow0 (x : Value) : Array Value := #[.int .i64 0, .nilFunc, x, .int .i64 0, .int .i64 0]
theorem Tryd.built_count : Tryd.prog.built 80 [] = some (countRow0 .nilFunc) := by kernel_rfl

set_option maxRecDepth 100000 in
set_option maxHeartbeats 1000000 in
theorem countNew_no (k n : Int) (va vb : Value) (A B : List UInt8) (w : World) (hT : Pm.Tab w) (hA : Pm.IsBytes w va A) (hB : Pm.IsBytes w vb B) (hE : takeE 9 k n A B ≠ 0) :
    Calls Tryd.prog 14 #[Pm.parV k n va vb] w (Pm.Gives w (.tuple #[.nilIface, .int .i64 (takeE 9 k n A B)])) := by
  have HT := Lib.hid (show ∀ o1, Pm.Tab (w.alloc o1) from fun o1 => hT.below ((Below.refl _ _).alloc (Nat.le_refl _) _))
  have HA := Lib.hid (show ∀ o1, Pm.IsBytes (w.alloc o1) va A from fun o1 => hA.below ((Below.refl _ _).alloc (Nat.le_refl _) _))
  have HB := Lib.hid (show ∀ o1, Pm.IsBytes (w.alloc o1) vb B from fun o1 => hB.below ((Below.refl _ _).alloc (Nat.le_refl _) _))
  have HB0 := Lib.hid (show ∀ o1, Below w.heap.size w (w.alloc o1) from fun o1 => (Below.refl _ _).alloc (Nat.le_refl _) _)
  obtain ⟨E, hE2⟩ : ∃ E : Int, E = takeE 9 k n A B := ⟨_, rfl⟩
  have HE := Lib.hid hE2
  rw [← hE2] at hE ⊢
  have g1 : (E != 0) = true := by simpa using hE
  clear hT hA hB hE hE2
  unfold Pm.parV
  go_enter Tryd.func14, Tryd.ntmps14
  go_wp2_with fail
  refine (intakeCheck_any 9 k n va vb A B _ (HT.out _) (HA.out _) (HB.out _)).mono ?_
  rintro e w1 ⟨rfl, hb⟩
  rw [← HE.out]
  have HW := Lib.hid ((HB0.out _).trans (hb.mono (HB0.out _).size))
  clear hb
  go_wp2_with fail
  go_ret2
  exact ⟨rfl, HW.out⟩

theorem countRow_start (G : Nat) : countRow0 (.func (.func 29) #[.pointer (some ⟨G, 0, none⟩)] #[]) = countRow countS G := by simp [countRow0, countRow, countS, wrap64]
variable [Inhabited TabBox]
def TabP (w : World) : Prop := Pm.Tab w ∧ TabNow w
theorem TabP.below {w w' : World} (h : TabP w) (hb : Below w.heap.size w w') : TabP w' := ⟨h.1.below hb, h.2.below hb⟩
/-- The call answers a machine of its own. -/
def CountMade (w : World) (e : Ending) (w' : World) : Prop :=
  ∃ g, e = .returned (.tuple #[.iface 72 (.pointer (some ⟨g, 0, none⟩)), .int .i64 0]) ∧ w.heap.size ≤ g ∧ countRep g countS (· = g) w' ∧ Below w.heap.size w w'

set_option maxRecDepth 100000 in
set_option maxHeartbeats 2000000 in
theorem countNew_yes (k n : Int) (va vb : Value) (A B : List UInt8) (w : World) (hT : TabP w) (hA : Pm.IsBytes w va A) (hB : Pm.IsBytes w vb B) (hE : takeE 9 k n A B = 0) :
    Calls Tryd.prog 14 #[Pm.parV k n va vb] w (CountMade w) := by
  have HT := Lib.hid (show ∀ o1, Pm.Tab (w.alloc o1) from fun o1 => hT.1.below ((Below.refl _ _).alloc (Nat.le_refl _) _))
  have HM := Lib.hid (show ∀ W, Below w.heap.size w W → TabNow W from fun W hb => (hT.below hb).2)
  have HA := Lib.hid (show ∀ o1, Pm.IsBytes (w.alloc o1) va A from fun o1 => hA.below ((Below.refl _ _).alloc (Nat.le_refl _) _))
  have HB := Lib.hid (show ∀ o1, Pm.IsBytes (w.alloc o1) vb B from fun o1 => hB.below ((Below.refl _ _).alloc (Nat.le_refl _) _))
  have HB0 := Lib.hid (show ∀ o1, Below w.heap.size w (w.alloc o1) from fun o1 => (Below.refl _ _).alloc (Nat.le_refl _) _)
  have HE := Lib.hid hE
  have hlt := hT.2.lt
  clear hT hA hB hE
  unfold Pm.parV
  go_enter Tryd.func14, Tryd.ntmps14
  go_wp2_with fail
  refine (intakeCheck_any 9 k n va vb A B _ (HT.out _) (HA.out _) (HB.out _)).mono ?_
  rintro e w1 ⟨rfl, hb⟩
  rw [HE.out]
  have hbw := (HB0.out _).trans (hb.mono (HB0.out _).size)
  have HW := Lib.hid hbw
  have hs1 := hb.size
  rw [World.size_alloc] at hs1
  clear hb hbw
  go_upto_region 5 with (with_reducible refine wpList_build0 rfl 80 rfl (countRow0 .nilFunc) Tryd.built_count ?_)
  have hh := heap_alloc_last w1 (.cells (countRow0 .nilFunc) 80)
  have hb2 : Below w.heap.size w (w1.alloc (.cells (countRow0 .nilFunc) 80)) := HW.out.alloc HW.out.size _
  generalize w1.alloc (.cells (countRow0 .nilFunc) 80) = W1 at hh hb2 ⊢
  generalize w1.heap.size = G at hh hs1 ⊢
  have hz : W1.frozen? ⟨G, 2, none⟩ = false := by simp [World.frozen?, hh]
  have hc2 : W1.cell? ⟨G, 2, none⟩ = some .nilFunc := by rw [cell_of_row _ _ _ _ _ _ hh]; rfl
  have HH := Lib.hid hh
  have HB2 := Lib.hid hb2
  clear hh hb2 HW
  go_wp2_with fail
  have hh : (W1.setCell ⟨G, 2, none⟩ (.func (.func 29) #[.pointer (some ⟨G, 0, none⟩)] #[])).heap[G]? = some (.cells (countRow0 (.func (.func 29) #[.pointer (some ⟨G, 0, none⟩)] #[])) 80 (0, 0)) := by
    rw [setCell_row HH.out]
    rfl
  have hb3 : Below w.heap.size w (W1.setCell ⟨G, 2, none⟩ (.func (.func 29) #[.pointer (some ⟨G, 0, none⟩)] #[])) := HB2.out.setCell (by show w.heap.size ≤ G; omega) _
  generalize W1.setCell ⟨G, 2, none⟩ (.func (.func 29) #[.pointer (some ⟨G, 0, none⟩)] #[]) = W2 at hh hb3 ⊢
  have HH2 := Lib.hid hh
  have HB3 := Lib.hid hb3
  clear hh hb3 hz hc2 HH HB2
  go_ret2
  exact ⟨G, rfl, by omega, ⟨by have h := HH2.out; rw [countRow_start] at h; exact h, rfl, HM.out _ HB3.out, by show 2 + 1 ≤ G; omega⟩, HB3.out⟩

end Go.Proofs.YtlflhjgfegflfaaDoor
