/- What turn.New does. -/
import Derived.Test.YtacmbjamnmpmoaaDoorTurn
import Derived.Test.YtacmbjamnmpmoaaDoorIcheck
import Derived.Test.YtacmbjamnmpmoaaDoorPB
namespace Go.Proofs.YtacmbjamnmpmoaaDoor
open Go.RowKit

theorem Tryd.built_turn (S R : ByteArray) : Tryd.prog.built 78 [(1, .string S), (2, .string R)] = some #[.int .i64 0, .nilFunc, .nilFunc, .string S, .string R] := by kernel_rfl

/-- The call answers a machine of its own. -/
def TurnMade (w : World) (A B : List UInt8) (e : Ending) (w' : World) : Prop :=
  ∃ g, e = .returned (.tuple #[.iface 70 (.pointer (some ⟨g, 0, none⟩)), .int .i64 0]) ∧ w.heap.size ≤ g ∧ TurnAt A B 0 g w' ∧ Below w.heap.size w w'

set_option maxRecDepth 100000 in
set_option maxHeartbeats 1000000 in
theorem turnNew_no (k n : Int) (va vb : Value) (A B : List UInt8) (w : World) (hT : Pm.Tab w) (hA : Pm.IsBytes w va A) (hB : Pm.IsBytes w vb B) (hE : takeE 6 k n A B ≠ 0) :
    Calls Tryd.prog 14 #[Pm.parV k n va vb] w (Pm.Gives w (.tuple #[.nilIface, .int .i64 (takeE 6 k n A B)])) := by
  have HT := Lib.hid (show ∀ o1, Pm.Tab (w.alloc o1) from fun o1 => hT.below ((Below.refl _ _).alloc (Nat.le_refl _) _))
  have HA := Lib.hid (show ∀ o1, Pm.IsBytes (w.alloc o1) va A from fun o1 => hA.below ((Below.refl _ _).alloc (Nat.le_refl _) _))
  have HB := Lib.hid (show ∀ o1, Pm.IsBytes (w.alloc o1) vb B from fun o1 => hB.below ((Below.refl _ _).alloc (Nat.le_refl _) _))
  have HB0 := Lib.hid (show ∀ o1, Below w.heap.size w (w.alloc o1) from fun o1 => (Below.refl _ _).alloc (Nat.le_refl _) _)
  obtain ⟨E, hE2⟩ : ∃ E : Int, E = takeE 6 k n A B := ⟨_, rfl⟩
  have HE := Lib.hid hE2
  rw [← hE2] at hE ⊢
  have g1 : (E != 0) = true := by simpa using hE
  clear hT hA hB hE hE2
  unfold Pm.parV
  go_enter Tryd.func14, Tryd.ntmps14
  go_wp2_with fail
  refine (intakeCheck_any 6 k n va vb A B _ (HT.out _) (HA.out _) (HB.out _)).mono ?_
  rintro e w1 ⟨rfl, hb⟩
  rw [← HE.out]
  have HW := Lib.hid ((HB0.out _).trans (hb.mono (HB0.out _).size))
  clear hb
  go_wp2_with fail
  go_ret2
  exact ⟨rfl, HW.out⟩

set_option maxRecDepth 100000 in
set_option maxHeartbeats 2000000 in
theorem turnNew_yes (k n : Int) (va vb : Value) (A B : List UInt8) (w : World) (hT : Pm.Tab w) (hA : Pm.IsBytes w va A) (hB : Pm.IsBytes w vb B) (hE : takeE 6 k n A B = 0) :
    Calls Tryd.prog 14 #[Pm.parV k n va vb] w (TurnMade w A B) := by
  have HT := Lib.hid (show ∀ o1, Pm.Tab (w.alloc o1) from fun o1 => hT.below ((Below.refl _ _).alloc (Nat.le_refl _) _))
  have HA := Lib.hid (show ∀ W, Below w.heap.size w W → Pm.IsBytes W va A from fun W hb => hA.below hb)
  have HB := Lib.hid (show ∀ W, Below w.heap.size w W → Pm.IsBytes W vb B from fun W hb => hB.below hb)
  have HB0 := Lib.hid (show ∀ o1, Below w.heap.size w (w.alloc o1) from fun o1 => (Below.refl _ _).alloc (Nat.le_refl _) _)
  have HE := Lib.hid hE
  clear hT hA hB hE
  unfold Pm.parV
  go_enter Tryd.func14, Tryd.ntmps14
  go_wp2_with fail
  refine (intakeCheck_any 6 k n va vb A B _ (HT.out _) (HA.out _ (HB0.out _)) (HB.out _ (HB0.out _))).mono ?_
  rintro e w1 ⟨rfl, hb⟩
  rw [HE.out]
  have q1 : w1.cell? ⟨w.heap.size, 2, none⟩ = some va := Pm.Below.cell hb (by simp)
  have q2 : w1.cell? ⟨w.heap.size, 3, none⟩ = some vb := Pm.Below.cell hb (by simp)
  have hbw := (HB0.out _).trans (hb.mono (HB0.out _).size)
  have kc := Pm.conv_any (HA.out _ hbw)
  have kd := Pm.conv_any (HB.out _ hbw)
  have HW := Lib.hid hbw
  obtain ⟨SA, hSA⟩ : ∃ S : ByteArray, Pm.strV A = .string S := ⟨_, rfl⟩
  obtain ⟨SB, hSB⟩ : ∃ S : ByteArray, Pm.strV B = .string S := ⟨_, rfl⟩
  rw [hSA] at kc
  rw [hSB] at kd
  have HSA := Lib.hid hSA
  have HSB := Lib.hid hSB
  clear hb hbw hSA hSB
  go_upto_region 5 with (with_reducible refine wpList_build2 rfl 78 1 2 (.tmp 13) (.tmp 16) rfl (.string SA) (.string SB) rfl rfl #[.int .i64 0, .nilFunc, .nilFunc, .string SA, .string SB] (Tryd.built_turn _ _) ?_)
  have hh := heap_alloc_last w1 (.cells #[.int .i64 0, .nilFunc, .nilFunc, .string SA, .string SB] 78)
  have hb2 : Below w.heap.size w (w1.alloc (.cells #[.int .i64 0, .nilFunc, .nilFunc, .string SA, .string SB] 78)) := HW.out.alloc HW.out.size _
  have hge := HW.out.size
  generalize w1.alloc (.cells #[.int .i64 0, .nilFunc, .nilFunc, .string SA, .string SB] 78) = W1 at hh hb2 ⊢
  generalize w1.heap.size = G at hh hge ⊢
  have hz : W1.frozen? ⟨G, 2, none⟩ = false := by simp [World.frozen?, hh]
  have hc2 : W1.cell? ⟨G, 2, none⟩ = some .nilFunc := by rw [cell_of_row _ _ _ _ _ _ hh]; rfl
  have HH := Lib.hid hh
  have HB2 := Lib.hid hb2
  have HGE := Lib.hid hge
  clear hh hb2 hge q1 q2 HW kc kd
  go_wp2_with fail
  have hh : (W1.setCell ⟨G, 2, none⟩ (.func (.func 28) #[.pointer (some ⟨G, 0, none⟩)] #[])).heap[G]? = some (.cells #[.int .i64 0, .nilFunc, .func (.func 28) #[.pointer (some ⟨G, 0, none⟩)] #[], .string SA, .string SB] 78 (0, 0)) := by
    rw [setCell_row HH.out]
    rfl
  have hb3 : Below w.heap.size w (W1.setCell ⟨G, 2, none⟩ (.func (.func 28) #[.pointer (some ⟨G, 0, none⟩)] #[])) := HB2.out.setCell (by exact HGE.out) _
  generalize W1.setCell ⟨G, 2, none⟩ (.func (.func 28) #[.pointer (some ⟨G, 0, none⟩)] #[]) = W2 at hh hb3 ⊢
  have HH2 := Lib.hid hh
  have HB3 := Lib.hid hb3
  clear hh hb3 hz hc2 HH HB2
  go_ret2
  refine ⟨G, rfl, HGE.out, ?_, HB3.out⟩
  have hs : strV A = .string SA := HSA.out
  have ht : strV B = .string SB := HSB.out
  unfold TurnAt turnRow
  rw [HH2.out, hs, ht]

end Go.Proofs.YtacmbjamnmpmoaaDoor
