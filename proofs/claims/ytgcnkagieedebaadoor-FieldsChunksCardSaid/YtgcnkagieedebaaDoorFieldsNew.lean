/- What fields.New does. -/
import Derived.Test.YtgcnkagieedebaaDoorFieldsTell
import Derived.Test.YtgcnkagieedebaaDoorIcheck
namespace Go.Proofs.YtgcnkagieedebaaDoor
open Go.RowKit

theorem Tryd.built_fields (S : ByteArray) (n : Int) : Tryd.prog.built 87 [(1, .string S), (2, .int .i64 n)] = some (rowA [.int .i64 0, .nilFunc] false [] [.nilFunc, .nilFunc, .string S, .int .i64 n]) := by kernel_rfl

def fieldsS : LS Unit := ⟨true, false, [], ()⟩
/-- The call answers a machine of its own. -/
def FieldsMade (w : World) (N : Nat) (a : UInt8) (e : Ending) (w' : World) : Prop :=
  ∃ g, e = .returned (.tuple #[.iface 75 (.pointer (some ⟨g, 0, none⟩)), .int .i64 0]) ∧ w.heap.size ≤ g ∧ (fieldsM N a).Rep g fieldsS (fun _ => False) w' ∧ Below w.heap.size w w'

set_option maxRecDepth 100000 in
set_option maxHeartbeats 1000000 in
theorem fieldsNew_no (k n : Int) (va vb : Value) (A B : List UInt8) (w : World) (hT : Pm.Tab w) (hA : Pm.IsBytes w va A) (hB : Pm.IsBytes w vb B) (hE : takeE 7 k n A B ≠ 0) :
    Calls Tryd.prog 14 #[Pm.parV k n va vb] w (Pm.Gives w (.tuple #[.nilIface, .int .i64 (takeE 7 k n A B)])) := by
  have HT := Lib.hid (show ∀ o1, Pm.Tab (w.alloc o1) from fun o1 => hT.below ((Below.refl _ _).alloc (Nat.le_refl _) _))
  have HA := Lib.hid (show ∀ o1, Pm.IsBytes (w.alloc o1) va A from fun o1 => hA.below ((Below.refl _ _).alloc (Nat.le_refl _) _))
  have HB := Lib.hid (show ∀ o1, Pm.IsBytes (w.alloc o1) vb B from fun o1 => hB.below ((Below.refl _ _).alloc (Nat.le_refl _) _))
  have HB0 := Lib.hid (show ∀ o1, Below w.heap.size w (w.alloc o1) from fun o1 => (Below.refl _ _).alloc (Nat.le_refl _) _)
  obtain ⟨E, hE2⟩ : ∃ E : Int, E = takeE 7 k n A B := ⟨_, rfl⟩
  have HE := Lib.hid hE2
  rw [← hE2] at hE ⊢
  have g1 : (E != 0) = true := by simpa using hE
  clear hT hA hB hE hE2
  unfold Pm.parV
  go_enter Tryd.func14, Tryd.ntmps14
  go_wp2_with fail
  refine (intakeCheck_any 7 k n va vb A B _ (HT.out _) (HA.out _) (HB.out _)).mono ?_
  rintro e w1 ⟨rfl, hb⟩
  rw [← HE.out]
  have HW := Lib.hid ((HB0.out _).trans (hb.mono (HB0.out _).size))
  clear hb
  go_wp2_with fail
  go_ret2
  exact ⟨rfl, HW.out⟩

set_option maxRecDepth 100000 in
set_option maxHeartbeats 2000000 in
theorem fieldsNew_yes (k : Int) (N : Nat) (va vb : Value) (a : UInt8) (B : List UInt8) (w : World) (hT : MaxTab w) (hA : Pm.IsBytes w va [a]) (hB : Pm.IsBytes w vb B) (hE : takeE 7 k N [a] B = 0) :
    Calls Tryd.prog 14 #[Pm.parV k N va vb] w (FieldsMade w N a) := by
  have HT := Lib.hid (show ∀ o1, Pm.Tab (w.alloc o1) from fun o1 => hT.1.below ((Below.refl _ _).alloc (Nat.le_refl _) _))
  have HM := Lib.hid (show ∀ W, Below w.heap.size w W → MaxAt W from fun W hb => (hT.below hb).2)
  have HA := Lib.hid (show ∀ W, Below w.heap.size w W → Pm.IsBytes W va [a] from fun W hb => hA.below hb)
  have HB := Lib.hid (show ∀ o1, Pm.IsBytes (w.alloc o1) vb B from fun o1 => hB.below ((Below.refl _ _).alloc (Nat.le_refl _) _))
  have HB0 := Lib.hid (show ∀ o1, Below w.heap.size w (w.alloc o1) from fun o1 => (Below.refl _ _).alloc (Nat.le_refl _) _)
  have HE := Lib.hid hE
  have hlt := hT.2.lt
  clear hT hA hB hE
  unfold Pm.parV
  go_enter Tryd.func14, Tryd.ntmps14
  go_wp2_with fail
  refine (intakeCheck_any 7 k N va vb [a] B _ (HT.out _) (HA.out _ (HB0.out _)) (HB.out _)).mono ?_
  rintro e w1 ⟨rfl, hb⟩
  rw [HE.out]
  have q0 : w1.cell? ⟨w.heap.size, 1, none⟩ = some (.int .i64 N) := Pm.Below.cell hb (by simp)
  have q1 : w1.cell? ⟨w.heap.size, 2, none⟩ = some va := Pm.Below.cell hb (by simp)
  have hbw := (HB0.out _).trans (hb.mono (HB0.out _).size)
  have kc := Pm.conv_any (HA.out _ hbw)
  have HW := Lib.hid hbw
  obtain ⟨SA, hSA⟩ : ∃ S : ByteArray, Pm.strV [a] = .string S := ⟨_, rfl⟩
  rw [hSA] at kc
  have HSA := Lib.hid hSA
  clear hb hbw hSA
  go_upto_region 5 with (with_reducible refine wpList_build2 rfl 87 1 2 (.tmp 13) (.tmp 15) rfl (.string SA) (.int .i64 N) rfl rfl (rowA [.int .i64 0, .nilFunc] false [] [.nilFunc, .nilFunc, .string SA, .int .i64 N]) (Tryd.built_fields _ _) ?_)
  have hh := heap_alloc_last w1 (.cells (rowA [.int .i64 0, .nilFunc] false [] [.nilFunc, .nilFunc, .string SA, .int .i64 N]) 87)
  have hb2 : Below w.heap.size w (w1.alloc (.cells (rowA [.int .i64 0, .nilFunc] false [] [.nilFunc, .nilFunc, .string SA, .int .i64 N]) 87)) := HW.out.alloc HW.out.size _
  have hge := HW.out.size
  generalize w1.alloc (.cells (rowA [.int .i64 0, .nilFunc] false [] [.nilFunc, .nilFunc, .string SA, .int .i64 N]) 87) = W1 at hh hb2 ⊢
  generalize w1.heap.size = G at hh hge ⊢
  have hz : W1.frozen? ⟨G, 68, none⟩ = false := by simp [World.frozen?, hh]
  have hc68 : W1.cell? ⟨G, 68, none⟩ = some .nilFunc := by rw [cell_of_row _ _ _ _ _ _ hh]; rfl
  have HH := Lib.hid hh
  have HB2 := Lib.hid hb2
  have HGE := Lib.hid hge
  clear hh hb2 hge q0 q1 HW kc
  go_wp2_with fail
  have hh : (W1.setCell ⟨G, 68, none⟩ (.func (.func 30) #[.pointer (some ⟨G, 0, none⟩)] #[])).heap[G]? = some (.cells (rowA [.int .i64 0, .nilFunc] false [] [(.func (.func 30) #[.pointer (some ⟨G, 0, none⟩)] #[]), .nilFunc, .string SA, .int .i64 N]) 87 (0, 0)) := by
    rw [setCell_row HH.out]
    rfl
  have hb3 : Below w.heap.size w (W1.setCell ⟨G, 68, none⟩ (.func (.func 30) #[.pointer (some ⟨G, 0, none⟩)] #[])) := HB2.out.setCell (by exact HGE.out) _
  generalize W1.setCell ⟨G, 68, none⟩ (.func (.func 30) #[.pointer (some ⟨G, 0, none⟩)] #[]) = W2 at hh hb3 ⊢
  have HH2 := Lib.hid hh
  have HB3 := Lib.hid hb3
  clear hh hb3 hz hc68 HH HB2
  go_ret2
  refine ⟨G, rfl, HGE.out, ⟨?_, fun _ => ⟨rfl, trivial⟩⟩, HB3.out⟩
  refine fields_of ?_ (by simp [fieldsS]) (fun h => by cases h) (HM.out _ HB3.out) (by have := HGE.out; show 1 + 1 ≤ G; omega)
  have hs : strV [a] = .string SA := HSA.out
  rw [HH2.out, ← hs]
  rfl

end Go.Proofs.YtgcnkagieedebaaDoor
