/- What number.New does. -/
import Derived.Test.YtmdmcmdchjlmiaaDoorNumberTell
import Derived.Test.YtmdmcmdchjlmiaaDoorIcheck
namespace Go.Proofs.YtmdmcmdchjlmiaaDoor
open Go.RowKit

theorem Tryd.built_number (n : Int) : Tryd.prog.built 85 [(1, .int .i64 n)] = some (rowA [.int .i64 0, .nilFunc] false [] [.nilFunc, .nilFunc, .int .i64 n]) := by kernel_rfl

def numberS (N : Nat) : LS Int := ⟨true, false, [], (N : Int)⟩
/-- The call answers a machine of its own. -/
def NumberMade (w : World) (N : Nat) (e : Ending) (w' : World) : Prop :=
  ∃ g, e = .returned (.tuple #[.iface 73 (.pointer (some ⟨g, 0, none⟩)), .int .i64 0]) ∧ w.heap.size ≤ g ∧ numberM.Rep g (numberS N) (fun _ => False) w' ∧ Below w.heap.size w w'

set_option maxRecDepth 100000 in
set_option maxHeartbeats 1000000 in
theorem numberNew_no (k n : Int) (va vb : Value) (A B : List UInt8) (w : World) (hT : Pm.Tab w) (hA : Pm.IsBytes w va A) (hB : Pm.IsBytes w vb B) (hE : takeE 10 k n A B ≠ 0) :
    Calls Tryd.prog 14 #[Pm.parV k n va vb] w (Pm.Gives w (.tuple #[.nilIface, .int .i64 (takeE 10 k n A B)])) := by
  have HT := Lib.hid (show ∀ o1, Pm.Tab (w.alloc o1) from fun o1 => hT.below ((Below.refl _ _).alloc (Nat.le_refl _) _))
  have HA := Lib.hid (show ∀ o1, Pm.IsBytes (w.alloc o1) va A from fun o1 => hA.below ((Below.refl _ _).alloc (Nat.le_refl _) _))
  have HB := Lib.hid (show ∀ o1, Pm.IsBytes (w.alloc o1) vb B from fun o1 => hB.below ((Below.refl _ _).alloc (Nat.le_refl _) _))
  have HB0 := Lib.hid (show ∀ o1, Below w.heap.size w (w.alloc o1) from fun o1 => (Below.refl _ _).alloc (Nat.le_refl _) _)
  obtain ⟨E, hE2⟩ : ∃ E : Int, E = takeE 10 k n A B := ⟨_, rfl⟩
  have HE := Lib.hid hE2
  rw [← hE2] at hE ⊢
  have g1 : (E != 0) = true := by simpa using hE
  clear hT hA hB hE hE2
  unfold Pm.parV
  go_enter Tryd.func14, Tryd.ntmps14
  go_wp2_with fail
  refine (intakeCheck_any 10 k n va vb A B _ (HT.out _) (HA.out _) (HB.out _)).mono ?_
  rintro e w1 ⟨rfl, hb⟩
  rw [← HE.out]
  have HW := Lib.hid ((HB0.out _).trans (hb.mono (HB0.out _).size))
  clear hb
  go_wp2_with fail
  go_ret2
  exact ⟨rfl, HW.out⟩

set_option maxRecDepth 100000 in
set_option maxHeartbeats 2000000 in
theorem numberNew_yes (k : Int) (N : Nat) (va vb : Value) (A B : List UInt8) (w : World) (hT : TenTab w) (hA : Pm.IsBytes w va A) (hB : Pm.IsBytes w vb B) (hE : takeE 10 k N A B = 0) (hN : N ≤ 1000000000) :
    Calls Tryd.prog 14 #[Pm.parV k N va vb] w (NumberMade w N) := by
  have HT := Lib.hid (show ∀ o1, Pm.Tab (w.alloc o1) from fun o1 => hT.1.below ((Below.refl _ _).alloc (Nat.le_refl _) _))
  have HM := Lib.hid (show ∀ W, Below w.heap.size w W → TenAt W from fun W hb => (hT.below hb).2)
  have HA := Lib.hid (show ∀ o1, Pm.IsBytes (w.alloc o1) va A from fun o1 => hA.below ((Below.refl _ _).alloc (Nat.le_refl _) _))
  have HB := Lib.hid (show ∀ o1, Pm.IsBytes (w.alloc o1) vb B from fun o1 => hB.below ((Below.refl _ _).alloc (Nat.le_refl _) _))
  have HB0 := Lib.hid (show ∀ o1, Below w.heap.size w (w.alloc o1) from fun o1 => (Below.refl _ _).alloc (Nat.le_refl _) _)
  have HE := Lib.hid hE
  have HN := Lib.hid hN
  have hlt := hT.2.lt
  clear hT hA hB hE hN
  unfold Pm.parV
  go_enter Tryd.func14, Tryd.ntmps14
  go_wp2_with fail
  refine (intakeCheck_any 10 k N va vb A B _ (HT.out _) (HA.out _) (HB.out _)).mono ?_
  rintro e w1 ⟨rfl, hb⟩
  rw [HE.out]
  have q0 : w1.cell? ⟨w.heap.size, 1, none⟩ = some (.int .i64 N) := Pm.Below.cell hb (by simp)
  have hbw := (HB0.out _).trans (hb.mono (HB0.out _).size)
  have HW := Lib.hid hbw
  clear hb hbw
  go_upto_region 5 with (with_reducible refine wpList_build1 rfl 85 1 (.tmp 12) rfl (.int .i64 N) rfl (rowA [.int .i64 0, .nilFunc] false [] [.nilFunc, .nilFunc, .int .i64 N]) (Tryd.built_number _) ?_)
  have hh := heap_alloc_last w1 (.cells (rowA [.int .i64 0, .nilFunc] false [] [.nilFunc, .nilFunc, .int .i64 N]) 85)
  have hb2 : Below w.heap.size w (w1.alloc (.cells (rowA [.int .i64 0, .nilFunc] false [] [.nilFunc, .nilFunc, .int .i64 N]) 85)) := HW.out.alloc HW.out.size _
  have hge := HW.out.size
  generalize w1.alloc (.cells (rowA [.int .i64 0, .nilFunc] false [] [.nilFunc, .nilFunc, .int .i64 N]) 85) = W1 at hh hb2 ⊢
  generalize w1.heap.size = G at hh hge ⊢
  have hz : W1.frozen? ⟨G, 68, none⟩ = false := by simp [World.frozen?, hh]
  have hc68 : W1.cell? ⟨G, 68, none⟩ = some .nilFunc := by rw [cell_of_row _ _ _ _ _ _ hh]; rfl
  have HH := Lib.hid hh
  have HB2 := Lib.hid hb2
  have HGE := Lib.hid hge
  clear hh hb2 hge q0 HW
  go_wp2_with fail
  have hh : (W1.setCell ⟨G, 68, none⟩ (.func (.func 29) #[.pointer (some ⟨G, 0, none⟩)] #[])).heap[G]? = some (.cells (rowA [.int .i64 0, .nilFunc] false [] [(.func (.func 29) #[.pointer (some ⟨G, 0, none⟩)] #[]), .nilFunc, .int .i64 N]) 85 (0, 0)) := by
    rw [setCell_row HH.out]
    rfl
  have hb3 : Below w.heap.size w (W1.setCell ⟨G, 68, none⟩ (.func (.func 29) #[.pointer (some ⟨G, 0, none⟩)] #[])) := HB2.out.setCell (by exact HGE.out) _
  generalize W1.setCell ⟨G, 68, none⟩ (.func (.func 29) #[.pointer (some ⟨G, 0, none⟩)] #[]) = W2 at hh hb3 ⊢
  have HH2 := Lib.hid hh
  have HB3 := Lib.hid hb3
  clear hh hb3 hz hc68 HH HB2
  go_ret2
  refine ⟨G, rfl, HGE.out, ⟨?_, fun _ => ⟨rfl, trivial⟩⟩, HB3.out⟩
  refine number_of ?_ (by simp [numberS]) (fun h => by cases h) (HM.out _ HB3.out) (by have := HGE.out; show 1 + 1 ≤ G; omega) (fun _ h => h)
  have hw : wrap64 (N : Int) = N := num_wrap_id (by omega) (by have := HN.out; omega)
  rw [HH2.out, numberRow]
  show _ = some (Obj.cells (rowA _ _ _ [_, _, .int .i64 (wrap64 (N : Int))]) _ _)
  rw [hw]
  rfl

end Go.Proofs.YtmdmcmdchjlmiaaDoor
