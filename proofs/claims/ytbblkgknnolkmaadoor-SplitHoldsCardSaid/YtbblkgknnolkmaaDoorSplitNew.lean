/- What split.New does. -/
import Derived.Test.YtbblkgknnolkmaaDoorSplitTell
import Derived.Test.YtbblkgknnolkmaaDoorIcheck
namespace Go.Proofs.YtbblkgknnolkmaaDoor
open Go.RowKit

theorem Tryd.built_split (n : Int) : Tryd.prog.built 85 [(1, .int .i64 n)] = some (rowA [.int .i64 0, .nilFunc] false [] [.nilFunc, .nilFunc, .int .i64 n, .int .i64 0]) := by kernel_rfl

def splitS : LS Nat := ⟨true, false, [], 0⟩
/-- The call answers a machine of its own. -/
def SplitMade (w : World) (N : Nat) (e : Ending) (w' : World) : Prop :=
  ∃ g, e = .returned (.tuple #[.iface 73 (.pointer (some ⟨g, 0, none⟩)), .int .i64 0]) ∧ w.heap.size ≤ g ∧ (splitM N).Rep g splitS (fun _ => False) w' ∧ Below w.heap.size w w'

set_option maxRecDepth 100000 in
set_option maxHeartbeats 1000000 in
theorem splitNew_no (k n : Int) (va vb : Value) (A B : List UInt8) (w : World) (hT : Pm.Tab w) (hA : Pm.IsBytes w va A) (hB : Pm.IsBytes w vb B) (hE : takeE 16 k n A B ≠ 0) :
    Calls Tryd.prog 14 #[Pm.parV k n va vb] w (Pm.Gives w (.tuple #[.nilIface, .int .i64 (takeE 16 k n A B)])) := by
  have HT := Lib.hid (show ∀ o1, Pm.Tab (w.alloc o1) from fun o1 => hT.below ((Below.refl _ _).alloc (Nat.le_refl _) _))
  have HA := Lib.hid (show ∀ o1, Pm.IsBytes (w.alloc o1) va A from fun o1 => hA.below ((Below.refl _ _).alloc (Nat.le_refl _) _))
  have HB := Lib.hid (show ∀ o1, Pm.IsBytes (w.alloc o1) vb B from fun o1 => hB.below ((Below.refl _ _).alloc (Nat.le_refl _) _))
  have HB0 := Lib.hid (show ∀ o1, Below w.heap.size w (w.alloc o1) from fun o1 => (Below.refl _ _).alloc (Nat.le_refl _) _)
  obtain ⟨E, hE2⟩ : ∃ E : Int, E = takeE 16 k n A B := ⟨_, rfl⟩
  have HE := Lib.hid hE2
  rw [← hE2] at hE ⊢
  have g1 : (E != 0) = true := by simpa using hE
  clear hT hA hB hE hE2
  unfold Pm.parV
  go_enter Tryd.func14, Tryd.ntmps14
  go_wp2_with fail
  refine (intakeCheck_any 16 k n va vb A B _ (HT.out _) (HA.out _) (HB.out _)).mono ?_
  rintro e w1 ⟨rfl, hb⟩
  rw [← HE.out]
  have HW := Lib.hid ((HB0.out _).trans (hb.mono (HB0.out _).size))
  clear hb
  go_wp2_with fail
  go_ret2
  exact ⟨rfl, HW.out⟩

set_option maxRecDepth 100000 in
set_option maxHeartbeats 2000000 in
theorem splitNew_yes (k : Int) (N : Nat) (va vb : Value) (A B : List UInt8) (w : World) (hT : Pm.Tab w) (hA : Pm.IsBytes w va A) (hB : Pm.IsBytes w vb B) (hE : takeE 16 k N A B = 0) (h1 : 1 ≤ N) :
    Calls Tryd.prog 14 #[Pm.parV k N va vb] w (SplitMade w N) := by
  have HT := Lib.hid (show ∀ o1, Pm.Tab (w.alloc o1) from fun o1 => hT.below ((Below.refl _ _).alloc (Nat.le_refl _) _))
  have HA := Lib.hid (show ∀ o1, Pm.IsBytes (w.alloc o1) va A from fun o1 => hA.below ((Below.refl _ _).alloc (Nat.le_refl _) _))
  have HB := Lib.hid (show ∀ o1, Pm.IsBytes (w.alloc o1) vb B from fun o1 => hB.below ((Below.refl _ _).alloc (Nat.le_refl _) _))
  have HB0 := Lib.hid (show ∀ o1, Below w.heap.size w (w.alloc o1) from fun o1 => (Below.refl _ _).alloc (Nat.le_refl _) _)
  have HE := Lib.hid hE
  have HN := Lib.hid h1
  clear hT hA hB hE h1
  unfold Pm.parV
  go_enter Tryd.func14, Tryd.ntmps14
  go_wp2_with fail
  refine (intakeCheck_any 16 k N va vb A B _ (HT.out _) (HA.out _) (HB.out _)).mono ?_
  rintro e w1 ⟨rfl, hb⟩
  rw [HE.out]
  have q0 : w1.cell? ⟨w.heap.size, 1, none⟩ = some (.int .i64 N) := Pm.Below.cell hb (by simp)
  have hbw := (HB0.out _).trans (hb.mono (HB0.out _).size)
  have HW := Lib.hid hbw
  clear hb hbw
  go_upto_region 5 with (with_reducible refine wpList_build1 rfl 85 1 (.tmp 12) rfl (.int .i64 N) rfl (rowA [.int .i64 0, .nilFunc] false [] [.nilFunc, .nilFunc, .int .i64 N, .int .i64 0]) (Tryd.built_split _) ?_)
  have hh := heap_alloc_last w1 (.cells (rowA [.int .i64 0, .nilFunc] false [] [.nilFunc, .nilFunc, .int .i64 N, .int .i64 0]) 85)
  have hb2 : Below w.heap.size w (w1.alloc (.cells (rowA [.int .i64 0, .nilFunc] false [] [.nilFunc, .nilFunc, .int .i64 N, .int .i64 0]) 85)) := HW.out.alloc HW.out.size _
  have hge := HW.out.size
  generalize w1.alloc (.cells (rowA [.int .i64 0, .nilFunc] false [] [.nilFunc, .nilFunc, .int .i64 N, .int .i64 0]) 85) = W1 at hh hb2 ⊢
  generalize w1.heap.size = G at hh hge ⊢
  have hz : W1.frozen? ⟨G, 68, none⟩ = false := by simp [World.frozen?, hh]
  have hc68 : W1.cell? ⟨G, 68, none⟩ = some .nilFunc := by rw [cell_of_row _ _ _ _ _ _ hh]; rfl
  have HH := Lib.hid hh
  have HB2 := Lib.hid hb2
  have HGE := Lib.hid hge
  clear hh hb2 hge q0 HW
  go_wp2_with fail
  have hh : (W1.setCell ⟨G, 68, none⟩ (.func (.func 29) #[.pointer (some ⟨G, 0, none⟩)] #[])).heap[G]? = some (.cells (rowA [.int .i64 0, .nilFunc] false [] [(.func (.func 29) #[.pointer (some ⟨G, 0, none⟩)] #[]), .nilFunc, .int .i64 N, .int .i64 0]) 85 (0, 0)) := by
    rw [setCell_row HH.out]
    rfl
  have hb3 : Below w.heap.size w (W1.setCell ⟨G, 68, none⟩ (.func (.func 29) #[.pointer (some ⟨G, 0, none⟩)] #[])) := HB2.out.setCell (by exact HGE.out) _
  generalize W1.setCell ⟨G, 68, none⟩ (.func (.func 29) #[.pointer (some ⟨G, 0, none⟩)] #[]) = W2 at hh hb3 ⊢
  have HH2 := Lib.hid hh
  have HB3 := Lib.hid hb3
  clear hh hb3 hz hc68 HH HB2
  go_ret2
  refine ⟨G, rfl, HGE.out, ⟨?_, fun _ => ⟨rfl, trivial⟩⟩, HB3.out⟩
  refine split_of ?_ (by simp [splitS]) (fun h => by cases h) (fun _ h => h)
  rw [HH2.out, splitRow]
  show _ = some (Obj.cells (rowA _ _ _ [_, _, _, .int .i64 ((0 % N : Nat) : Int)]) _ _)
  rw [Nat.zero_mod]
  rfl

end Go.Proofs.YtbblkgknnolkmaaDoor
