/- What tail.New does. -/
import Derived.Test.YtdpjopemdhbgpaaDoorTmach
import Derived.Test.YtdpjopemdhbgpaaDoorIcheck
namespace Go.Proofs.YtdpjopemdhbgpaaDoor
open Go.RowKit

theorem Tryd.built_tail (n : Int) : Tryd.prog.built 86 [(1, .int .i64 n)] = some (rowA [.int .i64 0, .nilFunc] false [] [.nilFunc, .nilFunc, .int .i64 n, .slice none 0 0]) := by kernel_rfl
theorem Tryd.size_tail : (Tryd.prog.info? 86).map (·.size) = some 72 := by kernel_rfl

set_option maxRecDepth 100000 in
set_option maxHeartbeats 1000000 in
theorem tailNew_no (k n : Int) (va vb : Value) (A B : List UInt8) (w : World) (hT : Pm.Tab w) (hA : Pm.IsBytes w va A) (hB : Pm.IsBytes w vb B) (hE : takeE 4 k n A B ≠ 0) :
    Calls Tryd.prog 14 #[Pm.parV k n va vb] w (Pm.Gives w (.tuple #[.nilIface, .int .i64 (takeE 4 k n A B)])) := by
  have HT := Lib.hid (show ∀ o1, Pm.Tab (w.alloc o1) from fun o1 => hT.below ((Below.refl _ _).alloc (Nat.le_refl _) _))
  have HA := Lib.hid (show ∀ o1, Pm.IsBytes (w.alloc o1) va A from fun o1 => hA.below ((Below.refl _ _).alloc (Nat.le_refl _) _))
  have HB := Lib.hid (show ∀ o1, Pm.IsBytes (w.alloc o1) vb B from fun o1 => hB.below ((Below.refl _ _).alloc (Nat.le_refl _) _))
  have HB0 := Lib.hid (show ∀ o1, Below w.heap.size w (w.alloc o1) from fun o1 => (Below.refl _ _).alloc (Nat.le_refl _) _)
  obtain ⟨E, hE2⟩ : ∃ E : Int, E = takeE 4 k n A B := ⟨_, rfl⟩
  have HE := Lib.hid hE2
  rw [← hE2] at hE ⊢
  have g1 : (E != 0) = true := by simpa using hE
  clear hT hA hB hE hE2
  unfold Pm.parV
  go_enter Tryd.func14, Tryd.ntmps14
  go_wp2_with fail
  refine (intakeCheck_any 4 k n va vb A B _ (HT.out _) (HA.out _) (HB.out _)).mono ?_
  rintro e w1 ⟨rfl, hb⟩
  rw [← HE.out]
  have HW := Lib.hid ((HB0.out _).trans (hb.mono (HB0.out _).size))
  clear hb
  go_wp2_with fail
  go_ret2
  exact ⟨rfl, HW.out⟩

def TailMade (w : World) (N : Nat) (e : Ending) (w' : World) : Prop :=
  ∃ g, e = .returned (.tuple #[.iface 74 (.pointer (some ⟨g, 0, none⟩)), .int .i64 0]) ∧ w.heap.size ≤ g ∧ TRep N g ⟨⟨true, false, [], []⟩, false⟩ (fun _ => False) w' ∧ Below w.heap.size w w'

set_option maxRecDepth 100000 in
set_option maxHeartbeats 2000000 in
theorem tailNew_yes (k : Int) (n : Nat) (va vb : Value) (A B : List UInt8) (w : World) (hT : Pm.Tab w) (hA : Pm.IsBytes w va A) (hB : Pm.IsBytes w vb B) (hE : takeE 4 k n A B = 0) (hn : n ≤ 1000) :
    Calls Tryd.prog 14 #[Pm.parV k n va vb] w (TailMade w n) := by
  have HT := Lib.hid (show ∀ o1, Pm.Tab (w.alloc o1) from fun o1 => hT.below ((Below.refl _ _).alloc (Nat.le_refl _) _))
  have HA := Lib.hid (show ∀ o1, Pm.IsBytes (w.alloc o1) va A from fun o1 => hA.below ((Below.refl _ _).alloc (Nat.le_refl _) _))
  have HB := Lib.hid (show ∀ o1, Pm.IsBytes (w.alloc o1) vb B from fun o1 => hB.below ((Below.refl _ _).alloc (Nat.le_refl _) _))
  have HB0 := Lib.hid (show ∀ o1, Below w.heap.size w (w.alloc o1) from fun o1 => (Below.refl _ _).alloc (Nat.le_refl _) _)
  have HE := Lib.hid hE
  clear hT hA hB hE
  unfold Pm.parV
  go_enter Tryd.func14, Tryd.ntmps14
  go_wp2_with fail
  refine (intakeCheck_any 4 k n va vb A B _ (HT.out _) (HA.out _) (HB.out _)).mono ?_
  rintro e w1 ⟨rfl, hb⟩
  rw [HE.out]
  have q0 : w1.cell? ⟨w.heap.size, 1, none⟩ = some (.int .i64 n) := Pm.Below.cell hb (by simp)
  have HW := Lib.hid ((HB0.out _).trans (hb.mono (HB0.out _).size))
  clear hb
  go_upto_region 5 with (with_reducible refine wpList_build1 rfl 86 1 (.tmp 12) rfl (.int .i64 n) rfl (rowA [.int .i64 0, .nilFunc] false [] [.nilFunc, .nilFunc, .int .i64 n, .slice none 0 0]) (Tryd.built_tail n) ?_)
  have hh := heap_alloc_last w1 (.cells (rowA [.int .i64 0, .nilFunc] false [] [.nilFunc, .nilFunc, .int .i64 n, .slice none 0 0]) 86)
  have hb2 : Below w.heap.size w (w1.alloc (.cells (rowA [.int .i64 0, .nilFunc] false [] [.nilFunc, .nilFunc, .int .i64 n, .slice none 0 0]) 86)) := HW.out.alloc HW.out.size _
  have hge := HW.out.size
  generalize w1.alloc (.cells (rowA [.int .i64 0, .nilFunc] false [] [.nilFunc, .nilFunc, .int .i64 n, .slice none 0 0]) 86) = W1 at hh hb2 ⊢
  generalize w1.heap.size = G at hh hge ⊢
  have hz : ∀ o, W1.frozen? ⟨G, o, none⟩ = false := fun o => by simp [World.frozen?, hh]
  have hz68 := hz 68
  have hz1 := hz 1
  have hc68 : W1.cell? ⟨G, 68, none⟩ = some .nilFunc := by rw [cell_of_row _ _ _ _ _ _ hh]; rfl
  have hc1 : W1.cell? ⟨G, 1, none⟩ = some .nilFunc := by rw [cell_of_row _ _ _ _ _ _ hh]; rfl
  have HH := Lib.hid hh
  have HB2 := Lib.hid hb2
  have HGE := Lib.hid hge
  clear hh hb2 hge q0 HW hz
  go_wp2_with fail
  go_ret2
  have hrow : ((W1.setCell ⟨G, 68, none⟩ (.func (.func 30) #[.pointer (some ⟨G, 0, none⟩)] #[])).setCell ⟨G, 1, none⟩ (.func (.func 31) #[.pointer (some ⟨G, 0, none⟩)] #[])).heap[G]? = some (.cells (tailRow n 0 false [] G (.slice none 0 0)) 86 (0, 0)) := by
    rw [setCell_row (setCell_row HH.out _ _)]
    rfl
  exact ⟨G, rfl, HGE.out, ⟨tail_of hrow (.nil _ fun _ h => h) (fun h => h) (by simp) (fun h => by cases h), hn, ⟨Nat.zero_le _, (fun l hl => by cases hl)⟩, (fun h => by cases h), fun _ => rfl⟩, (HB2.out.setCell (by exact HGE.out) _).setCell (by exact HGE.out) _⟩

end Go.Proofs.YtdpjopemdhbgpaaDoor
