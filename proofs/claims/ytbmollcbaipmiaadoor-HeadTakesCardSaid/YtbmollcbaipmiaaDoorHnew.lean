/- What head.New does. -/
import Derived.Test.YtbmollcbaipmiaaDoorHtell
import Derived.Test.YtbmollcbaipmiaaDoorIcheck
namespace Go.Proofs.YtbmollcbaipmiaaDoor
open Go.RowKit

theorem Tryd.built_head (n : Int) : Tryd.prog.built 86 [(1, .int .i64 n)] = some (rowA [.int .i64 0, .nilFunc] false [] [.nilFunc, .nilFunc, .int .i64 n]) := by kernel_rfl
theorem Tryd.size_head : (Tryd.prog.info? 86).map (·.size) = some 71 := by kernel_rfl

def headS (n : Nat) : LS Nat := ⟨decide (n ≠ 0), false, [], n⟩
/-- The call answers a machine of its own. -/
def HeadMade (w : World) (n : Nat) (e : Ending) (w' : World) : Prop :=
  ∃ g, e = .returned (.tuple #[.iface 74 (.pointer (some ⟨g, 0, none⟩)), .int .i64 0]) ∧ w.heap.size ≤ g ∧ headM.Rep g (headS n) noX w' ∧ Below w.heap.size w w'

set_option maxRecDepth 100000 in
set_option maxHeartbeats 1000000 in
theorem headNew_no (k n : Int) (va vb : Value) (A B : List UInt8) (w : World) (hT : Pm.Tab w) (hA : Pm.IsBytes w va A) (hB : Pm.IsBytes w vb B) (hE : takeE 3 k n A B ≠ 0) :
    Calls Tryd.prog 14 #[Pm.parV k n va vb] w (Pm.Gives w (.tuple #[.nilIface, .int .i64 (takeE 3 k n A B)])) := by
  have HT := Lib.hid (show ∀ o1, Pm.Tab (w.alloc o1) from fun o1 => hT.below ((Below.refl _ _).alloc (Nat.le_refl _) _))
  have HA := Lib.hid (show ∀ o1, Pm.IsBytes (w.alloc o1) va A from fun o1 => hA.below ((Below.refl _ _).alloc (Nat.le_refl _) _))
  have HB := Lib.hid (show ∀ o1, Pm.IsBytes (w.alloc o1) vb B from fun o1 => hB.below ((Below.refl _ _).alloc (Nat.le_refl _) _))
  have HB0 := Lib.hid (show ∀ o1, Below w.heap.size w (w.alloc o1) from fun o1 => (Below.refl _ _).alloc (Nat.le_refl _) _)
  obtain ⟨E, hE2⟩ : ∃ E : Int, E = takeE 3 k n A B := ⟨_, rfl⟩
  have HE := Lib.hid hE2
  rw [← hE2] at hE ⊢
  have g1 : (E != 0) = true := by simpa using hE
  clear hT hA hB hE hE2
  unfold Pm.parV
  go_enter Tryd.func14, Tryd.ntmps14
  go_wp2_with fail
  refine (intakeCheck_any 3 k n va vb A B _ (HT.out _) (HA.out _) (HB.out _)).mono ?_
  rintro e w1 ⟨rfl, hb⟩
  rw [← HE.out]
  have HW := Lib.hid ((HB0.out _).trans (hb.mono (HB0.out _).size))
  clear hb
  go_wp2_with fail
  go_ret2
  exact ⟨rfl, HW.out⟩

set_option maxRecDepth 100000 in
set_option maxHeartbeats 2000000 in
theorem headNew_yes (k : Int) (n : Nat) (va vb : Value) (A B : List UInt8) (w : World) (hT : Pm.Tab w) (hA : Pm.IsBytes w va A) (hB : Pm.IsBytes w vb B) (hE : takeE 3 k n A B = 0) (hn : n ≤ 1000000000) :
    Calls Tryd.prog 14 #[Pm.parV k n va vb] w (HeadMade w n) := by
  have HT := Lib.hid (show ∀ o1, Pm.Tab (w.alloc o1) from fun o1 => hT.below ((Below.refl _ _).alloc (Nat.le_refl _) _))
  have HA := Lib.hid (show ∀ o1, Pm.IsBytes (w.alloc o1) va A from fun o1 => hA.below ((Below.refl _ _).alloc (Nat.le_refl _) _))
  have HB := Lib.hid (show ∀ o1, Pm.IsBytes (w.alloc o1) vb B from fun o1 => hB.below ((Below.refl _ _).alloc (Nat.le_refl _) _))
  have HB0 := Lib.hid (show ∀ o1, Below w.heap.size w (w.alloc o1) from fun o1 => (Below.refl _ _).alloc (Nat.le_refl _) _)
  have HE := Lib.hid hE
  clear hT hA hB hE
  unfold Pm.parV
  go_enter Tryd.func14, Tryd.ntmps14
  go_wp2_with fail
  refine (intakeCheck_any 3 k n va vb A B _ (HT.out _) (HA.out _) (HB.out _)).mono ?_
  rintro e w1 ⟨rfl, hb⟩
  rw [HE.out]
  have q0 : w1.cell? ⟨w.heap.size, 1, none⟩ = some (.int .i64 n) := Pm.Below.cell hb (by simp)
  have HW := Lib.hid ((HB0.out _).trans (hb.mono (HB0.out _).size))
  clear hb
  go_upto_region 5 with (with_reducible refine wpList_build1 rfl 86 1 (.tmp 12) rfl (.int .i64 n) rfl (rowA [.int .i64 0, .nilFunc] false [] [.nilFunc, .nilFunc, .int .i64 n]) (Tryd.built_head n) ?_)
  have hh := heap_alloc_last w1 (.cells (rowA [.int .i64 0, .nilFunc] false [] [.nilFunc, .nilFunc, .int .i64 n]) 86)
  have hb2 : Below w.heap.size w (w1.alloc (.cells (rowA [.int .i64 0, .nilFunc] false [] [.nilFunc, .nilFunc, .int .i64 n]) 86)) := HW.out.alloc HW.out.size _
  have hge := HW.out.size
  generalize w1.alloc (.cells (rowA [.int .i64 0, .nilFunc] false [] [.nilFunc, .nilFunc, .int .i64 n]) 86) = W1 at hh hb2 ⊢
  generalize w1.heap.size = G at hh hge ⊢
  have hz : W1.frozen? ⟨G, 68, none⟩ = false := by simp [World.frozen?, hh]
  have hc68 : W1.cell? ⟨G, 68, none⟩ = some .nilFunc := by rw [cell_of_row _ _ _ _ _ _ hh]; rfl
  have HH := Lib.hid hh
  have HB2 := Lib.hid hb2
  have HGE := Lib.hid hge
  clear hh hb2 hge q0 HW
  go_wp2_with fail
  have hh : (W1.setCell ⟨G, 68, none⟩ (.func (.func 30) #[.pointer (some ⟨G, 0, none⟩)] #[])).heap[G]? = some (.cells (rowA [.int .i64 0, .nilFunc] false [] [.func (.func 30) #[.pointer (some ⟨G, 0, none⟩)] #[], .nilFunc, .int .i64 n]) 86 (0, 0)) := by
    rw [setCell_row HH.out]
    rfl
  have hb3 : Below w.heap.size w (W1.setCell ⟨G, 68, none⟩ (.func (.func 30) #[.pointer (some ⟨G, 0, none⟩)] #[])) := HB2.out.setCell (by exact HGE.out) _
  generalize W1.setCell ⟨G, 68, none⟩ (.func (.func 30) #[.pointer (some ⟨G, 0, none⟩)] #[]) = W2 at hh hb3 ⊢
  have HH2 := Lib.hid hh
  have HB3 := Lib.hid hb3
  clear hh hb3 hz hc68 HH HB2
  refine (stopIf_any (g := G) (u := n) (n := 0) (by rw [cell_of_row _ _ _ _ _ _ HH2.out]; rfl) (by rw [cell_of_row _ _ _ _ _ _ HH2.out]; rfl) (by simp [World.frozen?, HH2.out])).mono ?_
  rintro e w2 ⟨rfl, hw2⟩
  have hR : headM.Rep G (headS n) noX w2 ∧ Below w.heap.size w w2 := by
    have h0' : headM.RepN G 0 false [] n noX W2 := head_of HH2.out (by simp) (fun h => by cases h)
    by_cases h0 : n = 0
    · rw [if_pos h0] at hw2
      subst hw2 h0
      exact ⟨⟨h0'.setNeed (-1), fun h => by simp [headS] at h⟩, HB3.out.setCell (by exact HGE.out) _⟩
    · rw [if_neg h0] at hw2
      subst hw2
      have hs : headS n = ⟨true, false, [], n⟩ := by simp [headS, h0]
      rw [hs]
      exact ⟨⟨h0', fun _ => ⟨rfl, by show 1 ≤ n ∧ n ≤ 1000000000; omega⟩⟩, HB3.out⟩
  have HR := Lib.hid hR
  clear hR hw2
  go_wp2_with fail
  go_ret2
  exact ⟨G, rfl, HGE.out, HR.out.1, HR.out.2⟩

end Go.Proofs.YtbmollcbaipmiaaDoor
