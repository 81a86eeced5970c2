/- What chain.New does. -/
import Derived.Test.YtnodnbinfhildaaDoorChain
import Derived.Test.YtnodnbinfhildaaDoorIcheck
import Derived.Test.YtnodnbinfhildaaDoorPB
namespace Go.Proofs.YtnodnbinfhildaaDoor
open Go.RowKit

theorem Tryd.built_chain (n : Int) : Tryd.prog.built 78 [(1, .int .i64 n)] = some #[.int .i64 0, .nilFunc, .nilFunc, .int .i64 n] := by kernel_rfl

/-- The call answers a machine of its own. -/
def ChainMade (w : World) (N : Nat) (e : Ending) (w' : World) : Prop :=
  ∃ g, e = .returned (.tuple #[.iface 70 (.pointer (some ⟨g, 0, none⟩)), .int .i64 0]) ∧ w.heap.size ≤ g ∧ ChainAt N 0 g w' ∧ Below w.heap.size w w'

set_option maxRecDepth 100000 in
set_option maxHeartbeats 1000000 in
theorem chainNew_no (k n : Int) (va vb : Value) (A B : List UInt8) (w : World) (hT : Pm.Tab w) (hA : Pm.IsBytes w va A) (hB : Pm.IsBytes w vb B) (hE : takeE 12 k n A B ≠ 0) :
    Calls Tryd.prog 14 #[Pm.parV k n va vb] w (Pm.Gives w (.tuple #[.nilIface, .int .i64 (takeE 12 k n A B)])) := by
  have HT := Lib.hid (show ∀ o1, Pm.Tab (w.alloc o1) from fun o1 => hT.below ((Below.refl _ _).alloc (Nat.le_refl _) _))
  have HA := Lib.hid (show ∀ o1, Pm.IsBytes (w.alloc o1) va A from fun o1 => hA.below ((Below.refl _ _).alloc (Nat.le_refl _) _))
  have HB := Lib.hid (show ∀ o1, Pm.IsBytes (w.alloc o1) vb B from fun o1 => hB.below ((Below.refl _ _).alloc (Nat.le_refl _) _))
  have HB0 := Lib.hid (show ∀ o1, Below w.heap.size w (w.alloc o1) from fun o1 => (Below.refl _ _).alloc (Nat.le_refl _) _)
  obtain ⟨E, hE2⟩ : ∃ E : Int, E = takeE 12 k n A B := ⟨_, rfl⟩
  have HE := Lib.hid hE2
  rw [← hE2] at hE ⊢
  have g1 : (E != 0) = true := by simpa using hE
  clear hT hA hB hE hE2
  unfold Pm.parV
  go_enter Tryd.func14, Tryd.ntmps14
  go_wp2_with fail
  refine (intakeCheck_any 12 k n va vb A B _ (HT.out _) (HA.out _) (HB.out _)).mono ?_
  rintro e w1 ⟨rfl, hb⟩
  rw [← HE.out]
  have HW := Lib.hid ((HB0.out _).trans (hb.mono (HB0.out _).size))
  clear hb
  go_wp2_with fail
  go_ret2
  exact ⟨rfl, HW.out⟩

set_option maxRecDepth 100000 in
set_option maxHeartbeats 2000000 in
theorem chainNew_yes (k : Int) (N : Nat) (h1 : 1 ≤ N) (h4 : N ≤ 4) (va vb : Value) (A B : List UInt8) (w : World) (hT : Pm.Tab w) (hA : Pm.IsBytes w va A) (hB : Pm.IsBytes w vb B) (hE : takeE 12 k N A B = 0) :
    Calls Tryd.prog 14 #[Pm.parV k N va vb] w (ChainMade w N) := by
  have HT := Lib.hid (show ∀ o1, Pm.Tab (w.alloc o1) from fun o1 => hT.below ((Below.refl _ _).alloc (Nat.le_refl _) _))
  have HA := Lib.hid (show ∀ o1, Pm.IsBytes (w.alloc o1) va A from fun o1 => hA.below ((Below.refl _ _).alloc (Nat.le_refl _) _))
  have HB := Lib.hid (show ∀ o1, Pm.IsBytes (w.alloc o1) vb B from fun o1 => hB.below ((Below.refl _ _).alloc (Nat.le_refl _) _))
  have HB0 := Lib.hid (show ∀ o1, Below w.heap.size w (w.alloc o1) from fun o1 => (Below.refl _ _).alloc (Nat.le_refl _) _)
  have HE := Lib.hid hE
  have q1 : (1 : Int) ≤ (N : Int) := by omega
  have q4 : (N : Int) ≤ 4 := by omega
  clear hT hA hB hE h1 h4
  unfold Pm.parV
  go_enter Tryd.func14, Tryd.ntmps14
  go_wp2_with fail
  refine (intakeCheck_any 12 k N va vb A B _ (HT.out _) (HA.out _) (HB.out _)).mono ?_
  rintro e w1 ⟨rfl, hb⟩
  rw [HE.out]
  have q5 : w1.cell? ⟨w.heap.size, 1, none⟩ = some (.int .i64 N) := Pm.Below.cell hb (by simp)
  have hbw := (HB0.out _).trans (hb.mono (HB0.out _).size)
  have HW := Lib.hid hbw
  clear hb hbw
  go_upto_region 5 with (with_reducible refine wpList_build1 rfl 78 1 (.tmp 13) rfl (.int .i64 ((N : Int) - 1)) rfl #[.int .i64 0, .nilFunc, .nilFunc, .int .i64 ((N : Int) - 1)] (Tryd.built_chain _) ?_)
  have hh := heap_alloc_last w1 (.cells #[.int .i64 0, .nilFunc, .nilFunc, .int .i64 ((N : Int) - 1)] 78)
  have hb2 : Below w.heap.size w (w1.alloc (.cells #[.int .i64 0, .nilFunc, .nilFunc, .int .i64 ((N : Int) - 1)] 78)) := HW.out.alloc HW.out.size _
  have hge := HW.out.size
  generalize w1.alloc (.cells #[.int .i64 0, .nilFunc, .nilFunc, .int .i64 ((N : Int) - 1)] 78) = W1 at hh hb2 ⊢
  generalize w1.heap.size = G at hh hge ⊢
  have hz : W1.frozen? ⟨G, 2, none⟩ = false := by simp [World.frozen?, hh]
  have hc2 : W1.cell? ⟨G, 2, none⟩ = some .nilFunc := by rw [cell_of_row _ _ _ _ _ _ hh]; rfl
  have HH := Lib.hid hh
  have HB2 := Lib.hid hb2
  have HGE := Lib.hid hge
  clear hh hb2 hge HW q5
  go_wp2_with fail
  have hh : (W1.setCell ⟨G, 2, none⟩ (.func (.func 28) #[] #[])).heap[G]? = some (.cells #[.int .i64 0, .nilFunc, .func (.func 28) #[] #[], .int .i64 ((N : Int) - 1)] 78 (0, 0)) := by
    rw [setCell_row HH.out]
    rfl
  have hb3 : Below w.heap.size w (W1.setCell ⟨G, 2, none⟩ (.func (.func 28) #[] #[])) := HB2.out.setCell (by exact HGE.out) _
  generalize W1.setCell ⟨G, 2, none⟩ (.func (.func 28) #[] #[]) = W2 at hh hb3 ⊢
  have HH2 := Lib.hid hh
  have HB3 := Lib.hid hb3
  clear hh hb3 hz hc2 HH HB2
  go_ret2
  exact ⟨G, rfl, HGE.out, HH2.out, HB3.out⟩

end Go.Proofs.YtnodnbinfhildaaDoor
