/- What uniq.New does. -/
import Derived.Test.YtmmhpjhmobhdiaaDoorUniq
import Derived.Test.YtmmhpjhmobhdiaaDoorIcheck
namespace Go.Proofs.YtmmhpjhmobhdiaaDoor
open Go.RowKit

/-- A machine that is made, with these functions. -/
def uniqRow0 (x y : Value) : Array Value := rowA [.int .i64 0, .nilFunc] false [] [x, y, .string ByteArray.empty, .int .i64 0]
theorem Tryd.built_uniq : Tryd.prog.built 85 [] = some (uniqRow0 .nilFunc .nilFunc) := by kernel_rfl
def uniqFn (g : Nat) (f : FuncId) : Value := .func (.func f) #[.pointer (some ⟨g, 0, none⟩)] #[]
theorem uniqRow0_put (x y x' y' : Value) : ((uniqRow0 x y).setIfInBounds 68 x').setIfInBounds 69 y' = uniqRow0 x' y' := rfl
theorem uniqRow0_c68 (x y : Value) : (uniqRow0 x y)[68]? = some x := rfl
theorem uniqRow0_c69 (x y : Value) : (uniqRow0 x y)[69]? = some y := rfl

/-- The call answers a machine of its own. -/
def UniqMade (w : World) (c : Bool) (e : Ending) (w' : World) : Prop :=
  ∃ g, e = .returned (.tuple #[.iface 73 (.pointer (some ⟨g, 0, none⟩)), .int .i64 0]) ∧ w.heap.size ≤ g ∧ URep c g uniqS (fun _ => False) w' ∧ Below w.heap.size w w'

set_option maxRecDepth 100000 in
set_option maxHeartbeats 1000000 in
theorem uniqNew_no (k n : Int) (va vb : Value) (A B : List UInt8) (w : World) (hT : Pm.Tab w) (hA : Pm.IsBytes w va A) (hB : Pm.IsBytes w vb B) (hE : takeE 8 k n A B ≠ 0) :
    Calls Tryd.prog 14 #[Pm.parV k n va vb] w (Pm.Gives w (.tuple #[.nilIface, .int .i64 (takeE 8 k n A B)])) := by
  have HT := Lib.hid (show ∀ o1, Pm.Tab (w.alloc o1) from fun o1 => hT.below ((Below.refl _ _).alloc (Nat.le_refl _) _))
  have HA := Lib.hid (show ∀ o1, Pm.IsBytes (w.alloc o1) va A from fun o1 => hA.below ((Below.refl _ _).alloc (Nat.le_refl _) _))
  have HB := Lib.hid (show ∀ o1, Pm.IsBytes (w.alloc o1) vb B from fun o1 => hB.below ((Below.refl _ _).alloc (Nat.le_refl _) _))
  have HB0 := Lib.hid (show ∀ o1, Below w.heap.size w (w.alloc o1) from fun o1 => (Below.refl _ _).alloc (Nat.le_refl _) _)
  obtain ⟨E, hE2⟩ : ∃ E : Int, E = takeE 8 k n A B := ⟨_, rfl⟩
  have HE := Lib.hid hE2
  rw [← hE2] at hE ⊢
  have g1 : (E != 0) = true := by simpa using hE
  clear hT hA hB hE hE2
  unfold Pm.parV
  go_enter Tryd.func14, Tryd.ntmps14
  go_wp2_with fail
  refine (intakeCheck_any 8 k n va vb A B _ (HT.out _) (HA.out _) (HB.out _)).mono ?_
  rintro e w1 ⟨rfl, hb⟩
  rw [← HE.out]
  have HW := Lib.hid ((HB0.out _).trans (hb.mono (HB0.out _).size))
  clear hb
  go_wp2_with fail
  go_ret2
  exact ⟨rfl, HW.out⟩

theorem uniq_put2 {W : World} {G : Nat} {x y x' y' : Value} (h : W.heap[G]? = some (.cells (uniqRow0 x y) 85 (0, 0))) : ((W.setCell ⟨G, 68, none⟩ x').setCell ⟨G, 69, none⟩ y').heap[G]? = some (.cells (uniqRow0 x' y') 85 (0, 0)) := by
  rw [setCell_row (setCell_row h _ _), uniqRow0_put]
theorem uniq_facts {W : World} {G : Nat} {x y : Value} (h : W.heap[G]? = some (.cells (uniqRow0 x y) 85 (0, 0))) : W.cell? ⟨G, 68, none⟩ = some x ∧ W.cell? ⟨G, 69, none⟩ = some y ∧ W.frozen? ⟨G, 68, none⟩ = false ∧ W.frozen? ⟨G, 69, none⟩ = false := by
  refine ⟨?_, ?_, by simp [World.frozen?, h], by simp [World.frozen?, h]⟩
  · rw [cell_of_row _ _ _ _ _ _ h, uniqRow0_c68]
  · rw [cell_of_row _ _ _ _ _ _ h, uniqRow0_c69]
theorem uniq_made {c : Bool} {W : World} {G : Nat} (h : W.heap[G]? = some (.cells (uniqRow0 (uniqFn G (uniqM c).F) (uniqFn G (uniqLast c))) 85 (0, 0))) (hm : TenAt W) (hg : uniqBase ≤ G) : URep c G uniqS (fun _ => False) W :=
  ⟨⟨uniq_of (by rw [h]; cases c <;> rfl) (by simp [uniqS]) (fun h => by cases h) hm hg (fun _ h => h), fun _ => ⟨rfl, uOk_none⟩⟩, uOk_none⟩

set_option maxRecDepth 100000 in
set_option maxHeartbeats 2000000 in
theorem uniqNew_yes (k : Int) (N : Nat) (va vb : Value) (A B : List UInt8) (w : World) (hT : TenTab w) (hA : Pm.IsBytes w va A) (hB : Pm.IsBytes w vb B) (hE : takeE 8 k N A B = 0) :
    Calls Tryd.prog 14 #[Pm.parV k N va vb] w (UniqMade w (decide (N = 1))) := by
  have HT := Lib.hid (show ∀ o1, Pm.Tab (w.alloc o1) from fun o1 => hT.1.below ((Below.refl _ _).alloc (Nat.le_refl _) _))
  have HM := Lib.hid (show ∀ W, Below w.heap.size w W → TenAt W from fun W hb => (hT.below hb).2)
  have HA := Lib.hid (show ∀ o1, Pm.IsBytes (w.alloc o1) va A from fun o1 => hA.below ((Below.refl _ _).alloc (Nat.le_refl _) _))
  have HB := Lib.hid (show ∀ o1, Pm.IsBytes (w.alloc o1) vb B from fun o1 => hB.below ((Below.refl _ _).alloc (Nat.le_refl _) _))
  have HB0 := Lib.hid (show ∀ o1, Below w.heap.size w (w.alloc o1) from fun o1 => (Below.refl _ _).alloc (Nat.le_refl _) _)
  have HE := Lib.hid hE
  have hlt := hT.2.lt
  clear hT hA hB hE
  unfold Pm.parV
  go_enter Tryd.func14, Tryd.ntmps14
  go_wp2_with fail
  refine (intakeCheck_any 8 k N va vb A B _ (HT.out _) (HA.out _) (HB.out _)).mono ?_
  rintro e w1 ⟨rfl, hb⟩
  rw [HE.out]
  have q0 : w1.cell? ⟨w.heap.size, 1, none⟩ = some (.int .i64 N) := Pm.Below.cell hb (by simp)
  have hbw := (HB0.out _).trans (hb.mono (HB0.out _).size)
  have HW := Lib.hid hbw
  have hs1 := hb.size
  rw [World.size_alloc] at hs1
  clear hb hbw
  go_upto_region 5 with (with_reducible refine wpList_build0 rfl 85 rfl (uniqRow0 .nilFunc .nilFunc) Tryd.built_uniq ?_)
  have hh := heap_alloc_last w1 (.cells (uniqRow0 .nilFunc .nilFunc) 85)
  have hb2 : Below w.heap.size w (w1.alloc (.cells (uniqRow0 .nilFunc .nilFunc) 85)) := HW.out.alloc HW.out.size _
  have q1 : (w1.alloc (.cells (uniqRow0 .nilFunc .nilFunc) 85)).cell? ⟨w.heap.size, 1, none⟩ = some (.int .i64 N) := Pm.Below.cell ((Below.refl _ _).alloc (Nat.le_refl _) _) q0
  generalize w1.alloc (.cells (uniqRow0 .nilFunc .nilFunc) 85) = W1 at hh hb2 q1 ⊢
  generalize w1.heap.size = G at hh hs1 ⊢
  obtain ⟨c68, c69, z68, z69⟩ := uniq_facts hh
  have HH := Lib.hid hh
  have HB2 := Lib.hid hb2
  clear hh hb2 q0 HW
  go_upto_region 6 with fail
  have hh := uniq_put2 (x' := uniqFn G 29) (y' := uniqFn G 30) HH.out
  have hb2 : Below w.heap.size w ((W1.setCell ⟨G, 68, none⟩ (uniqFn G 29)).setCell ⟨G, 69, none⟩ (uniqFn G 30)) := (HB2.out.setCell (by show w.heap.size ≤ G; omega) _).setCell (by show w.heap.size ≤ G; omega) _
  have q2 : ((W1.setCell ⟨G, 68, none⟩ (uniqFn G 29)).setCell ⟨G, 69, none⟩ (uniqFn G 30)).cell? ⟨w.heap.size, 1, none⟩ = some (.int .i64 N) :=
    (Frame.cell _ ⟨G, 69, none⟩ _).cell? ((Frame.cell W1 ⟨G, 68, none⟩ _).cell? q1 (fun e => by have e' : w.heap.size = G := e; omega)) (fun e => by have e' : w.heap.size = G := e; omega)
  unfold uniqFn at hh hb2 q2
  clear q1 c68 c69 z68 z69 HH HB2
  generalize (W1.setCell ⟨G, 68, none⟩ (.func (.func 29) #[.pointer (some ⟨G, 0, none⟩)] #[])).setCell ⟨G, 69, none⟩ (.func (.func 30) #[.pointer (some ⟨G, 0, none⟩)] #[]) = W2 at hh hb2 q2 ⊢
  obtain ⟨c68, c69, z68, z69⟩ := uniq_facts hh
  have HH := Lib.hid hh
  have HB2 := Lib.hid hb2
  have HM2 := Lib.hid (HM.out _ hb2)
  clear hh hb2
  by_cases h1 : N = 1
  · have g1 : ((N : Int) == 1) = true := by rw [h1]; rfl
    have HN := Lib.hid h1
    clear h1
    go_wp2_with fail
    go_ret2
    have hh := uniq_put2 (x' := uniqFn G 31) (y' := uniqFn G 32) HH.out
    have hb3 := (HB2.out.setCell (p := ⟨G, 68, none⟩) (by show w.heap.size ≤ G; omega) (uniqFn G 31)).setCell (p := ⟨G, 69, none⟩) (by show w.heap.size ≤ G; omega) (uniqFn G 32)
    rw [decide_eq_true HN.out]
    exact ⟨G, rfl, by omega, uniq_made (c := true) hh (HM.out _ hb3) (by show 1 + 1 ≤ G; omega), hb3⟩
  · have g1 : ((N : Int) == 1) = false := by simp; omega
    have HN := Lib.hid h1
    clear h1
    go_wp2_with fail
    go_ret2
    rw [decide_eq_false HN.out]
    exact ⟨G, rfl, by omega, uniq_made (c := false) HH.out HM2.out (by show 1 + 1 ≤ G; omega), HB2.out⟩

end Go.Proofs.YtmmhpjhmobhdiaaDoor
