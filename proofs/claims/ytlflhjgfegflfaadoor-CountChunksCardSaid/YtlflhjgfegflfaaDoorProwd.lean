/- What the document's row does, of kinds 7, 13, 14. -/
import Derived.Test.YtlflhjgfegflfaaDoorPA
namespace Go.Proofs.YtlflhjgfegflfaaDoor.Pm
open Go.RowKit

set_option maxRecDepth 100000 in
set_option maxHeartbeats 1000000 in
theorem refRow_7 (n : Int) (va vb : Value) (A B : List UInt8) (w : World) (hA : IsBytes w va A) (hB : IsBytes w vb B) :
    Calls Tryd.prog 26 #[parV 7 n va vb] w (Gives w (.bool (fits (kindOf 7) n A B))) := by
  have hb0 : ∀ o, Below w.heap.size w (w.alloc o) := fun o => (Below.refl _ _).alloc (Nat.le_refl _) _
  have HB0 := Lib.hid hb0
  have HA := Lib.hid (show ∀ W, Below w.heap.size w W → IsBytes W va A from fun W hb => hA.below hb)
  clear hb0
  obtain ⟨a, ca, rfl, -, -⟩ := hA
  obtain ⟨b, cb, rfl, -, -⟩ := hB
  unfold parV
  have e : fits (kindOf 7) n A B = (decide (B.length = 0) && (oneB A && (decide (1 ≤ n) && decide (n ≤ 65535)))) := by
    have e1 : (kindOf 7).rule = 1 := rfl
    rw [fits, e1, mayBe1]
    simp only [kindOf, kinds, List.getD_cons_succ, List.getD_cons_zero]
    generalize oneB A = o; generalize decide (B.length = 0) = p; generalize decide (1 ≤ n) = q; generalize decide (n ≤ 65535) = r; cases o <;> cases p <;> cases q <;> cases r <;> rfl
  rw [e, ← int0]
  clear e
  rcases Bool.eq_false_or_eq_true ((B.length : Int) == 0) with g2 | g2
  · rw [g2, Bool.true_and]
    obtain ⟨o, ho⟩ : ∃ o, o = oneB A := ⟨_, rfl⟩
    rw [← ho]
    have HO := Lib.hid ho
    clear ho
    rcases Bool.eq_false_or_eq_true ((A.length : Int) == 0) with g1 | g1
    all_goals cases o
    all_goals (
      (first | rw [Bool.true_and] | rw [Bool.false_and])
      go_enter Tryd.func26, Tryd.ntmps26
      go_wp2_with (first
        | (go_at_call 39; refine (one_any _ A _ (HA.out _ (HB0.out _))).mono ?_; rw [← HO.out]; rintro e w' ⟨rfl, rfl⟩)
        | (go_at_call 36; refine (within_any _ _ _ _).mono ?_; rintro e w' ⟨rfl, rfl⟩))
      go_ret
      exact ⟨rfl, HB0.out _⟩)
  · rw [g2, Bool.false_and]
    rcases Bool.eq_false_or_eq_true ((A.length : Int) == 0) with g1 | g1
    all_goals (
      go_enter Tryd.func26, Tryd.ntmps26
      go_wp2_with fail
      go_ret
      exact ⟨rfl, HB0.out _⟩)

set_option maxRecDepth 100000 in
set_option maxHeartbeats 1000000 in
theorem refRow_13 (n : Int) (va vb : Value) (A B : List UInt8) (w : World) (hA : IsBytes w va A) (hB : IsBytes w vb B) :
    Calls Tryd.prog 26 #[parV 13 n va vb] w (Gives w (.bool (fits (kindOf 13) n A B))) := by
  have hb0 : ∀ o, Below w.heap.size w (w.alloc o) := fun o => (Below.refl _ _).alloc (Nat.le_refl _) _
  have HB0 := Lib.hid hb0
  have HA := Lib.hid (show ∀ W, Below w.heap.size w W → IsBytes W va A from fun W hb => hA.below hb)
  clear hb0
  obtain ⟨a, ca, rfl, -, -⟩ := hA
  obtain ⟨b, cb, rfl, -, -⟩ := hB
  unfold parV
  have e : fits (kindOf 13) n A B = (decide (B.length = 0) && (oneB A && (decide (1 ≤ n) && decide (n ≤ 4)))) := by
    have e1 : (kindOf 13).rule = 1 := rfl
    rw [fits, e1, mayBe1]
    simp only [kindOf, kinds, List.getD_cons_succ, List.getD_cons_zero]
    generalize oneB A = o; generalize decide (B.length = 0) = p; generalize decide (1 ≤ n) = q; generalize decide (n ≤ 4) = r; cases o <;> cases p <;> cases q <;> cases r <;> rfl
  rw [e, ← int0]
  clear e
  rcases Bool.eq_false_or_eq_true ((B.length : Int) == 0) with g2 | g2
  · rw [g2, Bool.true_and]
    obtain ⟨o, ho⟩ : ∃ o, o = oneB A := ⟨_, rfl⟩
    rw [← ho]
    have HO := Lib.hid ho
    clear ho
    rcases Bool.eq_false_or_eq_true ((A.length : Int) == 0) with g1 | g1
    all_goals cases o
    all_goals (
      (first | rw [Bool.true_and] | rw [Bool.false_and])
      go_enter Tryd.func26, Tryd.ntmps26
      go_wp2_with (first
        | (go_at_call 39; refine (one_any _ A _ (HA.out _ (HB0.out _))).mono ?_; rw [← HO.out]; rintro e w' ⟨rfl, rfl⟩)
        | (go_at_call 36; refine (within_any _ _ _ _).mono ?_; rintro e w' ⟨rfl, rfl⟩))
      go_ret
      exact ⟨rfl, HB0.out _⟩)
  · rw [g2, Bool.false_and]
    rcases Bool.eq_false_or_eq_true ((A.length : Int) == 0) with g1 | g1
    all_goals (
      go_enter Tryd.func26, Tryd.ntmps26
      go_wp2_with fail
      go_ret
      exact ⟨rfl, HB0.out _⟩)

set_option maxRecDepth 100000 in
set_option maxHeartbeats 1000000 in
theorem refRow_14 (n : Int) (hn : Fits n) (va vb : Value) (A B : List UInt8) (w : World) (hA : IsBytes w va A) (hB : IsBytes w vb B) :
    Calls Tryd.prog 26 #[parV 14 n va vb] w (Gives w (.bool (fits (kindOf 14) n A B))) := by
  have hb0 : ∀ o, Below w.heap.size w (w.alloc o) := fun o => (Below.refl _ _).alloc (Nat.le_refl _) _
  have HB0 := Lib.hid hb0
  have HA := Lib.hid (show ∀ W, Below w.heap.size w W → IsBytes W va A from fun W hb => hA.below hb)
  clear hb0
  obtain ⟨a, ca, rfl, -, -⟩ := hA
  obtain ⟨b, cb, rfl, -, -⟩ := hB
  unfold parV
  have e : fits (kindOf 14) n A B = (decide (B.length = 0) && (oneB A && (decide (1 ≤ n)))) := by
    have e1 : (kindOf 14).rule = 1 := rfl
    rw [fits, e1, mayBe1]
    simp only [kindOf, kinds, List.getD_cons_succ, List.getD_cons_zero]
    rw [decide_eq_true hn.2]; generalize oneB A = o; generalize decide (B.length = 0) = p; generalize decide (1 ≤ n) = q; cases o <;> cases p <;> cases q <;> rfl
  rw [e, ← int0]
  clear e hn
  rcases Bool.eq_false_or_eq_true ((B.length : Int) == 0) with g2 | g2
  · rw [g2, Bool.true_and]
    obtain ⟨o, ho⟩ : ∃ o, o = oneB A := ⟨_, rfl⟩
    rw [← ho]
    have HO := Lib.hid ho
    clear ho
    rcases Bool.eq_false_or_eq_true ((A.length : Int) == 0) with g1 | g1
    all_goals cases o
    all_goals (
      (first | rw [Bool.true_and] | rw [Bool.false_and])
      go_enter Tryd.func26, Tryd.ntmps26
      go_wp2_with (first
        | (go_at_call 39; refine (one_any _ A _ (HA.out _ (HB0.out _))).mono ?_; rw [← HO.out]; rintro e w' ⟨rfl, rfl⟩)
        | (go_at_call 36; refine (within_any _ _ _ _).mono ?_; rintro e w' ⟨rfl, rfl⟩))
      go_ret
      exact ⟨rfl, HB0.out _⟩)
  · rw [g2, Bool.false_and]
    rcases Bool.eq_false_or_eq_true ((A.length : Int) == 0) with g1 | g1
    all_goals (
      go_enter Tryd.func26, Tryd.ntmps26
      go_wp2_with fail
      go_ret
      exact ⟨rfl, HB0.out _⟩)

end Go.Proofs.YtlflhjgfegflfaaDoor.Pm
