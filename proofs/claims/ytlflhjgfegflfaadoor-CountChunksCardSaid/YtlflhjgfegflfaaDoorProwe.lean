/- What the document's row does, of kinds 5, 6. -/
import Derived.Test.YtlflhjgfegflfaaDoorPA
namespace Go.Proofs.YtlflhjgfegflfaaDoor.Pm
open Go.RowKit

set_option maxRecDepth 100000 in
set_option maxHeartbeats 1000000 in
theorem refRow_5 (n : Int) (va vb : Value) (A B : List UInt8) (w : World) (hA : IsBytes w va A) (hB : IsBytes w vb B) (sA : A.length ≤ 2000) :
    Calls Tryd.prog 26 #[parV 5 n va vb] w (Gives w (.bool (fits (kindOf 5) n A B))) := by
  have hb0 : ∀ o, Below w.heap.size w (w.alloc o) := fun o => (Below.refl _ _).alloc (Nat.le_refl _) _
  have HB0 := Lib.hid hb0
  have HA := Lib.hid (show ∀ W, Below w.heap.size w W → IsBytes W va A from fun W hb => hA.below hb)
  clear hb0
  obtain ⟨a, ca, rfl, -, -⟩ := hA
  obtain ⟨b, cb, rfl, -, -⟩ := hB
  unfold parV
  have e : fits (kindOf 5) n A B = (decide (B.length = 0) && ((decide (0 ≤ n) && decide (n ≤ 1)) && ((decide ((1 : Int) ≤ (A.length : Int)) && decide ((A.length : Int) ≤ 16)) && !decide ((10 : UInt8) ∈ A)))) := by
    have e2 : decide ((1 : Int) ≤ (A.length : Int)) = decide (1 ≤ A.length) := by apply decide_eq_decide.2; omega
    have e3 : decide ((A.length : Int) ≤ 16) = decide (A.length ≤ 16) := by apply decide_eq_decide.2; omega
    have e1 : (kindOf 5).rule = 2 := rfl
    rw [fits, e1, mayBe, if_neg (by decide), if_pos rfl, e2, e3]
    simp only [kindOf, kinds, List.getD_cons_succ, List.getD_cons_zero, Bool.decide_and, decide_not]
    generalize decide (B.length = 0) = p
    generalize decide (0 ≤ n) = q
    generalize decide (n ≤ 1) = r
    generalize decide (1 ≤ A.length) = x
    generalize decide (A.length ≤ 16) = y
    generalize decide ((10 : UInt8) ∈ A) = z
    cases p <;> cases q <;> cases r <;> cases x <;> cases y <;> cases z <;> rfl
  rw [e, ← int0]
  clear e
  rcases Bool.eq_false_or_eq_true ((B.length : Int) == 0) with g2 | g2
  · rw [g2, Bool.true_and]
    rcases Bool.eq_false_or_eq_true ((A.length : Int) == 0) with g1 | g1
    all_goals (
      obtain ⟨x, hx⟩ : ∃ x, x = (decide (0 ≤ n) && decide (n ≤ 1)) := ⟨_, rfl⟩
      obtain ⟨y, hy⟩ : ∃ y, y = (decide ((1 : Int) ≤ (A.length : Int)) && decide ((A.length : Int) ≤ 16)) := ⟨_, rfl⟩
      rw [← hx, ← hy]
      have HX := Lib.hid hx
      have HY := Lib.hid hy
      clear hx hy
      cases x)
    all_goals cases y
    all_goals (
      simp only [Bool.true_and, Bool.false_and]
      go_enter Tryd.func26, Tryd.ntmps26
      go_wp2_with (first
        | (go_at_call_of 36 (Value.int .i64 n); refine (within_any _ _ _ _).mono ?_; rw [← HX.out]; rintro e w' ⟨rfl, rfl⟩)
        | (go_at_call 36; refine (within_any _ _ _ _).mono ?_; rw [← HY.out]; rintro e w' ⟨rfl, rfl⟩)
        | (go_at_call 37; refine (has_any _ A 10 _ (HA.out _ (HB0.out _)) sA).mono ?_; rintro e w' ⟨rfl, rfl⟩))
      go_ret
      exact ⟨rfl, HB0.out _⟩)
  · rw [g2, Bool.false_and]
    rcases Bool.eq_false_or_eq_true ((A.length : Int) == 0) with g1 | g1
    all_goals (
      go_enter Tryd.func26, Tryd.ntmps26
      go_wp2_with fail
      go_ret
      exact ⟨rfl, HB0.out _⟩)

set_option maxRecDepth 100000 in
set_option maxHeartbeats 1000000 in
theorem refRow_6 (n : Int) (va vb : Value) (A B : List UInt8) (w : World) (hA : IsBytes w va A) (hB : IsBytes w vb B) (sA : A.length ≤ 2000) :
    Calls Tryd.prog 26 #[parV 6 n va vb] w (Gives w (.bool (fits (kindOf 6) n A B))) := by
  have hb0 : ∀ o, Below w.heap.size w (w.alloc o) := fun o => (Below.refl _ _).alloc (Nat.le_refl _) _
  have HB0 := Lib.hid hb0
  have HA := Lib.hid (show ∀ W, Below w.heap.size w W → IsBytes W va A from fun W hb => hA.below hb)
  clear hb0
  obtain ⟨a, ca, rfl, -, -⟩ := hA
  obtain ⟨b, cb, rfl, -, -⟩ := hB
  unfold parV
  have e : fits (kindOf 6) n A B = ((n == 0) && ((decide ((1 : Int) ≤ (A.length : Int)) && decide ((A.length : Int) ≤ 64)) && (decide A.Nodup && decide (B.length ≤ A.length)))) := by
    have e2 : decide ((1 : Int) ≤ (A.length : Int)) = decide (1 ≤ A.length) := by apply decide_eq_decide.2; omega
    have e3 : decide ((A.length : Int) ≤ 64) = decide (A.length ≤ 64) := by apply decide_eq_decide.2; omega
    have e4 : (n == 0) = (decide (0 ≤ n) && decide (n ≤ 0)) := by
      by_cases h : n = 0
      · subst h; rfl
      · rw [show (n == 0) = false by simpa using h]
        by_cases h1 : 0 ≤ n
        · rw [decide_eq_false (show ¬ n ≤ 0 by omega)]; simp
        · rw [decide_eq_false h1]; simp
    have e1 : (kindOf 6).rule = 3 := rfl
    rw [fits, e1, mayBe, if_neg (by decide), if_neg (by decide), if_pos rfl, e2, e3, e4]
    simp only [kindOf, kinds, List.getD_cons_succ, List.getD_cons_zero, Bool.decide_and]
    generalize decide (B.length ≤ A.length) = p
    generalize decide (0 ≤ n) = q
    generalize decide (n ≤ 0) = r
    generalize decide (1 ≤ A.length) = x
    generalize decide (A.length ≤ 64) = y
    generalize decide A.Nodup = z
    cases p <;> cases q <;> cases r <;> cases x <;> cases y <;> cases z <;> rfl
  rw [e]
  clear e
  obtain ⟨y, hy⟩ : ∃ y, y = (decide ((1 : Int) ≤ (A.length : Int)) && decide ((A.length : Int) ≤ 64)) := ⟨_, rfl⟩
  obtain ⟨z, hz⟩ : ∃ z, z = decide A.Nodup := ⟨_, rfl⟩
  rw [← hy, ← hz]
  have HY := Lib.hid hy
  have HZ := Lib.hid hz
  clear hy hz
  rcases Bool.eq_false_or_eq_true (n == 0) with g0 | g0
  all_goals rw [g0]
  all_goals rcases Bool.eq_false_or_eq_true ((A.length : Int) == 0) with g1 | g1
  all_goals rcases Bool.eq_false_or_eq_true ((B.length : Int) == 0) with g2 | g2
  all_goals cases y
  all_goals cases z
  all_goals (
    simp only [Bool.true_and, Bool.false_and]
    go_enter Tryd.func26, Tryd.ntmps26
    go_wp2_with (first
      | (go_at_call 36; refine (within_any _ _ _ _).mono ?_; rw [← HY.out]; rintro e w' ⟨rfl, rfl⟩)
      | (go_at_call 38; refine (refUnlike_any _ A _ (HA.out _ (HB0.out _)) sA).mono ?_; rw [← HZ.out]; rintro e w' ⟨rfl, hb⟩; have hbox : w'.cell? ⟨w.heap.size, 2, none⟩ = some (.slice a A.length ca) := Below.cell hb (by simp); have hbox3 : w'.cell? ⟨w.heap.size, 3, none⟩ = some (.slice b B.length cb) := Below.cell hb (by simp); have HW := Lib.hid ((HB0.out _).trans (hb.mono (HB0.out _).size)); clear hb))
    go_ret
    first
      | exact ⟨rfl, HB0.out _⟩
      | exact ⟨rfl, HW.out⟩)

end Go.Proofs.YtlflhjgfegflfaaDoor.Pm
