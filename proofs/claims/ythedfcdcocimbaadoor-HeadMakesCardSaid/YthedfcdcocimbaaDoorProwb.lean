/- What the document's row does, of kinds 8, 9, 10, 11. -/
import Derived.Test.YthedfcdcocimbaaDoorPmaybe
namespace Go.Proofs.YthedfcdcocimbaaDoor.Pm
open Go.RowKit

theorem eq0 (n : Int) : (n == 0) = (decide (0 ≤ n) && decide (n ≤ 0)) := by
  by_cases h : n = 0
  · subst h; rfl
  · rw [show (n == 0) = false by simpa using h]
    by_cases h1 : 0 ≤ n
    · rw [decide_eq_false (show ¬ n ≤ 0 by omega)]; simp
    · rw [decide_eq_false h1]; simp

set_option maxRecDepth 100000 in
set_option maxHeartbeats 1000000 in
theorem refRow_8 (n : Int) (va vb : Value) (A B : List UInt8) (w : World) (hA : IsBytes w va A) (hB : IsBytes w vb B) :
    Calls Tryd.prog 43 #[parV 8 n va vb] w (Gives w (.bool (fits (kindOf 8) n A B))) := by
  obtain ⟨a, ca, rfl, -, -⟩ := hA
  obtain ⟨b, cb, rfl, -, -⟩ := hB
  have hb0 : ∀ o, Below w.heap.size w (w.alloc o) := fun o => (Below.refl _ _).alloc (Nat.le_refl _) _
  have HB0 := Lib.hid hb0
  clear hb0
  unfold parV
  by_cases h1 : A.length = 0
  · have g1 : ((A.length : Int) == 0) = true := by rw [int0]; exact decide_eq_true h1
    by_cases h2 : B.length = 0
    · have g2 : ((B.length : Int) == 0) = true := by rw [int0]; exact decide_eq_true h2
      have hF : fits (kindOf 8) n A B = (decide (0 ≤ n) && decide (n ≤ 1)) := by simp [fits, kindOf, kinds, mayBe, h1, h2]
      rw [hF]
      clear hF h1 h2
      go_enter Tryd.func43, Tryd.ntmps43
      go_wp2_with ((go_at_call 57; refine (within_any _ _ _ _).mono ?_; rintro e w' ⟨rfl, rfl⟩))
      go_ret
      exact ⟨rfl, HB0.out _⟩
    · have g2 : ((B.length : Int) == 0) = false := by rw [int0]; exact decide_eq_false h2
      have hF : fits (kindOf 8) n A B = false := by simp [fits, kindOf, kinds, mayBe, h1, h2]
      rw [hF]
      clear hF h1 h2
      go_enter Tryd.func43, Tryd.ntmps43
      go_wp2_with fail
      go_ret
      exact ⟨rfl, HB0.out _⟩
  · have g1 : ((A.length : Int) == 0) = false := by rw [int0]; exact decide_eq_false h1
    have hF : fits (kindOf 8) n A B = false := by simp [fits, kindOf, kinds, mayBe, h1]
    rw [hF]
    clear hF h1
    go_enter Tryd.func43, Tryd.ntmps43
    go_wp2_with fail
    go_ret
    exact ⟨rfl, HB0.out _⟩

set_option maxRecDepth 100000 in
set_option maxHeartbeats 1000000 in
theorem refRow_9 (n : Int) (va vb : Value) (A B : List UInt8) (w : World) (hA : IsBytes w va A) (hB : IsBytes w vb B) :
    Calls Tryd.prog 43 #[parV 9 n va vb] w (Gives w (.bool (fits (kindOf 9) n A B))) := by
  obtain ⟨a, ca, rfl, -, -⟩ := hA
  obtain ⟨b, cb, rfl, -, -⟩ := hB
  have hb0 : ∀ o, Below w.heap.size w (w.alloc o) := fun o => (Below.refl _ _).alloc (Nat.le_refl _) _
  have HB0 := Lib.hid hb0
  clear hb0
  unfold parV
  by_cases h1 : A.length = 0
  · have g1 : ((A.length : Int) == 0) = true := by rw [int0]; exact decide_eq_true h1
    by_cases h2 : B.length = 0
    · have g2 : ((B.length : Int) == 0) = true := by rw [int0]; exact decide_eq_true h2
      have hF : fits (kindOf 9) n A B = (n == 0) := by rw [eq0]; simp [fits, kindOf, kinds, mayBe, h1, h2]
      rw [hF]
      clear hF h1 h2
      go_enter Tryd.func43, Tryd.ntmps43
      go_wp2_with ((go_at_call 57; refine (within_any _ _ _ _).mono ?_; rintro e w' ⟨rfl, rfl⟩))
      go_ret
      exact ⟨rfl, HB0.out _⟩
    · have g2 : ((B.length : Int) == 0) = false := by rw [int0]; exact decide_eq_false h2
      have hF : fits (kindOf 9) n A B = false := by simp [fits, kindOf, kinds, mayBe, h1, h2]
      rw [hF]
      clear hF h1 h2
      go_enter Tryd.func43, Tryd.ntmps43
      go_wp2_with fail
      go_ret
      exact ⟨rfl, HB0.out _⟩
  · have g1 : ((A.length : Int) == 0) = false := by rw [int0]; exact decide_eq_false h1
    have hF : fits (kindOf 9) n A B = false := by simp [fits, kindOf, kinds, mayBe, h1]
    rw [hF]
    clear hF h1
    go_enter Tryd.func43, Tryd.ntmps43
    go_wp2_with fail
    go_ret
    exact ⟨rfl, HB0.out _⟩

set_option maxRecDepth 100000 in
set_option maxHeartbeats 1000000 in
theorem refRow_10 (n : Int) (va vb : Value) (A B : List UInt8) (w : World) (hA : IsBytes w va A) (hB : IsBytes w vb B) :
    Calls Tryd.prog 43 #[parV 10 n va vb] w (Gives w (.bool (fits (kindOf 10) n A B))) := by
  obtain ⟨a, ca, rfl, -, -⟩ := hA
  obtain ⟨b, cb, rfl, -, -⟩ := hB
  have hb0 : ∀ o, Below w.heap.size w (w.alloc o) := fun o => (Below.refl _ _).alloc (Nat.le_refl _) _
  have HB0 := Lib.hid hb0
  clear hb0
  unfold parV
  by_cases h1 : A.length = 0
  · have g1 : ((A.length : Int) == 0) = true := by rw [int0]; exact decide_eq_true h1
    by_cases h2 : B.length = 0
    · have g2 : ((B.length : Int) == 0) = true := by rw [int0]; exact decide_eq_true h2
      have hF : fits (kindOf 10) n A B = (decide (0 ≤ n) && decide (n ≤ 1000000000)) := by simp [fits, kindOf, kinds, mayBe, h1, h2]
      rw [hF]
      clear hF h1 h2
      go_enter Tryd.func43, Tryd.ntmps43
      go_wp2_with ((go_at_call 57; refine (within_any _ _ _ _).mono ?_; rintro e w' ⟨rfl, rfl⟩))
      go_ret
      exact ⟨rfl, HB0.out _⟩
    · have g2 : ((B.length : Int) == 0) = false := by rw [int0]; exact decide_eq_false h2
      have hF : fits (kindOf 10) n A B = false := by simp [fits, kindOf, kinds, mayBe, h1, h2]
      rw [hF]
      clear hF h1 h2
      go_enter Tryd.func43, Tryd.ntmps43
      go_wp2_with fail
      go_ret
      exact ⟨rfl, HB0.out _⟩
  · have g1 : ((A.length : Int) == 0) = false := by rw [int0]; exact decide_eq_false h1
    have hF : fits (kindOf 10) n A B = false := by simp [fits, kindOf, kinds, mayBe, h1]
    rw [hF]
    clear hF h1
    go_enter Tryd.func43, Tryd.ntmps43
    go_wp2_with fail
    go_ret
    exact ⟨rfl, HB0.out _⟩

set_option maxRecDepth 100000 in
set_option maxHeartbeats 1000000 in
theorem refRow_11 (n : Int) (va vb : Value) (A B : List UInt8) (w : World) (hA : IsBytes w va A) (hB : IsBytes w vb B) :
    Calls Tryd.prog 43 #[parV 11 n va vb] w (Gives w (.bool (fits (kindOf 11) n A B))) := by
  obtain ⟨a, ca, rfl, -, -⟩ := hA
  obtain ⟨b, cb, rfl, -, -⟩ := hB
  have hb0 : ∀ o, Below w.heap.size w (w.alloc o) := fun o => (Below.refl _ _).alloc (Nat.le_refl _) _
  have HB0 := Lib.hid hb0
  clear hb0
  unfold parV
  by_cases h1 : A.length = 0
  · have g1 : ((A.length : Int) == 0) = true := by rw [int0]; exact decide_eq_true h1
    by_cases h2 : B.length = 0
    · have g2 : ((B.length : Int) == 0) = true := by rw [int0]; exact decide_eq_true h2
      have hF : fits (kindOf 11) n A B = (decide (0 ≤ n) && decide (n ≤ 1)) := by simp [fits, kindOf, kinds, mayBe, h1, h2]
      rw [hF]
      clear hF h1 h2
      go_enter Tryd.func43, Tryd.ntmps43
      go_wp2_with ((go_at_call 57; refine (within_any _ _ _ _).mono ?_; rintro e w' ⟨rfl, rfl⟩))
      go_ret
      exact ⟨rfl, HB0.out _⟩
    · have g2 : ((B.length : Int) == 0) = false := by rw [int0]; exact decide_eq_false h2
      have hF : fits (kindOf 11) n A B = false := by simp [fits, kindOf, kinds, mayBe, h1, h2]
      rw [hF]
      clear hF h1 h2
      go_enter Tryd.func43, Tryd.ntmps43
      go_wp2_with fail
      go_ret
      exact ⟨rfl, HB0.out _⟩
  · have g1 : ((A.length : Int) == 0) = false := by rw [int0]; exact decide_eq_false h1
    have hF : fits (kindOf 11) n A B = false := by simp [fits, kindOf, kinds, mayBe, h1]
    rw [hF]
    clear hF h1
    go_enter Tryd.func43, Tryd.ntmps43
    go_wp2_with fail
    go_ret
    exact ⟨rfl, HB0.out _⟩

end Go.Proofs.YthedfcdcocimbaaDoor.Pm
