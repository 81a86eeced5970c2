/- What the document's row does, of kinds 1, 2, 3, 4. -/
import Derived.Test.YthedfcdcocimbaaDoorPmaybe
namespace Go.Proofs.YthedfcdcocimbaaDoor.Pm
open Go.RowKit

set_option maxRecDepth 100000 in
set_option maxHeartbeats 1000000 in
theorem refRow_1 (n : Int) (va vb : Value) (A B : List UInt8) (w : World) (hA : IsBytes w va A) (hB : IsBytes w vb B) :
    Calls Tryd.prog 43 #[parV 1 n va vb] w (Gives w (.bool (fits (kindOf 1) n A B))) := by
  obtain ⟨a, ca, rfl, -, -⟩ := hA
  obtain ⟨b, cb, rfl, -, -⟩ := hB
  have hb0 : ∀ o, Below w.heap.size w (w.alloc o) := fun o => (Below.refl _ _).alloc (Nat.le_refl _) _
  have HB0 := Lib.hid hb0
  clear hb0
  unfold parV
  by_cases h1 : A.length = 0
  · have g1 : ((A.length : Int) == 0) = true := by rw [int0]; exact decide_eq_true h1
    by_cases h2 : B.length = 0
    · have g2 : ((B.length : Int) == 0) = true := by rw [int0]; exact decide_eq_true h2
      have hF : fits (kindOf 1) n A B = (decide (0 ≤ n) && decide (n ≤ 15)) := by simp [fits, kindOf, kinds, mayBe, h1, h2]
      rw [hF]
      clear hF h1 h2
      go_enter Tryd.func43, Tryd.ntmps43
      go_wp2_with ((go_at_call 57; refine (within_any _ _ _ _).mono ?_; rintro e w' ⟨rfl, rfl⟩))
      go_ret
      exact ⟨rfl, HB0.out _⟩
    · have g2 : ((B.length : Int) == 0) = false := by rw [int0]; exact decide_eq_false h2
      have hF : fits (kindOf 1) n A B = false := by simp [fits, kindOf, kinds, mayBe, h1, h2]
      rw [hF]
      clear hF h1 h2
      go_enter Tryd.func43, Tryd.ntmps43
      go_wp2_with fail
      go_ret
      exact ⟨rfl, HB0.out _⟩
  · have g1 : ((A.length : Int) == 0) = false := by rw [int0]; exact decide_eq_false h1
    have hF : fits (kindOf 1) n A B = false := by simp [fits, kindOf, kinds, mayBe, h1]
    rw [hF]
    clear hF h1
    go_enter Tryd.func43, Tryd.ntmps43
    go_wp2_with fail
    go_ret
    exact ⟨rfl, HB0.out _⟩

set_option maxRecDepth 100000 in
set_option maxHeartbeats 1000000 in
theorem refRow_2 (n : Int) (va vb : Value) (A B : List UInt8) (w : World) (hA : IsBytes w va A) (hB : IsBytes w vb B) :
    Calls Tryd.prog 43 #[parV 2 n va vb] w (Gives w (.bool (fits (kindOf 2) n A B))) := by
  obtain ⟨a, ca, rfl, -, -⟩ := hA
  obtain ⟨b, cb, rfl, -, -⟩ := hB
  have hb0 : ∀ o, Below w.heap.size w (w.alloc o) := fun o => (Below.refl _ _).alloc (Nat.le_refl _) _
  have HB0 := Lib.hid hb0
  clear hb0
  unfold parV
  by_cases h1 : A.length = 0
  · have g1 : ((A.length : Int) == 0) = true := by rw [int0]; exact decide_eq_true h1
    by_cases h2 : B.length = 0
    · have g2 : ((B.length : Int) == 0) = true := by rw [int0]; exact decide_eq_true h2
      have hF : fits (kindOf 2) n A B = (decide (0 ≤ n) && decide (n ≤ 15)) := by simp [fits, kindOf, kinds, mayBe, h1, h2]
      rw [hF]
      clear hF h1 h2
      go_enter Tryd.func43, Tryd.ntmps43
      go_wp2_with ((go_at_call 57; refine (within_any _ _ _ _).mono ?_; rintro e w' ⟨rfl, rfl⟩))
      go_ret
      exact ⟨rfl, HB0.out _⟩
    · have g2 : ((B.length : Int) == 0) = false := by rw [int0]; exact decide_eq_false h2
      have hF : fits (kindOf 2) n A B = false := by simp [fits, kindOf, kinds, mayBe, h1, h2]
      rw [hF]
      clear hF h1 h2
      go_enter Tryd.func43, Tryd.ntmps43
      go_wp2_with fail
      go_ret
      exact ⟨rfl, HB0.out _⟩
  · have g1 : ((A.length : Int) == 0) = false := by rw [int0]; exact decide_eq_false h1
    have hF : fits (kindOf 2) n A B = false := by simp [fits, kindOf, kinds, mayBe, h1]
    rw [hF]
    clear hF h1
    go_enter Tryd.func43, Tryd.ntmps43
    go_wp2_with fail
    go_ret
    exact ⟨rfl, HB0.out _⟩

set_option maxRecDepth 100000 in
set_option maxHeartbeats 1000000 in
theorem refRow_3 (n : Int) (va vb : Value) (A B : List UInt8) (w : World) (hA : IsBytes w va A) (hB : IsBytes w vb B) :
    Calls Tryd.prog 43 #[parV 3 n va vb] w (Gives w (.bool (fits (kindOf 3) n A B))) := by
  obtain ⟨a, ca, rfl, -, -⟩ := hA
  obtain ⟨b, cb, rfl, -, -⟩ := hB
  have hb0 : ∀ o, Below w.heap.size w (w.alloc o) := fun o => (Below.refl _ _).alloc (Nat.le_refl _) _
  have HB0 := Lib.hid hb0
  clear hb0
  unfold parV
  by_cases h1 : A.length = 0
  · have g1 : ((A.length : Int) == 0) = true := by rw [int0]; exact decide_eq_true h1
    by_cases h2 : B.length = 0
    · have g2 : ((B.length : Int) == 0) = true := by rw [int0]; exact decide_eq_true h2
      have hF : fits (kindOf 3) n A B = (decide (0 ≤ n) && decide (n ≤ 1000000000)) := by simp [fits, kindOf, kinds, mayBe, h1, h2]
      rw [hF]
      clear hF h1 h2
      go_enter Tryd.func43, Tryd.ntmps43
      go_wp2_with ((go_at_call 57; refine (within_any _ _ _ _).mono ?_; rintro e w' ⟨rfl, rfl⟩))
      go_ret
      exact ⟨rfl, HB0.out _⟩
    · have g2 : ((B.length : Int) == 0) = false := by rw [int0]; exact decide_eq_false h2
      have hF : fits (kindOf 3) n A B = false := by simp [fits, kindOf, kinds, mayBe, h1, h2]
      rw [hF]
      clear hF h1 h2
      go_enter Tryd.func43, Tryd.ntmps43
      go_wp2_with fail
      go_ret
      exact ⟨rfl, HB0.out _⟩
  · have g1 : ((A.length : Int) == 0) = false := by rw [int0]; exact decide_eq_false h1
    have hF : fits (kindOf 3) n A B = false := by simp [fits, kindOf, kinds, mayBe, h1]
    rw [hF]
    clear hF h1
    go_enter Tryd.func43, Tryd.ntmps43
    go_wp2_with fail
    go_ret
    exact ⟨rfl, HB0.out _⟩

set_option maxRecDepth 100000 in
set_option maxHeartbeats 1000000 in
theorem refRow_4 (n : Int) (hn : Fits n) (va vb : Value) (A B : List UInt8) (w : World) (hA : IsBytes w va A) (hB : IsBytes w vb B) :
    Calls Tryd.prog 43 #[parV 4 n va vb] w (Gives w (.bool (fits (kindOf 4) n A B))) := by
  obtain ⟨a, ca, rfl, -, -⟩ := hA
  obtain ⟨b, cb, rfl, -, -⟩ := hB
  have hb0 : ∀ o, Below w.heap.size w (w.alloc o) := fun o => (Below.refl _ _).alloc (Nat.le_refl _) _
  have HB0 := Lib.hid hb0
  clear hb0
  unfold parV
  by_cases h1 : A.length = 0
  · have g1 : ((A.length : Int) == 0) = true := by rw [int0]; exact decide_eq_true h1
    by_cases h2 : B.length = 0
    · have g2 : ((B.length : Int) == 0) = true := by rw [int0]; exact decide_eq_true h2
      have hF : fits (kindOf 4) n A B = (decide (0 ≤ n)) := by have := hn.2; simp [fits, kindOf, kinds, mayBe, h1, h2, this]
      rw [hF]
      clear hF h1 h2 hn
      go_enter Tryd.func43, Tryd.ntmps43
      go_wp2_with ((go_at_call 57; refine (within_any _ _ _ _).mono ?_; rintro e w' ⟨rfl, rfl⟩))
      go_ret
      exact ⟨rfl, HB0.out _⟩
    · have g2 : ((B.length : Int) == 0) = false := by rw [int0]; exact decide_eq_false h2
      have hF : fits (kindOf 4) n A B = false := by simp [fits, kindOf, kinds, mayBe, h1, h2]
      rw [hF]
      clear hF h1 h2
      go_enter Tryd.func43, Tryd.ntmps43
      go_wp2_with fail
      go_ret
      exact ⟨rfl, HB0.out _⟩
  · have g1 : ((A.length : Int) == 0) = false := by rw [int0]; exact decide_eq_false h1
    have hF : fits (kindOf 4) n A B = false := by simp [fits, kindOf, kinds, mayBe, h1]
    rw [hF]
    clear hF h1
    go_enter Tryd.func43, Tryd.ntmps43
    go_wp2_with fail
    go_ret
    exact ⟨rfl, HB0.out _⟩

end Go.Proofs.YthedfcdcocimbaaDoor.Pm
