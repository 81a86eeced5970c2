/- What the document's row does, of kinds 1, 2, 3, 4. -/
import Derived.Test.YtlflhjgfegflfaaDoorPA
namespace Go.Proofs.YtlflhjgfegflfaaDoor.Pm
open Go.RowKit

set_option maxRecDepth 100000 in
set_option maxHeartbeats 1000000 in
theorem refRow_1 (n : Int) (va vb : Value) (A B : List UInt8) (w : World) (hA : IsBytes w va A) (hB : IsBytes w vb B) :
    Calls Tryd.prog 26 #[parV 1 n va vb] w (Gives w (.bool (fits (kindOf 1) n A B))) := by
  obtain ⟨a, ca, rfl, -, -⟩ := hA
  obtain ⟨b, cb, rfl, -, -⟩ := hB
  have hb0 : ∀ o, Below w.heap.size w (w.alloc o) := fun o => (Below.refl _ _).alloc (Nat.le_refl _) _
  have HB0 := Lib.hid hb0
  clear hb0
  unfold parV
  by_cases h1 : A.length = 0
  · have g1 : ((A.length : Int) == 0) = true := by rw [int0]; exact decide_eq_true h1
    by_cases h2 : B.length = 0
    · have g2 : ((B.length : Int) == 0) = true := by rw [int0]; exact decide_eq_true h2
      have hF : fits (kindOf 1) n A B = (decide (0 ≤ n) && decide (n ≤ 15)) := by simp [fits, kindOf, kinds, mayBe, h1, h2]
      rw [hF]
      clear hF h1 h2
      go_enter Tryd.func26, Tryd.ntmps26
      go_wp2_with ((go_at_call 36; refine (within_any _ _ _ _).mono ?_; rintro e w' ⟨rfl, rfl⟩))
      go_ret
      exact ⟨rfl, HB0.out _⟩
    · have g2 : ((B.length : Int) == 0) = false := by rw [int0]; exact decide_eq_false h2
      have hF : fits (kindOf 1) n A B = false := by simp [fits, kindOf, kinds, mayBe, h1, h2]
      rw [hF]
      clear hF h1 h2
      go_enter Tryd.func26, Tryd.ntmps26
      go_wp2_with fail
      go_ret
      exact ⟨rfl, HB0.out _⟩
  · have g1 : ((A.length : Int) == 0) = false := by rw [int0]; exact decide_eq_false h1
    have hF : fits (kindOf 1) n A B = false := by simp [fits, kindOf, kinds, mayBe, h1]
    rw [hF]
    clear hF h1
    go_enter Tryd.func26, Tryd.ntmps26
    go_wp2_with fail
    go_ret
    exact ⟨rfl, HB0.out _⟩

set_option maxRecDepth 100000 in
set_option maxHeartbeats 1000000 in
theorem refRow_2 (n : Int) (va vb : Value) (A B : List UInt8) (w : World) (hA : IsBytes w va A) (hB : IsBytes w vb B) :
    Calls Tryd.prog 26 #[parV 2 n va vb] w (Gives w (.bool (fits (kindOf 2) n A B))) := by
  obtain ⟨a, ca, rfl, -, -⟩ := hA
  obtain ⟨b, cb, rfl, -, -⟩ := hB
  have hb0 : ∀ o, Below w.heap.size w (w.alloc o) := fun o => (Below.refl _ _).alloc (Nat.le_refl _) _
  have HB0 := Lib.hid hb0
  clear hb0
  unfold parV
  by_cases h1 : A.length = 0
  · have g1 : ((A.length : Int) == 0) = true := by rw [int0]; exact decide_eq_true h1
    by_cases h2 : B.length = 0
    · have g2 : ((B.length : Int) == 0) = true := by rw [int0]; exact decide_eq_true h2
      have hF : fits (kindOf 2) n A B = (decide (0 ≤ n) && decide (n ≤ 15)) := by simp [fits, kindOf, kinds, mayBe, h1, h2]
      rw [hF]
      clear hF h1 h2
      go_enter Tryd.func26, Tryd.ntmps26
      go_wp2_with ((go_at_call 36; refine (within_any _ _ _ _).mono ?_; rintro e w' ⟨rfl, rfl⟩))
      go_ret
      exact ⟨rfl, HB0.out _⟩
    · have g2 : ((B.length : Int) == 0) = false := by rw [int0]; exact decide_eq_false h2
      have hF : fits (kindOf 2) n A B = false := by simp [fits, kindOf, kinds, mayBe, h1, h2]
      rw [hF]
      clear hF h1 h2
      go_enter Tryd.func26, Tryd.ntmps26
      go_wp2_with fail
      go_ret
      exact ⟨rfl, HB0.out _⟩
  · have g1 : ((A.length : Int) == 0) = false := by rw [int0]; exact decide_eq_false h1
    have hF : fits (kindOf 2) n A B = false := by simp [fits, kindOf, kinds, mayBe, h1]
    rw [hF]
    clear hF h1
    go_enter Tryd.func26, Tryd.ntmps26
    go_wp2_with fail
    go_ret
    exact ⟨rfl, HB0.out _⟩

set_option maxRecDepth 100000 in
set_option maxHeartbeats 1000000 in
theorem refRow_3 (n : Int) (va vb : Value) (A B : List UInt8) (w : World) (hA : IsBytes w va A) (hB : IsBytes w vb B) :
    Calls Tryd.prog 26 #[parV 3 n va vb] w (Gives w (.bool (fits (kindOf 3) n A B))) := by
  obtain ⟨a, ca, rfl, -, -⟩ := hA
  obtain ⟨b, cb, rfl, -, -⟩ := hB
  have hb0 : ∀ o, Below w.heap.size w (w.alloc o) := fun o => (Below.refl _ _).alloc (Nat.le_refl _) _
  have HB0 := Lib.hid hb0
  clear hb0
  unfold parV
  by_cases h1 : A.length = 0
  · have g1 : ((A.length : Int) == 0) = true := by rw [int0]; exact decide_eq_true h1
    by_cases h2 : B.length = 0
    · have g2 : ((B.length : Int) == 0) = true := by rw [int0]; exact decide_eq_true h2
      have hF : fits (kindOf 3) n A B = (decide (0 ≤ n) && decide (n ≤ 1000000000)) := by simp [fits, kindOf, kinds, mayBe, h1, h2]
      rw [hF]
      clear hF h1 h2
      go_enter Tryd.func26, Tryd.ntmps26
      go_wp2_with ((go_at_call 36; refine (within_any _ _ _ _).mono ?_; rintro e w' ⟨rfl, rfl⟩))
      go_ret
      exact ⟨rfl, HB0.out _⟩
    · have g2 : ((B.length : Int) == 0) = false := by rw [int0]; exact decide_eq_false h2
      have hF : fits (kindOf 3) n A B = false := by simp [fits, kindOf, kinds, mayBe, h1, h2]
      rw [hF]
      clear hF h1 h2
      go_enter Tryd.func26, Tryd.ntmps26
      go_wp2_with fail
      go_ret
      exact ⟨rfl, HB0.out _⟩
  · have g1 : ((A.length : Int) == 0) = false := by rw [int0]; exact decide_eq_false h1
    have hF : fits (kindOf 3) n A B = false := by simp [fits, kindOf, kinds, mayBe, h1]
    rw [hF]
    clear hF h1
    go_enter Tryd.func26, Tryd.ntmps26
    go_wp2_with fail
    go_ret
    exact ⟨rfl, HB0.out _⟩

set_option maxRecDepth 100000 in
set_option maxHeartbeats 1000000 in
theorem refRow_4 (n : Int) (hn : Fits n) (va vb : Value) (A B : List UInt8) (w : World) (hA : IsBytes w va A) (hB : IsBytes w vb B) :
    Calls Tryd.prog 26 #[parV 4 n va vb] w (Gives w (.bool (fits (kindOf 4) n A B))) := by
  obtain ⟨a, ca, rfl, -, -⟩ := hA
  obtain ⟨b, cb, rfl, -, -⟩ := hB
  have hb0 : ∀ o, Below w.heap.size w (w.alloc o) := fun o => (Below.refl _ _).alloc (Nat.le_refl _) _
  have HB0 := Lib.hid hb0
  clear hb0
  unfold parV
  by_cases h1 : A.length = 0
  · have g1 : ((A.length : Int) == 0) = true := by rw [int0]; exact decide_eq_true h1
    by_cases h2 : B.length = 0
    · have g2 : ((B.length : Int) == 0) = true := by rw [int0]; exact decide_eq_true h2
      have hF : fits (kindOf 4) n A B = (decide (0 ≤ n)) := by have := hn.2; simp [fits, kindOf, kinds, mayBe, h1, h2, this]
      rw [hF]
      clear hF h1 h2 hn
      go_enter Tryd.func26, Tryd.ntmps26
      go_wp2_with ((go_at_call 36; refine (within_any _ _ _ _).mono ?_; rintro e w' ⟨rfl, rfl⟩))
      go_ret
      exact ⟨rfl, HB0.out _⟩
    · have g2 : ((B.length : Int) == 0) = false := by rw [int0]; exact decide_eq_false h2
      have hF : fits (kindOf 4) n A B = false := by simp [fits, kindOf, kinds, mayBe, h1, h2]
      rw [hF]
      clear hF h1 h2
      go_enter Tryd.func26, Tryd.ntmps26
      go_wp2_with fail
      go_ret
      exact ⟨rfl, HB0.out _⟩
  · have g1 : ((A.length : Int) == 0) = false := by rw [int0]; exact decide_eq_false h1
    have hF : fits (kindOf 4) n A B = false := by simp [fits, kindOf, kinds, mayBe, h1]
    rw [hF]
    clear hF h1
    go_enter Tryd.func26, Tryd.ntmps26
    go_wp2_with fail
    go_ret
    exact ⟨rfl, HB0.out _⟩

end Go.Proofs.YtlflhjgfegflfaaDoor.Pm

namespace Go.Proofs.YtlflhjgfegflfaaDoor.Pm
open Go.RowKit

theorem eq0 (n : Int) : (n == 0) = (decide (0 ≤ n) && decide (n ≤ 0)) := by
  by_cases h : n = 0
  · subst h; rfl
  · rw [show (n == 0) = false by simpa using h]
    by_cases h1 : 0 ≤ n
    · rw [decide_eq_false (show ¬ n ≤ 0 by omega)]; simp
    · rw [decide_eq_false h1]; simp

set_option maxRecDepth 100000 in
set_option maxHeartbeats 1000000 in
theorem refRow_8 (n : Int) (va vb : Value) (A B : List UInt8) (w : World) (hA : IsBytes w va A) (hB : IsBytes w vb B) :
    Calls Tryd.prog 26 #[parV 8 n va vb] w (Gives w (.bool (fits (kindOf 8) n A B))) := by
  obtain ⟨a, ca, rfl, -, -⟩ := hA
  obtain ⟨b, cb, rfl, -, -⟩ := hB
  have hb0 : ∀ o, Below w.heap.size w (w.alloc o) := fun o => (Below.refl _ _).alloc (Nat.le_refl _) _
  have HB0 := Lib.hid hb0
  clear hb0
  unfold parV
  by_cases h1 : A.length = 0
  · have g1 : ((A.length : Int) == 0) = true := by rw [int0]; exact decide_eq_true h1
    by_cases h2 : B.length = 0
    · have g2 : ((B.length : Int) == 0) = true := by rw [int0]; exact decide_eq_true h2
      have hF : fits (kindOf 8) n A B = (decide (0 ≤ n) && decide (n ≤ 1)) := by simp [fits, kindOf, kinds, mayBe, h1, h2]
      rw [hF]
      clear hF h1 h2
      go_enter Tryd.func26, Tryd.ntmps26
      go_wp2_with ((go_at_call 36; refine (within_any _ _ _ _).mono ?_; rintro e w' ⟨rfl, rfl⟩))
      go_ret
      exact ⟨rfl, HB0.out _⟩
    · have g2 : ((B.length : Int) == 0) = false := by rw [int0]; exact decide_eq_false h2
      have hF : fits (kindOf 8) n A B = false := by simp [fits, kindOf, kinds, mayBe, h1, h2]
      rw [hF]
      clear hF h1 h2
      go_enter Tryd.func26, Tryd.ntmps26
      go_wp2_with fail
      go_ret
      exact ⟨rfl, HB0.out _⟩
  · have g1 : ((A.length : Int) == 0) = false := by rw [int0]; exact decide_eq_false h1
    have hF : fits (kindOf 8) n A B = false := by simp [fits, kindOf, kinds, mayBe, h1]
    rw [hF]
    clear hF h1
    go_enter Tryd.func26, Tryd.ntmps26
    go_wp2_with fail
    go_ret
    exact ⟨rfl, HB0.out _⟩

set_option maxRecDepth 100000 in
set_option maxHeartbeats 1000000 in
theorem refRow_9 (n : Int) (va vb : Value) (A B : List UInt8) (w : World) (hA : IsBytes w va A) (hB : IsBytes w vb B) :
    Calls Tryd.prog 26 #[parV 9 n va vb] w (Gives w (.bool (fits (kindOf 9) n A B))) := by
  obtain ⟨a, ca, rfl, -, -⟩ := hA
  obtain ⟨b, cb, rfl, -, -⟩ := hB
  have hb0 : ∀ o, Below w.heap.size w (w.alloc o) := fun o => (Below.refl _ _).alloc (Nat.le_refl _) _
  have HB0 := Lib.hid hb0
  clear hb0
  unfold parV
  by_cases h1 : A.length = 0
  · have g1 : ((A.length : Int) == 0) = true := by rw [int0]; exact decide_eq_true h1
    by_cases h2 : B.length = 0
    · have g2 : ((B.length : Int) == 0) = true := by rw [int0]; exact decide_eq_true h2
      have hF : fits (kindOf 9) n A B = (n == 0) := by rw [eq0]; simp [fits, kindOf, kinds, mayBe, h1, h2]
      rw [hF]
      clear hF h1 h2
      go_enter Tryd.func26, Tryd.ntmps26
      go_wp2_with ((go_at_call 36; refine (within_any _ _ _ _).mono ?_; rintro e w' ⟨rfl, rfl⟩))
      go_ret
      exact ⟨rfl, HB0.out _⟩
    · have g2 : ((B.length : Int) == 0) = false := by rw [int0]; exact decide_eq_false h2
      have hF : fits (kindOf 9) n A B = false := by simp [fits, kindOf, kinds, mayBe, h1, h2]
      rw [hF]
      clear hF h1 h2
      go_enter Tryd.func26, Tryd.ntmps26
      go_wp2_with fail
      go_ret
      exact ⟨rfl, HB0.out _⟩
  · have g1 : ((A.length : Int) == 0) = false := by rw [int0]; exact decide_eq_false h1
    have hF : fits (kindOf 9) n A B = false := by simp [fits, kindOf, kinds, mayBe, h1]
    rw [hF]
    clear hF h1
    go_enter Tryd.func26, Tryd.ntmps26
    go_wp2_with fail
    go_ret
    exact ⟨rfl, HB0.out _⟩

set_option maxRecDepth 100000 in
set_option maxHeartbeats 1000000 in
theorem refRow_10 (n : Int) (va vb : Value) (A B : List UInt8) (w : World) (hA : IsBytes w va A) (hB : IsBytes w vb B) :
    Calls Tryd.prog 26 #[parV 10 n va vb] w (Gives w (.bool (fits (kindOf 10) n A B))) := by
  obtain ⟨a, ca, rfl, -, -⟩ := hA
  obtain ⟨b, cb, rfl, -, -⟩ := hB
  have hb0 : ∀ o, Below w.heap.size w (w.alloc o) := fun o => (Below.refl _ _).alloc (Nat.le_refl _) _
  have HB0 := Lib.hid hb0
  clear hb0
  unfold parV
  by_cases h1 : A.length = 0
  · have g1 : ((A.length : Int) == 0) = true := by rw [int0]; exact decide_eq_true h1
    by_cases h2 : B.length = 0
    · have g2 : ((B.length : Int) == 0) = true := by rw [int0]; exact decide_eq_true h2
      have hF : fits (kindOf 10) n A B = (decide (0 ≤ n) && decide (n ≤ 1000000000)) := by simp [fits, kindOf, kinds, mayBe, h1, h2]
      rw [hF]
      clear hF h1 h2
      go_enter Tryd.func26, Tryd.ntmps26
      go_wp2_with ((go_at_call 36; refine (within_any _ _ _ _).mono ?_; rintro e w' ⟨rfl, rfl⟩))
      go_ret
      exact ⟨rfl, HB0.out _⟩
    · have g2 : ((B.length : Int) == 0) = false := by rw [int0]; exact decide_eq_false h2
      have hF : fits (kindOf 10) n A B = false := by simp [fits, kindOf, kinds, mayBe, h1, h2]
      rw [hF]
      clear hF h1 h2
      go_enter Tryd.func26, Tryd.ntmps26
      go_wp2_with fail
      go_ret
      exact ⟨rfl, HB0.out _⟩
  · have g1 : ((A.length : Int) == 0) = false := by rw [int0]; exact decide_eq_false h1
    have hF : fits (kindOf 10) n A B = false := by simp [fits, kindOf, kinds, mayBe, h1]
    rw [hF]
    clear hF h1
    go_enter Tryd.func26, Tryd.ntmps26
    go_wp2_with fail
    go_ret
    exact ⟨rfl, HB0.out _⟩

set_option maxRecDepth 100000 in
set_option maxHeartbeats 1000000 in
theorem refRow_11 (n : Int) (va vb : Value) (A B : List UInt8) (w : World) (hA : IsBytes w va A) (hB : IsBytes w vb B) :
    Calls Tryd.prog 26 #[parV 11 n va vb] w (Gives w (.bool (fits (kindOf 11) n A B))) := by
  obtain ⟨a, ca, rfl, -, -⟩ := hA
  obtain ⟨b, cb, rfl, -, -⟩ := hB
  have hb0 : ∀ o, Below w.heap.size w (w.alloc o) := fun o => (Below.refl _ _).alloc (Nat.le_refl _) _
  have HB0 := Lib.hid hb0
  clear hb0
  unfold parV
  by_cases h1 : A.length = 0
  · have g1 : ((A.length : Int) == 0) = true := by rw [int0]; exact decide_eq_true h1
    by_cases h2 : B.length = 0
    · have g2 : ((B.length : Int) == 0) = true := by rw [int0]; exact decide_eq_true h2
      have hF : fits (kindOf 11) n A B = (decide (0 ≤ n) && decide (n ≤ 1)) := by simp [fits, kindOf, kinds, mayBe, h1, h2]
      rw [hF]
      clear hF h1 h2
      go_enter Tryd.func26, Tryd.ntmps26
      go_wp2_with ((go_at_call 36; refine (within_any _ _ _ _).mono ?_; rintro e w' ⟨rfl, rfl⟩))
      go_ret
      exact ⟨rfl, HB0.out _⟩
    · have g2 : ((B.length : Int) == 0) = false := by rw [int0]; exact decide_eq_false h2
      have hF : fits (kindOf 11) n A B = false := by simp [fits, kindOf, kinds, mayBe, h1, h2]
      rw [hF]
      clear hF h1 h2
      go_enter Tryd.func26, Tryd.ntmps26
      go_wp2_with fail
      go_ret
      exact ⟨rfl, HB0.out _⟩
  · have g1 : ((A.length : Int) == 0) = false := by rw [int0]; exact decide_eq_false h1
    have hF : fits (kindOf 11) n A B = false := by simp [fits, kindOf, kinds, mayBe, h1]
    rw [hF]
    clear hF h1
    go_enter Tryd.func26, Tryd.ntmps26
    go_wp2_with fail
    go_ret
    exact ⟨rfl, HB0.out _⟩

end Go.Proofs.YtlflhjgfegflfaaDoor.Pm

namespace Go.Proofs.YtlflhjgfegflfaaDoor.Pm
open Go.RowKit

set_option maxRecDepth 100000 in
set_option maxHeartbeats 1000000 in
theorem refRow_12 (n : Int) (va vb : Value) (A B : List UInt8) (w : World) (hA : IsBytes w va A) (hB : IsBytes w vb B) :
    Calls Tryd.prog 26 #[parV 12 n va vb] w (Gives w (.bool (fits (kindOf 12) n A B))) := by
  obtain ⟨a, ca, rfl, -, -⟩ := hA
  obtain ⟨b, cb, rfl, -, -⟩ := hB
  have hb0 : ∀ o, Below w.heap.size w (w.alloc o) := fun o => (Below.refl _ _).alloc (Nat.le_refl _) _
  have HB0 := Lib.hid hb0
  clear hb0
  unfold parV
  by_cases h1 : A.length = 0
  · have g1 : ((A.length : Int) == 0) = true := by rw [int0]; exact decide_eq_true h1
    by_cases h2 : B.length = 0
    · have g2 : ((B.length : Int) == 0) = true := by rw [int0]; exact decide_eq_true h2
      have hF : fits (kindOf 12) n A B = (decide (1 ≤ n) && decide (n ≤ 4)) := by simp [fits, kindOf, kinds, mayBe, h1, h2]
      rw [hF]
      clear hF h1 h2
      go_enter Tryd.func26, Tryd.ntmps26
      go_wp2_with ((go_at_call 36; refine (within_any _ _ _ _).mono ?_; rintro e w' ⟨rfl, rfl⟩))
      go_ret
      exact ⟨rfl, HB0.out _⟩
    · have g2 : ((B.length : Int) == 0) = false := by rw [int0]; exact decide_eq_false h2
      have hF : fits (kindOf 12) n A B = false := by simp [fits, kindOf, kinds, mayBe, h1, h2]
      rw [hF]
      clear hF h1 h2
      go_enter Tryd.func26, Tryd.ntmps26
      go_wp2_with fail
      go_ret
      exact ⟨rfl, HB0.out _⟩
  · have g1 : ((A.length : Int) == 0) = false := by rw [int0]; exact decide_eq_false h1
    have hF : fits (kindOf 12) n A B = false := by simp [fits, kindOf, kinds, mayBe, h1]
    rw [hF]
    clear hF h1
    go_enter Tryd.func26, Tryd.ntmps26
    go_wp2_with fail
    go_ret
    exact ⟨rfl, HB0.out _⟩

set_option maxRecDepth 100000 in
set_option maxHeartbeats 1000000 in
theorem refRow_15 (n : Int) (va vb : Value) (A B : List UInt8) (w : World) (hA : IsBytes w va A) (hB : IsBytes w vb B) :
    Calls Tryd.prog 26 #[parV 15 n va vb] w (Gives w (.bool (fits (kindOf 15) n A B))) := by
  obtain ⟨a, ca, rfl, -, -⟩ := hA
  obtain ⟨b, cb, rfl, -, -⟩ := hB
  have hb0 : ∀ o, Below w.heap.size w (w.alloc o) := fun o => (Below.refl _ _).alloc (Nat.le_refl _) _
  have HB0 := Lib.hid hb0
  clear hb0
  unfold parV
  by_cases h1 : A.length = 0
  · have g1 : ((A.length : Int) == 0) = true := by rw [int0]; exact decide_eq_true h1
    by_cases h2 : B.length = 0
    · have g2 : ((B.length : Int) == 0) = true := by rw [int0]; exact decide_eq_true h2
      have hF : fits (kindOf 15) n A B = (decide (1 ≤ n) && decide (n ≤ 4)) := by simp [fits, kindOf, kinds, mayBe, h1, h2]
      rw [hF]
      clear hF h1 h2
      go_enter Tryd.func26, Tryd.ntmps26
      go_wp2_with ((go_at_call 36; refine (within_any _ _ _ _).mono ?_; rintro e w' ⟨rfl, rfl⟩))
      go_ret
      exact ⟨rfl, HB0.out _⟩
    · have g2 : ((B.length : Int) == 0) = false := by rw [int0]; exact decide_eq_false h2
      have hF : fits (kindOf 15) n A B = false := by simp [fits, kindOf, kinds, mayBe, h1, h2]
      rw [hF]
      clear hF h1 h2
      go_enter Tryd.func26, Tryd.ntmps26
      go_wp2_with fail
      go_ret
      exact ⟨rfl, HB0.out _⟩
  · have g1 : ((A.length : Int) == 0) = false := by rw [int0]; exact decide_eq_false h1
    have hF : fits (kindOf 15) n A B = false := by simp [fits, kindOf, kinds, mayBe, h1]
    rw [hF]
    clear hF h1
    go_enter Tryd.func26, Tryd.ntmps26
    go_wp2_with fail
    go_ret
    exact ⟨rfl, HB0.out _⟩

set_option maxRecDepth 100000 in
set_option maxHeartbeats 1000000 in
theorem refRow_16 (n : Int) (va vb : Value) (A B : List UInt8) (w : World) (hA : IsBytes w va A) (hB : IsBytes w vb B) :
    Calls Tryd.prog 26 #[parV 16 n va vb] w (Gives w (.bool (fits (kindOf 16) n A B))) := by
  obtain ⟨a, ca, rfl, -, -⟩ := hA
  obtain ⟨b, cb, rfl, -, -⟩ := hB
  have hb0 : ∀ o, Below w.heap.size w (w.alloc o) := fun o => (Below.refl _ _).alloc (Nat.le_refl _) _
  have HB0 := Lib.hid hb0
  clear hb0
  unfold parV
  by_cases h1 : A.length = 0
  · have g1 : ((A.length : Int) == 0) = true := by rw [int0]; exact decide_eq_true h1
    by_cases h2 : B.length = 0
    · have g2 : ((B.length : Int) == 0) = true := by rw [int0]; exact decide_eq_true h2
      have hF : fits (kindOf 16) n A B = (decide (1 ≤ n) && decide (n ≤ 4)) := by simp [fits, kindOf, kinds, mayBe, h1, h2]
      rw [hF]
      clear hF h1 h2
      go_enter Tryd.func26, Tryd.ntmps26
      go_wp2_with ((go_at_call 36; refine (within_any _ _ _ _).mono ?_; rintro e w' ⟨rfl, rfl⟩))
      go_ret
      exact ⟨rfl, HB0.out _⟩
    · have g2 : ((B.length : Int) == 0) = false := by rw [int0]; exact decide_eq_false h2
      have hF : fits (kindOf 16) n A B = false := by simp [fits, kindOf, kinds, mayBe, h1, h2]
      rw [hF]
      clear hF h1 h2
      go_enter Tryd.func26, Tryd.ntmps26
      go_wp2_with fail
      go_ret
      exact ⟨rfl, HB0.out _⟩
  · have g1 : ((A.length : Int) == 0) = false := by rw [int0]; exact decide_eq_false h1
    have hF : fits (kindOf 16) n A B = false := by simp [fits, kindOf, kinds, mayBe, h1]
    rw [hF]
    clear hF h1
    go_enter Tryd.func26, Tryd.ntmps26
    go_wp2_with fail
    go_ret
    exact ⟨rfl, HB0.out _⟩

end Go.Proofs.YtlflhjgfegflfaaDoor.Pm
