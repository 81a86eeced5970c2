/- What bytesMayBe does. -/
import Derived.Test.YthedfcdcocimbaaDoorPunlikeref
namespace Go.Proofs.YthedfcdcocimbaaDoor.Pm
open Go.RowKit

theorem mayBe1 (A B : List UInt8) : mayBe 1 A B = (oneB A && decide (B.length = 0)) := by
  simp only [mayBe, oneB, if_true]
  by_cases h1 : A.length = 1 <;> by_cases h2 : A.head? = some 10 <;> by_cases h3 : B.length = 0 <;> simp [h1, h2, h3]
theorem int0 (n : Nat) : ((n : Int) == 0) = decide (n = 0) := by
  by_cases h : n = 0
  · subst h; rfl
  · rw [decide_eq_false h]; simp; omega
theorem int1 (n : Nat) : ((n : Int) == 1) = decide (n = 1) := by
  by_cases h : n = 1
  · subst h; rfl
  · rw [decide_eq_false h]; simp; omega

set_option maxRecDepth 100000 in
set_option maxHeartbeats 1000000 in
theorem maybe0 (r : Int) (h1 : (r == 1) = false) (h2 : (r == 2) = false) (h3 : (r == 3) = false) (va vb : Value) (A B : List UInt8) (w : World) (hA : IsBytes w va A) (hB : IsBytes w vb B) :
    Calls Tryd.prog 65 #[.int .i64 r, va, vb] w (Says w (.bool (mayBe r A B))) := by
  obtain ⟨a, ca, rfl, -, -⟩ := hA
  obtain ⟨b, cb, rfl, -, -⟩ := hB
  have e : mayBe r A B = (decide (A.length = 0) && decide (B.length = 0)) := by
    simp only [beq_eq_false_iff_ne, ne_eq] at h1 h2 h3
    simp [mayBe, h1, h2, h3]
  rw [e, ← int0, ← int0]
  clear e
  rcases Bool.eq_false_or_eq_true ((A.length : Int) == 0) with hA | hA
  · rw [hA, Bool.true_and]
    go_enter Tryd.func65, Tryd.ntmps65
    go_wp2
    go_ret
    exact ⟨rfl, rfl⟩
  · rw [hA, Bool.false_and]
    go_enter Tryd.func65, Tryd.ntmps65
    go_wp2
    go_ret
    exact ⟨rfl, rfl⟩

set_option maxRecDepth 100000 in
set_option maxHeartbeats 1000000 in
theorem maybe1 (va vb : Value) (A B : List UInt8) (w : World) (hA : IsBytes w va A) (hB : IsBytes w vb B) :
    Calls Tryd.prog 65 #[.int .i64 1, va, vb] w (Says w (.bool (mayBe 1 A B))) := by
  obtain ⟨a, ca, rfl, -, hc⟩ := hA
  obtain ⟨b, cb, rfl, -, -⟩ := hB
  rw [mayBe1, ← int0]
  by_cases h1 : A.length = 1
  · obtain ⟨c, rfl⟩ : ∃ c, A = [c] := List.length_eq_one_iff.1 h1
    obtain ⟨gb, off, rfl, hx⟩ := hc 0 c rfl
    clear hc
    rw [Nat.add_zero] at hx
    simp only [List.length_cons, List.length_nil, Nat.zero_add]
    by_cases h2 : c = 10
    · subst h2
      rw [show oneB [10] = false by decide, Bool.false_and]
      simp only [show ((10 : UInt8).toNat : Int) = 10 from rfl] at hx
      go_enter Tryd.func65, Tryd.ntmps65
      go_wp2
      go_ret
      exact ⟨rfl, rfl⟩
    · have h3 : oneB [c] = true := by simp [oneB, h2]
      rw [h3, Bool.true_and]
      have h4 : ((c.toNat : Int) != 10) = true := by
        simp only [bne_iff_ne, ne_eq]
        intro h
        exact h2 (UInt8.toNat_inj.1 (by simpa using (show c.toNat = 10 by omega)))
      go_enter Tryd.func65, Tryd.ntmps65
      go_wp2
      go_ret
      exact ⟨rfl, rfl⟩
  · have h3 : oneB A = false := by simp [oneB, h1]
    rw [h3, Bool.false_and]
    have h4 : ((A.length : Int) == 1) = false := by simp; omega
    clear hc
    go_enter Tryd.func65, Tryd.ntmps65
    go_wp2
    go_ret
    exact ⟨rfl, rfl⟩

set_option maxRecDepth 100000 in
set_option maxHeartbeats 1000000 in
theorem maybe2 (va vb : Value) (A B : List UInt8) (w : World) (hA : IsBytes w va A) (hB : IsBytes w vb B) :
    Calls Tryd.prog 65 #[.int .i64 2, va, vb] w (Says w (.bool (mayBe 2 A B))) := by
  have HA := Lib.hid hA
  obtain ⟨a, ca, rfl, -, -⟩ := hA
  obtain ⟨b, cb, rfl, -, -⟩ := hB
  have e : mayBe 2 A B = (decide (1 ≤ A.length) && (decide (A.length ≤ 16) && (!decide ((10 : UInt8) ∈ A) && decide (B.length = 0)))) := by
    simp [mayBe, Bool.decide_and]
  rw [e, ← int0]
  clear e
  by_cases h1 : (1 : Int) ≤ (A.length : Int)
  · rw [decide_eq_true (show 1 ≤ A.length by omega), Bool.true_and]
    by_cases h2 : (A.length : Int) ≤ 16
    · rw [decide_eq_true (show A.length ≤ 16 by omega), Bool.true_and]
      rcases Bool.eq_false_or_eq_true (decide ((10 : UInt8) ∈ A)) with hm | hm
      · have HM := Lib.hid hm
        rw [hm, Bool.not_true, Bool.false_and]
        clear hm
        go_enter Tryd.func65, Tryd.ntmps65
        go_wp2_with fail
        refine (contains_any _ A 10 w HA.out (by omega)).mono ?_
        rintro e w' ⟨rfl, rfl⟩
        rw [HM.out]
        go_wp2
        go_ret
        exact ⟨rfl, rfl⟩
      · have HM := Lib.hid hm
        rw [hm, Bool.not_false, Bool.true_and]
        clear hm
        go_enter Tryd.func65, Tryd.ntmps65
        go_wp2_with fail
        refine (contains_any _ A 10 w HA.out (by omega)).mono ?_
        rintro e w' ⟨rfl, rfl⟩
        rw [HM.out]
        go_wp2
        go_ret
        exact ⟨rfl, rfl⟩
    · rw [decide_eq_false (show ¬ A.length ≤ 16 by omega), Bool.false_and]
      go_enter Tryd.func65, Tryd.ntmps65
      go_wp2
      go_ret
      exact ⟨rfl, rfl⟩
  · rw [decide_eq_false (show ¬ 1 ≤ A.length by omega), Bool.false_and]
    go_enter Tryd.func65, Tryd.ntmps65
    go_wp2
    go_ret
    exact ⟨rfl, rfl⟩

set_option maxRecDepth 100000 in
set_option maxHeartbeats 1000000 in
theorem maybe3 (va vb : Value) (A B : List UInt8) (w : World) (hA : IsBytes w va A) (hB : IsBytes w vb B) :
    Calls Tryd.prog 65 #[.int .i64 3, va, vb] w (Gives w (.bool (mayBe 3 A B))) := by
  have HA := Lib.hid hA
  obtain ⟨a, ca, rfl, -, -⟩ := hA
  obtain ⟨b, cb, rfl, -, -⟩ := hB
  have e : mayBe 3 A B = (decide (1 ≤ A.length) && (decide (A.length ≤ 64) && (decide A.Nodup && decide (B.length ≤ A.length)))) := by
    simp [mayBe, Bool.decide_and]
  rw [e]
  clear e
  by_cases h1 : (1 : Int) ≤ (A.length : Int)
  · rw [decide_eq_true (show 1 ≤ A.length by omega), Bool.true_and]
    by_cases h2 : (A.length : Int) ≤ 64
    · rw [decide_eq_true (show A.length ≤ 64 by omega), Bool.true_and]
      rcases Bool.eq_false_or_eq_true (decide A.Nodup) with hm | hm
      · have HM := Lib.hid hm
        rw [hm, Bool.true_and]
        clear hm
        go_enter Tryd.func65, Tryd.ntmps65
        go_wp2_with fail
        refine (unlike_any _ A w HA.out (by omega)).mono ?_
        rintro e w' ⟨rfl, hb⟩
        rw [HM.out]
        go_wp2
        go_ret
        exact ⟨rfl, hb⟩
      · have HM := Lib.hid hm
        rw [hm, Bool.false_and]
        clear hm
        go_enter Tryd.func65, Tryd.ntmps65
        go_wp2_with fail
        refine (unlike_any _ A w HA.out (by omega)).mono ?_
        rintro e w' ⟨rfl, hb⟩
        rw [HM.out]
        go_wp2
        go_ret
        exact ⟨rfl, hb⟩
    · rw [decide_eq_false (show ¬ A.length ≤ 64 by omega), Bool.false_and]
      go_enter Tryd.func65, Tryd.ntmps65
      go_wp2
      go_ret
      exact ⟨rfl, Below.refl _ _⟩
  · rw [decide_eq_false (show ¬ 1 ≤ A.length by omega), Bool.false_and]
    go_enter Tryd.func65, Tryd.ntmps65
    go_wp2
    go_ret
    exact ⟨rfl, Below.refl _ _⟩

theorem Says.gives {w : World} {v : Value} {e : Ending} {w' : World} (h : Says w v e w') : Gives w v e w' := by
  obtain ⟨rfl, rfl⟩ := h
  exact ⟨rfl, Below.refl _ _⟩
/-- THE CONTRACT. -/
theorem bytesMayBe_any (r : Int) (va vb : Value) (A B : List UInt8) (w : World) (hA : IsBytes w va A) (hB : IsBytes w vb B) :
    Calls Tryd.prog 65 #[.int .i64 r, va, vb] w (Gives w (.bool (mayBe r A B))) := by
  by_cases h1 : r = 1
  · subst h1
    exact (maybe1 va vb A B w hA hB).mono fun _ _ h => h.gives
  · by_cases h2 : r = 2
    · subst h2
      exact (maybe2 va vb A B w hA hB).mono fun _ _ h => h.gives
    · by_cases h3 : r = 3
      · subst h3
        exact maybe3 va vb A B w hA hB
      · exact (maybe0 r (by simpa using h1) (by simpa using h2) (by simpa using h3) va vb A B w hA hB).mono fun _ _ h => h.gives

end Go.Proofs.YthedfcdcocimbaaDoor.Pm
