/- What the loops do: has, Index, Contains, and unlike, both of them. -/
import Derived.Test.YthedfcdcocimbaaDoorPsmall
namespace Go.Proofs.YthedfcdcocimbaaDoor.Pm
open Go.RowKit

theorem u8_eq (c x : UInt8) : ((c.toNat : Int) == (x.toNat : Int)) = decide (c = x) := by
  by_cases h : c = x
  · subst h; simp
  · rw [decide_eq_false h]
    simp only [beq_eq_false_iff_ne, ne_eq]
    intro e
    exact h (UInt8.toNat_inj.1 (by omega))
theorem not_mem_take {A : List UInt8} {k : Nat} {c x : UInt8} (hk : A[k]? = some c) (h : x ∉ A.take k) (hc : c ≠ x) : x ∉ A.take (k + 1) := by
  obtain ⟨hl, e⟩ := List.getElem?_eq_some_iff.1 hk
  rw [List.take_succ_eq_append_getElem hl, List.mem_append]
  rintro (h' | h')
  · exact h h'
  · rw [List.mem_singleton, e] at h'
    exact hc h'.symm

set_option maxRecDepth 100000 in
set_option maxHeartbeats 400000 in
theorem has_any (v : Value) (A : List UInt8) (x : UInt8) (w : World) (hA : IsBytes w v A) (hs : A.length ≤ 2000) :
    Calls Tryd.prog 58 #[v, .int .u8 x.toNat] w (Says w (.bool (decide (x ∈ A)))) := by
  obtain ⟨a, cap, rfl, hle, hc⟩ := hA
  have HC := Lib.hid hc
  clear hc
  go_enter Tryd.func58, Tryd.ntmps58
  go_wp2
  go_loop [5] (fun i => ∃ k : Nat, k ≤ A.length ∧ i = .int .i64 k ∧ x ∉ A.take k) (fun i => A.length - (intOf i).toNat)
  case atStart => exact ⟨0, Nat.zero_le _, rfl, by simp⟩
  case round =>
    obtain ⟨k, hk, rfl, hn⟩ := hrel
    by_cases hlt : k < A.length
    · obtain ⟨c, hcx⟩ : ∃ c, A[k]? = some c := ⟨A[k], by simp⟩
      obtain ⟨gb, off, rfl, hx⟩ := HC.out k c hcx
      have g1 : (0 : Int) ≤ (k : Int) := by omega
      have g2 : (k : Int) < (A.length : Int) := by omega
      have HN := Lib.hid hn
      have HX := Lib.hid hcx
      clear hn hcx
      by_cases he : c = x
      · have g3 := u8_eq c x
        rw [decide_eq_true he] at g3
        go_wp2
        go_ret
        refine ⟨?_, rfl⟩
        rw [decide_eq_true (he ▸ List.mem_of_getElem? HX.out)]
        rfl
      · have g3 := u8_eq c x
        rw [decide_eq_false he] at g3
        go_wp2
        go_round
        case rel => exact ⟨k + 1, by omega, by go_num, not_mem_take HX.out HN.out he⟩
        case measure => simp [intOf]; omega
    · have g2 : ¬ (k : Int) < (A.length : Int) := by omega
      obtain rfl : k = A.length := by omega
      rw [List.take_length] at hn
      have HN := Lib.hid hn
      clear hn
      go_wp2
      go_ret
      refine ⟨?_, rfl⟩
      rw [decide_eq_false HN.out]
      rfl

def IndexEnd (w : World) (A : List UInt8) (x : UInt8) (e : Ending) (w' : World) : Prop := ∃ i : Int, e = .returned (.int .i64 i) ∧ decide (0 ≤ i) = decide (x ∈ A) ∧ w = w'

set_option maxRecDepth 100000 in
set_option maxHeartbeats 400000 in
theorem index_any (v : Value) (A : List UInt8) (x : UInt8) (w : World) (hA : IsBytes w v A) (hs : A.length ≤ 2000) :
    Calls Tryd.prog 70 #[v, .int .u8 x.toNat] w (IndexEnd w A x) := by
  obtain ⟨a, cap, rfl, hle, hc⟩ := hA
  have HC := Lib.hid hc
  clear hc
  go_enter Tryd.func70, Tryd.ntmps70
  go_wp2
  go_loop [8] (fun i => ∃ k : Nat, k ≤ A.length ∧ i = .int .i64 k ∧ x ∉ A.take k) (fun i => A.length - (intOf i).toNat)
  case atStart => exact ⟨0, Nat.zero_le _, rfl, by simp⟩
  case round =>
    obtain ⟨k, hk, rfl, hn⟩ := hrel
    by_cases hlt : k < A.length
    · obtain ⟨c, hcx⟩ : ∃ c, A[k]? = some c := ⟨A[k], by simp⟩
      obtain ⟨gb, off, rfl, hx⟩ := HC.out k c hcx
      have g1 : (0 : Int) ≤ (k : Int) := by omega
      have g2 : (k : Int) < (A.length : Int) := by omega
      have HN := Lib.hid hn
      have HX := Lib.hid hcx
      clear hn hcx
      by_cases he : c = x
      · have g3 := u8_eq x c
        rw [decide_eq_true he.symm] at g3
        go_wp2
        go_ret
        refine ⟨(k : Int), rfl, ?_, rfl⟩
        have hm : x ∈ A := he ▸ List.mem_of_getElem? HX.out
        rw [decide_eq_true hm, decide_eq_true g1]
      · have g3 := u8_eq x c
        rw [decide_eq_false (fun h => he h.symm)] at g3
        go_wp2
        go_round
        case rel => exact ⟨k + 1, by omega, by go_num, not_mem_take HX.out HN.out he⟩
        case measure => simp [intOf]; omega
    · have g2 : ¬ (k : Int) < (A.length : Int) := by omega
      obtain rfl : k = A.length := by omega
      rw [List.take_length] at hn
      have HN := Lib.hid hn
      clear hn
      go_wp2
      go_ret
      refine ⟨-1, rfl, ?_, rfl⟩
      rw [decide_eq_false HN.out]
      rfl

set_option maxRecDepth 100000 in
set_option maxHeartbeats 400000 in
theorem contains_any (v : Value) (A : List UInt8) (x : UInt8) (w : World) (hA : IsBytes w v A) (hs : A.length ≤ 2000) :
    Calls Tryd.prog 68 #[v, .int .u8 x.toNat] w (Says w (.bool (decide (x ∈ A)))) := by
  have HA := Lib.hid hA
  clear hA
  go_enter Tryd.func68, Tryd.ntmps68
  go_wp2_with fail
  refine (index_any v A x w HA.out hs).mono ?_
  rintro e w' ⟨i, rfl, hi, rfl⟩
  rw [← hi]
  go_wp2_with fail
  go_ret
  exact ⟨rfl, rfl⟩

end Go.Proofs.YthedfcdcocimbaaDoor.Pm
