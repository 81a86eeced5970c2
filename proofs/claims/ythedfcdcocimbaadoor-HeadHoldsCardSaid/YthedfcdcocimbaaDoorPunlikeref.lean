/- What the document's unlike does. -/
import Derived.Test.YthedfcdcocimbaaDoorPunlike
namespace Go.Proofs.YthedfcdcocimbaaDoor.Pm
open Go.RowKit

theorem Below.drewN {B : Nat} (w : World) (n : Nat) : Below B w (w.drewN n) := ⟨rfl, rfl, rfl, Nat.le_refl _, fun _ _ => rfl⟩
theorem mem_take_lt {A : List UInt8} {j k : Nat} {c : UInt8} (hj : A[j]? = some c) (h : j < k) : c ∈ A.take k := by
  apply List.mem_of_getElem? (i := j)
  rw [List.getElem?_take, if_pos h, hj]

set_option maxRecDepth 100000 in
set_option maxHeartbeats 1000000 in
theorem refUnlike_any (v : Value) (A : List UInt8) (w : World) (hA : IsBytes w v A) (hs : A.length ≤ 2000) :
    Calls Tryd.prog 59 #[v] w (Gives w (.bool (decide A.Nodup))) := by
  obtain ⟨a, cap, rfl, hle, hc⟩ := hA
  have HC := Lib.hid hc
  clear hc
  go_enter Tryd.func59, Tryd.ntmps59
  go_wp2
  go_loopw [3] (fun i wr => ∃ k q : Nat, k ≤ A.length ∧ i = .int .i64 k ∧ (A.take k).Nodup ∧ wr = w.drewN q) (fun i _ => A.length - (intOf i).toNat)
  case atStart => exact ⟨0, 0, Nat.zero_le _, rfl, by simp, rfl⟩
  case round =>
    obtain ⟨k, q, hk, rfl, hn, rfl⟩ := hrel
    by_cases hlt : k < A.length
    · obtain ⟨c, hcx⟩ : ∃ c, A[k]? = some c := ⟨A[k], by simp⟩
      obtain ⟨gb, off, rfl, hx⟩ := HC.out k c hcx
      have g1 : (0 : Int) ≤ (k : Int) := by omega
      have g2 : (k : Int) < (A.length : Int) := by omega
      have HN := Lib.hid hn
      have HX := Lib.hid hcx
      clear hn hcx
      go_wp2
      go_loopw [4] (fun i wr => ∃ j r : Nat, j ≤ k ∧ i = .int .i64 j ∧ c ∉ A.take j ∧ wr = w.drewN r) (fun i _ => k - (intOf i).toNat)
      case atStart => exact ⟨0, _, Nat.zero_le _, rfl, by simp, rfl⟩
      case round =>
        obtain ⟨j, r, hj, rfl, hm, rfl⟩ := hrel
        by_cases hjl : j < k
        · obtain ⟨d, hdx⟩ : ∃ d, A[j]? = some d := ⟨A[j]'(by omega), by simp⟩
          obtain ⟨gb2, off2, e2, hy⟩ := HC.out j d hdx
          cases e2
          have g3 : (0 : Int) ≤ (j : Int) := by omega
          have g4 : (j : Int) < (A.length : Int) := by omega
          have g5 : (j : Int) < (k : Int) := by omega
          have HM := Lib.hid hm
          have HD := Lib.hid hdx
          clear hm hdx
          have g6 := u8_eq d c
          by_cases he : d = c
          · rw [decide_eq_true he] at g6
            go_wp2
            go_quiet (fail)
            go_wp2
            go_ret
            refine ⟨?_, (Below.drewN _ _).trans (Below.drewN _ _)⟩
            have hm : c ∈ A.take k := he ▸ mem_take_lt HD.out hjl
            rw [decide_eq_false (not_nodup HX.out hm)]
            rfl
          · rw [decide_eq_false he] at g6
            go_wp2
            go_quiet (fail)
            go_wp2
            go_roundw
            case rel => exact ⟨j + 1, _, by omega, by go_num, not_mem_take HD.out HM.out he, rfl⟩
            case measure => simp [intOf]; omega
        · have g5 : ¬ (j : Int) < (k : Int) := by omega
          obtain rfl : j = k := by omega
          have HM := Lib.hid hm
          clear hm
          go_wp2
          go_roundw
          case rel =>
            obtain ⟨e1, -⟩ := nodup_step HX.out HN.out HM.out
            exact ⟨j + 1, _, by omega, by go_num, e1, rfl⟩
          case measure => simp [intOf]; omega
    · have g2 : ¬ (k : Int) < (A.length : Int) := by omega
      obtain rfl : k = A.length := by omega
      rw [List.take_length] at hn
      have HN := Lib.hid hn
      clear hn
      go_wp2
      go_ret
      refine ⟨?_, Below.drewN _ _⟩
      rw [decide_eq_true HN.out]
      rfl

end Go.Proofs.YthedfcdcocimbaaDoor.Pm
