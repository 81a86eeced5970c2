/- What the law's times does. -/
import Derived.Test.YtpgigpajpcianaaGreatDoorDenote
import Derived.Test.YtpgigpajpcianaaGreatDoorPA
namespace Go.Proofs.YtpgigpajpcianaaGreatDoor
open Go.RowKit

theorem str_cmp {x y : List UInt8} {S T : ByteArray} (hS : strV x = .string S) (hT : strV y = .string T) : Op.bytesLess S.toList T.toList = Op.bytesLess x y ∧ (S.toList == T.toList) = decide (x = y) := by
  have e1 : S = ⟨x.toArray⟩ := (Value.string.inj hS).symm
  have e2 : T = ⟨y.toArray⟩ := (Value.string.inj hT).symm
  subst e1 e2
  refine ⟨?_, Pm.strV_eq x y⟩
  rw [show ∀ z : List UInt8, (⟨z.toArray⟩ : ByteArray).toList = z from fun z => by rw [ByteArray.toList_eq]]
  rw [show ∀ z : List UInt8, (⟨z.toArray⟩ : ByteArray).toList = z from fun z => by rw [ByteArray.toList_eq]]
theorem count_take {L : Lines} {k : Nat} {l : List UInt8} (h : L[k]? = some l) (s : List UInt8) : (L.take (k + 1)).count s = (L.take k).count s + if l = s then 1 else 0 := by
  rw [List.take_add_one, h]
  simp only [Option.toList_some, List.count_append, List.count_cons, List.count_nil]
  by_cases e : l = s <;> simp [e]
set_option maxRecDepth 100000 in
set_option maxHeartbeats 2000000 in
theorem times_any {p : Nat → Prop} (v : Value) (L : Lines) (s : List UInt8) (w : World) (hL : IsTexts p w v L) (hl : L.length ≤ 1000000) :
    Calls Tryz.prog 31 #[v, strV s] w (Says w (.int .i64 (L.count s : Nat))) := by
  obtain ⟨la, lc, rfl, hc⟩ := hL
  have HC := Lib.hid hc
  obtain ⟨T, hT⟩ : ∃ T : ByteArray, strV s = .string T := ⟨_, rfl⟩
  have HT := Lib.hid hT
  have HL := Lib.hid hl
  rw [hT]
  clear hc hl hT
  go_enter Tryz.func31, Tryz.ntmps31
  go_wp2_with fail
  go_loopw [5, 6] (fun nv iv wr => ∃ k : Nat, nv = .int .i64 (((L.take k).count s : Nat) : Int) ∧ iv = .int .i64 k ∧ k ≤ L.length ∧ wr = w) (fun _ iv _ => L.length - (intOf iv).toNat)
  case atStart => exact ⟨0, by simp, rfl, Nat.zero_le _, rfl⟩
  case round =>
    obtain ⟨k, rfl, rfl, hk, rfl⟩ := hrel
    have hcl := List.count_le_length (a := s) (l := L.take k)
    rw [List.length_take] at hcl
    have hll := HL.out
    by_cases hlt : k < L.length
    · obtain ⟨l, hx⟩ : ∃ l, L[k]? = some l := ⟨L[k], by simp⟩
      obtain ⟨gb, off, rfl, -, hcell⟩ := HC.out k l hx
      obtain ⟨A, hA⟩ : ∃ A : ByteArray, strV l = .string A := ⟨_, rfl⟩
      rw [hA] at hcell
      have hcmp := (str_cmp hA HT.out).2
      have hcnt := count_take hx s
      obtain ⟨c, hc⟩ : ∃ c, c = (L.take k).count s := ⟨_, rfl⟩
      rw [← hc] at hcl hcnt ⊢
      have q1 : (0 : Int) ≤ (k : Int) := by omega
      have q2 : (k : Int) < (L.length : Int) := by omega
      have q3 : (k : Int) ≤ 1000000 := by omega
      have q4 : (c : Int) ≤ 1000000 := by omega
      have HCnt := Lib.hid hcnt
      have HLt := Lib.hid hlt
      by_cases he : l = s
      · rw [decide_eq_true he] at hcmp
        have HE := Lib.hid he
        clear he hx hA hcnt hc hcl hll hlt hk
        go_wp2_with fail
        go_roundw
        case rel => exact ⟨k + 1, by rw [HCnt.out, if_pos HE.out]; go_num, by go_num, HLt.out, trivial⟩
        case measure => have := HLt.out; simp [intOf]; omega
      · rw [decide_eq_false he] at hcmp
        have HE := Lib.hid he
        clear he hx hA hcnt hc hcl hll hlt hk
        go_wp2_with fail
        go_roundw
        case rel => exact ⟨k + 1, by rw [HCnt.out, if_neg HE.out]; go_num, by go_num, HLt.out, trivial⟩
        case measure => have := HLt.out; simp [intOf]; omega
    · obtain rfl : k = L.length := by omega
      have q2 : ¬ (L.length : Int) < (L.length : Int) := by omega
      rw [List.take_length]
      clear hk hcl hll
      go_wp2_with fail
      go_ret
      exact ⟨rfl, rfl⟩

end Go.Proofs.YtpgigpajpcianaaGreatDoor
