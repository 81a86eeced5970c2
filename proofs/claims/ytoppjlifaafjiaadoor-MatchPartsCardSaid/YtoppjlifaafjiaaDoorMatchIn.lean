/- The document's search for a text in a line. -/
import Derived.Test.YtoppjlifaafjiaaDoorContains
import Derived.Test.YtoppjlifaafjiaaDoorStrparts
import Derived.Test.YtoppjlifaafjiaaDoorGbegins
import Derived.Lib.IndexMore
import Derived.Outline
namespace Go.Proofs.YtoppjlifaafjiaaDoor
open Go.RowKit

theorem hasB_at {x A : List UInt8} {i : Nat} (hi : i ≤ x.length) (h : Lib.occAt x A i = true) : hasB x A = true := by
  unfold hasB Lib.contains
  rcases Lib.index_spec x A with ⟨-, h2⟩ | ⟨k, h1, -⟩
  · rw [h2 i hi] at h
    cases h
  · rw [h1]
    simp
theorem hasB_none {x A : List UInt8} (h : ∀ i, i + A.length ≤ x.length → Lib.occAt x A i = false) : hasB x A = false := by
  unfold hasB Lib.contains
  rcases Lib.index_spec x A with ⟨h1, -⟩ | ⟨k, -, hk, h3, -⟩
  · rw [h1]
    rfl
  · have hr : k + A.length ≤ x.length := by
      rcases Lib.occAt_room h3 with h | h
      · exact h
      · subst h
        simpa using hk
    rw [h k hr] at h3
    cases h3
set_option maxRecDepth 100000 in
set_option maxHeartbeats 2000000 in
theorem in_any (x A : List UInt8) (w : World) (hx : x.length ≤ 1000000) (hA : A.length ≤ 1000000) : Calls Tryd.prog 34 #[strV x, strV A] w (Says w (.bool (hasB x A))) := by
  obtain ⟨S, hS⟩ : ∃ S : ByteArray, strV x = .string S := ⟨_, rfl⟩
  obtain ⟨SA, hSA⟩ : ∃ S : ByteArray, strV A = .string S := ⟨_, rfl⟩
  have z1 := strV_size hS
  have z2 := strV_size hSA
  have he : ∀ i, i + A.length ≤ x.length → ((S.extract i (i + SA.size)).toList == SA.toList) = Lib.occAt x A i := fun i hi => by
    have e1 : (⟨x.toArray⟩ : ByteArray) = S := by injection hS
    have e2 : (⟨A.toArray⟩ : ByteArray) = SA := by injection hSA
    rw [z2, ← e1, extract_at, ← e2, Pm.strV_eq, Lib.occAt_iff_take _ _ _ hi]
    by_cases h : (x.drop i).take A.length = A <;> simp [h]
  rw [hS, hSA]
  have HE := Lib.hid he
  clear he hS hSA
  go_enter Tryd.func34, Tryd.ntmps34
  go_wp2_with fail
  go_loop [5] (fun v => ∃ j : Nat, v = .int .i64 j ∧ j ≤ x.length + 1 ∧ ∀ i, i < j → i + A.length ≤ x.length → Lib.occAt x A i = false) (fun v => x.length + 1 - (intOf v).toNat)
  case atStart => exact ⟨0, rfl, by omega, fun i hi => by omega⟩
  case round =>
    obtain ⟨j, rfl, hj, hn⟩ := hrel
    have HN := Lib.hid hn
    clear hn
    by_cases hlt : j + A.length ≤ x.length
    · have q1 : (j : Int) + (A.length : Int) ≤ (x.length : Int) := by omega
      have h := HE.out j hlt
      rw [z2] at h
      cases hb : Lib.occAt x A j with
      | true =>
        rw [hb] at h
        have HBB := Lib.hid hb
        clear hb
        go_wp2
        go_ret
        exact ⟨by rw [hasB_at (by omega) HBB.out]; rfl, rfl⟩
      | false =>
        rw [hb] at h
        have HBB := Lib.hid hb
        clear hb
        go_wp2
        refine ⟨⟨j + 1, by go_num, by omega, fun i hi hx => ?_⟩, by simp [intOf]; omega⟩
        rcases Nat.lt_succ_iff_lt_or_eq.1 hi with hi | rfl
        · exact HN.out i hi hx
        · exact HBB.out
    · have q1 : ¬ (j : Int) + (A.length : Int) ≤ (x.length : Int) := by omega
      go_wp2
      go_ret
      exact ⟨by rw [hasB_none (fun i hi => HN.out i (by omega) hi)]; rfl, rfl⟩

end Go.Proofs.YtoppjlifaafjiaaDoor
