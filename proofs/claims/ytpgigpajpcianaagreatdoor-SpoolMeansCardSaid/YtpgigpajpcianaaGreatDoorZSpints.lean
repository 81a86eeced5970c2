/- The law's ints: of lists that are the same. -/
import Derived.Test.YtpgigpajpcianaaGreatDoorZGheavy
namespace Go.Proofs.YtpgigpajpcianaaGreatDoor
open Go.RowKit

set_option maxRecDepth 100000 in
set_option maxHeartbeats 1000000 in
theorem intsSp_any {p q : Nat → Prop} (va vb : Value) (L : List Int) (w : World) (hA : IsInts p w va L) (hB : IsInts q w vb L) (hl : L.length ≤ 1000000) :
    Calls Tryz.prog 21 #[va, vb] w fun e w' => e = .returned (.bool true) ∧ Below w.heap.size w w' := by
  obtain ⟨aa, ca, rfl, ha⟩ := hA
  obtain ⟨ab, cb, rfl, hb⟩ := hB
  have HA := Lib.hid ha
  have HB := Lib.hid hb
  have HL := Lib.hid hl
  clear ha hb hl
  go_enter Tryz.func21, Tryz.ntmps21
  go_wp2_with fail
  go_loopw [5] (fun i wr => ∃ k : Nat, k ≤ L.length ∧ i = .int .i64 k ∧ Below w.heap.size w wr) (fun i _ => L.length - (intOf i).toNat)
  case atStart => exact ⟨0, Nat.zero_le _, rfl, Below.refl _ _⟩
  case round =>
    obtain ⟨k, hk, rfl, hbe⟩ := hrel
    by_cases hlt : k < L.length
    · obtain ⟨x, hx⟩ : ∃ x, L[k]? = some x := ⟨L[k], by simp⟩
      obtain ⟨ga, oa, rfl, -, ha⟩ := HA.out k x hx
      obtain ⟨gb, ob, rfl, -, hb⟩ := HB.out k x hx
      have ha2 : wr.cell? ⟨ga, oa + k, none⟩ = some (.int .i64 x) := by rw [hbe.cell (block_lt_of_cell ha)]; exact ha
      have hb2 : wr.cell? ⟨gb, ob + k, none⟩ = some (.int .i64 x) := by rw [hbe.cell (block_lt_of_cell hb)]; exact hb
      have q1 : (0 : Int) ≤ (k : Int) := by omega
      have q2 : (k : Int) < (L.length : Int) := by omega
      have q3 : (k : Int) ≤ 1000000 := by have := HL.out; omega
      have HBE := Lib.hid hbe
      have HLT := Lib.hid hlt
      clear hx ha hb hbe hlt hk
      go_wp2_with fail
      go_region
      go_wp2_with fail
      exact ⟨⟨k + 1, HLT.out, by go_num, HBE.out.trans (Below.drew (Below.refl _ _))⟩, by have := HLT.out; simp [intOf]; omega⟩
    · have q2 : ¬ (k : Int) < (L.length : Int) := by omega
      have HBE := Lib.hid hbe
      clear hbe hlt hk
      go_wp2_with fail
      go_ret
      exact ⟨rfl, HBE.out⟩
end Go.Proofs.YtpgigpajpcianaaGreatDoor
