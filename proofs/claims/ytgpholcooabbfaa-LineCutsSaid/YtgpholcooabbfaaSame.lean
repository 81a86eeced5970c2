/- What same does of two lists that hold the same texts: true. -/
import Derived.Test.YtgpholcooabbfaaAll
namespace Go.Proofs.Ytgpholcooabbfaa
open Go.RowKit

/-- Nothing in memory has turned. -/
def Quiet (w w' : World) : Prop := ∃ n, w' = w.drewN n
def TrueQuietly (w : World) (e : Ending) (w' : World) : Prop := e = .returned (.bool true) ∧ Quiet w w'
theorem Quiet.below {w w' : World} (h : Quiet w w') (B : Nat) : Below B w w' := by
  obtain ⟨n, rfl⟩ := h
  exact ⟨rfl, rfl, rfl, Nat.le_refl _, fun _ _ => rfl⟩

set_option maxRecDepth 100000 in
set_option maxHeartbeats 400000 in
/-- THE CONTRACT. -/
theorem same_true {p q : Nat → Prop} (va vb : Value) (L : Lines) (w : World) (h63 : L.length ≤ 1000000000) (hA : IsTexts p w va L) (hB : IsTexts q w vb L) : Calls Try.prog 14 #[va, vb] w (TrueQuietly w) := by
  obtain ⟨a, ca, rfl, hA⟩ := hA
  obtain ⟨b, cb, rfl, hB⟩ := hB
  have HA := Lib.hid hA
  have HB := Lib.hid hB
  clear hA hB
  have g0 : ((L.length : Int) != (L.length : Int)) = false := by simp
  go_enter Try.func14, Try.ntmps14
  go_wp2
  go_loopw [5] (fun i wr => ∃ k q : Nat, k ≤ L.length ∧ i = .int .i64 k ∧ wr = w.drewN q) (fun i _ => L.length - (intOf i).toNat)
  case atStart => exact ⟨0, 0, Nat.zero_le _, rfl, rfl⟩
  case round =>
    obtain ⟨k, q, hk, rfl, rfl⟩ := hrel
    by_cases hlt : k < L.length
    · obtain ⟨s, hs⟩ : ∃ s, L[k]? = some s := ⟨L[k], by simp⟩
      obtain ⟨ga, oa, rfl, _, cA⟩ := HA.out k s hs
      obtain ⟨gb, ob, rfl, _, cB⟩ := HB.out k s hs
      obtain ⟨S, hS⟩ : ∃ S : ByteArray, strV s = .string S := ⟨_, rfl⟩
      rw [hS] at cA cB
      have g1 : (0 : Int) ≤ (k : Int) := by omega
      have g2 : (k : Int) < (L.length : Int) := by omega
      clear hs hS
      go_wp2
      go_quiet (fail)
      go_wp2
      go_roundw
      case rel => exact ⟨k + 1, _, by omega, by go_num, rfl⟩
      case measure => simp [intOf]; omega
    · have g2 : ¬ (k : Int) < (L.length : Int) := by omega
      clear hlt
      go_wp2
      go_ret
      exact ⟨rfl, q, rfl⟩

end Go.Proofs.Ytgpholcooabbfaa
