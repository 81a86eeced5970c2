/- What the denotations of machines of lines have in common. -/
import Derived.Test.YtpgigpajpcianaaGreatDoorZMany
import Derived.Test.YtpgigpajpcianaaGreatDoorZSame
import Derived.Test.YtpgigpajpcianaaGreatDoorZDlines
import Derived.Test.YtpgigpajpcianaaGreatDoorZPA
import Derived.Outline
import Derived.Deep.RegionWith
namespace Go.Proofs.YtpgigpajpcianaaGreatDoor
open Go.RowKit

theorem cutL_lines : ∀ (r b : List UInt8), b.length ≤ 64 → (∀ l ∈ (cutL b r).1, l.length ≤ 64) ∧ (cutL b r).1.length ≤ r.length
  | [], b, h => by simp [cutL]
  | c :: r, b, h => by
    by_cases hc : c = 10
    · subst hc
      rw [cutL_end]
      obtain ⟨h1, h2⟩ := cutL_lines r [] (by simp)
      refine ⟨fun l hl => ?_, by simp; omega⟩
      rcases List.mem_cons.1 hl with rfl | hl
      · exact h
      · exact h1 l hl
    · by_cases hl : b.length = 64
      · rw [cutL_long b r c hc hl]
        simp
      · rw [cutL_put b r c hc hl]
        obtain ⟨h1, h2⟩ := cutL_lines r (b ++ [c]) (by simp; omega)
        exact ⟨h1, by simp; omega⟩
theorem readL_lines (x : List UInt8) (ended : Bool) (er : Int × Int × Int) : (∀ l ∈ (readL x ended er).1, l.length ≤ 64) ∧ (readL x ended er).1.length ≤ x.length + 1 := by
  obtain ⟨h1, h2⟩ := cutL_lines x [] (by simp)
  have h3 := cutL_le x [] (by simp)
  unfold readL
  rcases hc : cutL [] x with ⟨L, _ | d⟩
  · rw [hc] at h1 h2
    exact ⟨h1, by simp only at h2 ⊢; omega⟩
  · rw [hc] at h1 h2 h3
    have h4 := h3 d rfl
    simp only at h1 h2
    cases ended
    · simp only [Bool.false_eq_true, if_false]
      exact ⟨h1, by omega⟩
    · simp only [if_true]
      by_cases hd : d = []
      · simp only [if_pos hd, List.append_nil]
        exact ⟨h1, by omega⟩
      · simp only [if_neg hd]
        refine ⟨fun l hl => ?_, by simp; omega⟩
        rcases List.mem_append.1 hl with hl | hl
        · exact h1 l hl
        · rw [List.mem_singleton.1 hl]; exact h4
theorem putOuts_lines (L : Lines) (f : Nat → List UInt8) : putOuts f (L.map fun l => (0, l ++ [10])) 0 = f 0 ++ joinL L ∧ ∀ j, j ≠ 0 → putOuts f (L.map fun l => (0, l ++ [10])) j = f j := by
  induction L generalizing f with
  | nil => simp [putOuts, joinL]
  | cons l L ih =>
    obtain ⟨h1, h2⟩ := ih (fun i => if i = 0 then f i ++ (l ++ [10]) else f i)
    refine ⟨?_, fun j hj => ?_⟩
    · show putOuts _ (L.map _) 0 = _
      rw [h1]
      simp [joinL]
    · have := h2 j hj
      rw [if_neg hj] at this
      exact this
end Go.Proofs.YtpgigpajpcianaaGreatDoor
namespace Go.Proofs.YtpgigpajpcianaaGreatDoor
open Go.RowKit

theorem str_cmp {x y : List UInt8} {S T : ByteArray} (hS : strV x = .string S) (hT : strV y = .string T) : Op.bytesLess S.toList T.toList = Op.bytesLess x y ∧ (S.toList == T.toList) = decide (x = y) := by
  have e1 : S = ⟨x.toArray⟩ := (Value.string.inj hS).symm
  have e2 : T = ⟨y.toArray⟩ := (Value.string.inj hT).symm
  subst e1 e2
  refine ⟨?_, Pm.strV_eq x y⟩
  rw [show ∀ z : List UInt8, (⟨z.toArray⟩ : ByteArray).toList = z from fun z => by rw [ByteArray.toList_eq]]
  rw [show ∀ z : List UInt8, (⟨z.toArray⟩ : ByteArray).toList = z from fun z => by rw [ByteArray.toList_eq]]
end Go.Proofs.YtpgigpajpcianaaGreatDoor
