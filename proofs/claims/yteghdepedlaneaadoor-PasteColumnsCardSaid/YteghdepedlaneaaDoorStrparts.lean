/- Plainly: parts of a text. -/
import Derived.Test.YteghdepedlaneaaDoorDput
import Derived.Test.YteghdepedlaneaaDoorPA
namespace Go.Proofs.YteghdepedlaneaaDoor
open Go.RowKit

theorem extract_at (a : List UInt8) (i n : Nat) : (⟨a.toArray⟩ : ByteArray).extract i (i + n) = ⟨((a.drop i).take n).toArray⟩ := by
  apply ByteArray.ext
  simp [ByteArray.data_extract, List.take_drop]
theorem str_parts {u v : List UInt8} {SU SV : ByteArray} (hu : strV u = .string SU) (hv : strV (u ++ v) = .string SV) : SU.size ≤ SV.size ∧ ((SV.extract 0 SU.size).toList == SU.toList) = true ∧ strV v = .string (SV.extract SU.size SV.size) := by
  have e1 : SU = ⟨u.toArray⟩ := by injection hu with h; exact h.symm
  have e2 : SV = ⟨(u ++ v).toArray⟩ := by injection hv with h; exact h.symm
  have z1 : SU.size = u.length := by rw [e1]; rfl
  have z2 : SV.size = u.length + v.length := by rw [e2]; simp [ByteArray.size]
  refine ⟨by omega, ?_, ?_⟩
  · have h := extract_at (u ++ v) 0 u.length
    rw [Nat.zero_add] at h
    rw [z1, e2, h, e1, Pm.strV_eq]
    simp
  · rw [z1, z2, e2, extract_at]
    simp [strV]
/-- The first byte of a text, and what is behind it. -/
theorem str_head {c : UInt8} {r : List UInt8} {S : ByteArray} (h : strV (c :: r) = .string S) : S.size = r.length + 1 ∧ (∀ hz : 0 < S.size, S[0]'hz = c) ∧ strV r = .string (S.extract 1 S.size) := by
  have e1 : S = ⟨(c :: r).toArray⟩ := by injection h with h; exact h.symm
  have z : S.size = r.length + 1 := by rw [e1]; simp [ByteArray.size]
  refine ⟨z, ?_, ?_⟩
  · subst e1
    intro hz
    rfl
  · rw [z, e1, show r.length + 1 = 1 + r.length by omega, extract_at]
    simp [strV]

end Go.Proofs.YteghdepedlaneaaDoor
