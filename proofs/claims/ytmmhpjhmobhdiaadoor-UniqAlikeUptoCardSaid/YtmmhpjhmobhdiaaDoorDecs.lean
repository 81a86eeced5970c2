/- Plainly: numbers that are read digit by digit; parts of a text. -/
import Derived.Test.YtmmhpjhmobhdiaaDoorStrparts
import Derived.Lib.ItoaLen
namespace Go.Proofs.YtmmhpjhmobhdiaaDoor
open Go.RowKit

/-- How many bytes a text has. -/
def strLen : Value → Nat
  | .string S => S.size
  | _ => 0

/-! Numbers. -/
def valD (l : List UInt8) : Nat := l.foldl (fun n c => n * 10 + (c.toNat - 48)) 0
theorem valD_snoc (l : List UInt8) (c : UInt8) : valD (l ++ [c]) = valD l * 10 + (c.toNat - 48) := by simp [valD]
theorem valD_le (l : List UInt8) : ∀ r : List UInt8, valD l ≤ valD (l ++ r) := by
  intro r
  induction r generalizing l with
  | nil => simp
  | cons c r ih =>
    have h := ih (l ++ [c])
    rw [valD_snoc, List.append_assoc] at h
    have h2 : l ++ c :: r = l ++ ([c] ++ r) := by simp
    rw [h2]
    omega
theorem digits_all : ∀ (m : Nat), ∀ c ∈ Lib.decDigits m, 48 ≤ c.toNat ∧ c.toNat ≤ 57 := by
  intro m
  induction m using Nat.strongRecOn with
  | _ m ih =>
    intro c hc
    rw [Lib.decDigits] at hc
    have hd : ∀ k, k < 10 → (UInt8.ofNat (48 + k)).toNat = 48 + k := fun k hk => by simp [UInt8.toNat_ofNat']; omega
    split at hc
    · rename_i h
      rw [List.mem_singleton.1 hc, hd m h]
      omega
    · rcases List.mem_append.1 hc with hc | hc
      · exact ih (m / 10) (by omega) c hc
      · rw [List.mem_singleton.1 hc, hd _ (Nat.mod_lt _ (by decide))]
        have := Nat.mod_lt m (y := 10) (by decide)
        omega
theorem digits_val : ∀ (m : Nat), valD (Lib.decDigits m) = m := by
  intro m
  induction m using Nat.strongRecOn with
  | _ m ih =>
    rw [Lib.decDigits]
    have hd : ∀ k, k < 10 → (UInt8.ofNat (48 + k)).toNat = 48 + k := fun k hk => by simp [UInt8.toNat_ofNat']; omega
    split
    · rename_i h
      have := hd m h
      simp only [valD, List.foldl_cons, List.foldl_nil, this]
      omega
    · rw [valD_snoc, ih (m / 10) (by omega), hd _ (Nat.mod_lt _ (by decide))]
      omega
theorem digits_some (m : Nat) : Lib.decDigits m ≠ [] := by
  rw [Lib.decDigits]
  split <;> simp

/-- Of a number from 1 on the first digit is not 0. -/
theorem digits_first : ∀ (m : Nat), 1 ≤ m → ∀ c, (Lib.decDigits m)[0]? = some c → c.toNat ≠ 48 := by
  intro m
  induction m using Nat.strongRecOn with
  | _ m ih =>
    intro hm c hc
    rw [Lib.decDigits] at hc
    have hd : ∀ k, k < 10 → (UInt8.ofNat (48 + k)).toNat = 48 + k := fun k hk => by simp [UInt8.toNat_ofNat']; omega
    split at hc
    · rename_i h
      simp only [List.getElem?_cons_zero, Option.some.injEq] at hc
      rw [← hc, hd m h]
      omega
    · rename_i h
      have hne := digits_some (m / 10)
      rw [List.getElem?_append_left (by cases h2 : Lib.decDigits (m / 10) with | nil => exact absurd h2 hne | cons a r => simp)] at hc
      exact ih (m / 10) (by omega) (by omega) c hc
theorem digits_one {m : Nat} (h : m < 10) : (Lib.decDigits m).length = 1 := by
  rw [Lib.decDigits, dif_pos h]
  rfl
theorem digits_le : ∀ (k m : Nat), m < 10 ^ (k + 1) → (Lib.decDigits m).length ≤ k + 1
  | 0, m, h => by
    rw [digits_one (by simpa using h)]
    exact Nat.le_refl _
  | k + 1, m, h => by
    rw [Lib.decDigits]
    split
    · simp
    · have := digits_le k (m / 10) (by rw [Nat.div_lt_iff_lt_mul (by decide)]; rwa [Nat.pow_succ] at h)
      simp only [List.length_append, List.length_cons, List.length_nil]
      omega
/-- A byte of a text. -/
theorem str_at {x : List UInt8} {S : ByteArray} {j : Nat} {c : UInt8} (h : strV x = .string S) (hj : x[j]? = some c) : j < S.size ∧ ∀ hz : j < S.size, S[j]'hz = c := by
  have e1 : S = ⟨x.toArray⟩ := by injection h with h; exact h.symm
  obtain ⟨h1, h2⟩ := List.getElem?_eq_some_iff.1 hj
  subst e1
  exact ⟨h1, fun hz => h2⟩
/-- What stands within a text, and what is behind it. -/
theorem str_mid {a b r : List UInt8} {S SB : ByteArray} (h : strV (a ++ (b ++ r)) = .string S) (hb : strV b = .string SB) :
    a.length + SB.size ≤ S.size ∧ ((S.extract a.length (a.length + SB.size)).toList == SB.toList) = true ∧ strV r = .string (S.extract (a.length + SB.size) S.size) := by
  have e1 : S = ⟨(a ++ (b ++ r)).toArray⟩ := by injection h with h; exact h.symm
  have e2 : SB = ⟨b.toArray⟩ := by injection hb with h; exact h.symm
  have z2 : SB.size = b.length := by rw [e2]; rfl
  have z1 : S.size = a.length + b.length + r.length := by rw [e1]; simp [ByteArray.size]; omega
  refine ⟨by omega, ?_, ?_⟩
  · rw [z2, e1, extract_at, e2, Pm.strV_eq]
    simp
  · rw [z1, z2, e1, extract_at, ← List.append_assoc, show a.length + b.length = (a ++ b).length by simp, List.drop_left, List.take_length]
    rfl

end Go.Proofs.YtmmhpjhmobhdiaaDoor
