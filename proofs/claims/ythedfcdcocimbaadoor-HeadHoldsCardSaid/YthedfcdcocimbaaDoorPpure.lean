/- What follows of the table, plainly. -/
import Derived.Test.YthedfcdcocimbaaDoorPmodel
namespace Go.Proofs.YthedfcdcocimbaaDoor.Pm

theorem check_zero {k n : Int} {A B : List UInt8} (h : checkE k n A B = 0) : ∃ K : Nat, k = K ∧ 1 ≤ K ∧ K ≤ 16 ∧ (kindOf K).least ≤ n ∧ n ≤ (kindOf K).most ∧ tooMuch (kindOf K) n = false := by
  unfold checkE at h
  split at h
  · cases h
  · split at h
    · cases h
    · split at h
      · cases h
      · rename_i h1 h2 h3
        refine ⟨k.toNat, by omega, by omega, by omega, ?_, ?_, by simpa using h3⟩
        · simp [fits] at h2; exact h2.1
        · simp [fits] at h2; exact h2.2.1

/-- What may be holds from 0 to 2048 bytes, and N is not below 0. -/
theorem kind_range (K : Nat) (h1 : 1 ≤ K) (h16 : K ≤ 16) (n : Int) (hl : (kindOf K).least ≤ n) (hm : n ≤ (kindOf K).most) (ht : tooMuch (kindOf K) n = false) :
    0 ≤ n ∧ 0 ≤ (kindOf K).each * n ∧ (kindOf K).holds + (kindOf K).each * n ≤ 2048 ∧ 0 ≤ portsE (kindOf K).ins n ∧ portsE (kindOf K).ins n ≤ 4 ∧ 0 ≤ portsE (kindOf K).outs n ∧ portsE (kindOf K).outs n ≤ 4 ∧ portsE (kindOf K).ins n + portsE (kindOf K).outs n ≠ 0 := by
  obtain rfl | rfl | rfl | rfl | rfl | rfl | rfl | rfl | rfl | rfl | rfl | rfl | rfl | rfl | rfl | rfl : K = 1 ∨ K = 2 ∨ K = 3 ∨ K = 4 ∨ K = 5 ∨ K = 6 ∨ K = 7 ∨ K = 8 ∨ K = 9 ∨ K = 10 ∨ K = 11 ∨ K = 12 ∨ K = 13 ∨ K = 14 ∨ K = 15 ∨ K = 16 := by omega
  all_goals simp [kindOf, kinds, tooMuch, portsE] at hl hm ht ⊢
  all_goals omega

theorem each_nonneg : ∀ K : Nat, K ≤ 16 → 0 ≤ (kindOf K).each := by decide

theorem ins_of {k n : Int} {A B : List UInt8} (h : checkE k n A B ≠ 0) : insE k n A B = 0 ∧ outsE k n A B = 0 ∧ boundE k n A B = 0 := ⟨by rw [insE, if_neg h], by rw [outsE, if_neg h], by rw [boundE, if_neg h]⟩

end Go.Proofs.YthedfcdcocimbaaDoor.Pm
