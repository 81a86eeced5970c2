/- Plainly: which fields of a line are told. -/
import Derived.Test.YtgcnkagieedebaaDoorSplit
import Derived.Laws.BitsAllLaws
namespace Go.Proofs.YtgcnkagieedebaaDoor
open Go.RowKit

/-- Those whose places are bits of N. -/
def pickF (N : Nat) : Nat → Lines → Lines
  | _, [] => []
  | i, l :: r => if N.testBit i then l :: pickF N (i + 1) r else pickF N (i + 1) r
theorem pickF_snoc (N : Nat) (l : List UInt8) : ∀ (L : Lines) (i : Nat), pickF N i (L ++ [l]) = if N.testBit (i + L.length) then pickF N i L ++ [l] else pickF N i L
  | [], i => by simp [pickF]
  | x :: L, i => by
    rw [List.cons_append, pickF, pickF, pickF_snoc N l L (i + 1), List.length_cons, show i + 1 + L.length = i + (L.length + 1) by omega]
    by_cases h1 : N.testBit i <;> by_cases h2 : N.testBit (i + (L.length + 1)) <;> simp [h1, h2]
theorem pickF_take {N : Nat} {L : Lines} {k : Nat} {l : List UInt8} (h : L[k]? = some l) : pickF N 0 (L.take (k + 1)) = if N.testBit k then pickF N 0 (L.take k) ++ [l] else pickF N 0 (L.take k) := by
  obtain ⟨h1, h2⟩ := List.getElem?_eq_some_iff.1 h
  rw [List.take_succ_eq_append_getElem h1, h2, pickF_snoc, List.length_take, Nat.zero_add, Nat.min_eq_left (by omega)]
theorem pickF_len (N : Nat) : ∀ (L : Lines) (i : Nat), (pickF N i L).length ≤ L.length
  | [], _ => Nat.le_refl _
  | l :: r, i => by
    have := pickF_len N r (i + 1)
    rw [pickF]
    split <;> simp <;> omega
theorem pickF_high {N : Nat} (hN : N ≤ 65535) : ∀ (L : Lines) (i : Nat), 16 ≤ i → pickF N i L = []
  | [], _, _ => rfl
  | l :: r, i, h => by
    have hb : N.testBit i = false := Nat.testBit_lt_two_pow (Nat.lt_of_lt_of_le (Nat.lt_succ_of_le hN) (Nat.pow_le_pow_right (n := 2) (by decide) h))
    rw [pickF, hb, pickF_high hN r (i + 1) (by omega)]
    rfl
theorem pickF_more {N : Nat} (hN : N ≤ 65535) : ∀ (L : Lines) (i k : Nat), 16 ≤ i + k → pickF N i (L.take k) = pickF N i L
  | [], i, k, _ => by simp
  | l :: r, i, 0, h => by rw [pickF_high hN (l :: r) i (by omega)]; rfl
  | l :: r, i, k + 1, h => by rw [List.take_succ_cons, pickF, pickF, pickF_more hN r (i + 1) k (by omega)]

theorem joinTail_snoc (s y : List UInt8) (r : Lines) : Lib.joinTail s (r ++ [y]) = Lib.joinTail s r ++ (s ++ y) := by simp [Lib.joinTail]
theorem joinBy_snoc (s y : List UInt8) (r : Lines) : Lib.join (r ++ [y]) s = if r = [] then y else Lib.join r s ++ (s ++ y) := by
  cases r with
  | nil => simp [Lib.join_one]
  | cons x r => rw [List.cons_append, Lib.join_cons, joinTail_snoc, Lib.join_cons, if_neg (by simp), List.append_assoc]
/-- How long joined texts are: no longer than with a text more. -/
def lenJ (s : List UInt8) (L : Lines) : Nat := (L.map fun l => l.length + s.length).sum
theorem lenJ_join (s : List UInt8) : ∀ L : Lines, (Lib.join L s).length + s.length = if L = [] then s.length else lenJ s L
  | [] => by simp [Lib.join_nil]
  | x :: r => by
    have h : ∀ r : Lines, (Lib.joinTail s r).length = lenJ s r := fun r => by
      induction r with
      | nil => rfl
      | cons y r ih =>
        simp only [Lib.joinTail, lenJ, List.map_cons, List.flatten_cons, List.length_append, List.sum_cons] at ih ⊢
        omega
    rw [Lib.join_cons, List.length_append, h, if_neg (by simp)]
    simp only [lenJ, List.map_cons, List.sum_cons]
    omega
theorem lenJ_pick (N : Nat) (s : List UInt8) : ∀ (L : Lines) (i : Nat), lenJ s (pickF N i L) ≤ lenJ s L
  | [], _ => Nat.le_refl _
  | l :: r, i => by
    have := lenJ_pick N s r (i + 1)
    rw [pickF]
    simp only [lenJ] at this ⊢
    split <;> simp <;> omega
theorem pick_join_le (N : Nat) (s : List UInt8) (L : Lines) (i : Nat) : (Lib.join (pickF N i L) s).length ≤ (Lib.join L s).length := by
  have h1 := lenJ_join s (pickF N i L)
  have h2 := lenJ_join s L
  have h3 := lenJ_pick N s L i
  by_cases hp : pickF N i L = []
  · rw [if_pos hp] at h1
    omega
  · have hL : L ≠ [] := fun e => hp (by subst e; rfl)
    rw [if_neg hp] at h1
    rw [if_neg hL] at h2
    omega
theorem partsL_ne (a : UInt8) (x : List UInt8) : partsL a x ≠ [] := fun e => by
  have := partsL_len a x
  rw [e] at this
  simp at this
theorem join_partsL (a : UInt8) : ∀ x : List UInt8, Lib.join (partsL a x) [a] = x
  | [] => rfl
  | c :: r => by
    have ih := join_partsL a r
    obtain ⟨h, t, hp⟩ : ∃ h t, partsL a r = h :: t := by
      cases hp : partsL a r with
      | nil => exact absurd hp (partsL_ne a r)
      | cons h t => exact ⟨h, t, rfl⟩
    rw [hp, Lib.join_cons] at ih
    by_cases hc : c = a
    · subst hc
      rw [partsL_same, hp, Lib.join_cons]
      have : Lib.joinTail [c] (h :: t) = c :: (h ++ Lib.joinTail [c] t) := by simp [Lib.joinTail]
      rw [this, ih]
      rfl
    · rw [partsL_other hc, hp, consL, Lib.join_cons, List.cons_append, ih]
/-- What comes of a line. -/
def lineF (N : Nat) (A x : List UInt8) : List UInt8 := if hasB x A then Lib.join (pickF N 0 (partsL (A.headD 0) x)) A else x
theorem lineF_le (N : Nat) (a : UInt8) (x : List UInt8) : (lineF N [a] x).length ≤ x.length := by
  unfold lineF
  split
  · have h := pick_join_le N [a] (partsL a x) 0
    rw [join_partsL] at h
    exact h
  · exact Nat.le_refl _

/-! The bits of N, as the program and the document ask for them. -/
def shlV (j : Nat) : Int := IntKind.wrap .i64 (1 * 2 ^ min j 64)
theorem shlV_nat (j : Nat) (hj : j ≤ 64) : (BitVec.ofInt 64 (shlV j)).toNat = 2 ^ j % 2 ^ 64 := by
  have hm : min j 64 = j := Nat.min_eq_left hj
  have hp : (1 : Int) * 2 ^ j = ((2 ^ j : Nat) : Int) := by push_cast; omega
  have hq : 2 ^ j ≤ 2 ^ 64 := Nat.pow_le_pow_right (n := 2) (by decide) hj
  unfold shlV
  rw [hm, hp, BitVec.toNat_ofInt]
  simp only [IntKind.wrap, IntKind.bits, IntKind.signed]
  generalize 2 ^ j = p at hq ⊢
  simp
  omega
theorem bit_and {N j : Nat} (hN : N ≤ 65535) (hj : j ≤ 64) : (bits .and .i64 (N : Int) (shlV j) != 0) = N.testBit j := by
  have h1 : bits .and .i64 (N : Int) (shlV j) = IntKind.i64.wrap ((N &&& 2 ^ j % 2 ^ 64 : Nat) : Int) := by
    show IntKind.i64.wrap ((BitVec.ofInt 64 (N : Int) &&& BitVec.ofInt 64 (shlV j)).toNat : Int) = _
    rw [BitVec.toNat_and, ofInt_u64 N (by omega), shlV_nat j hj]
  rw [h1]
  by_cases h64 : j = 64
  · subst h64
    have hb : N.testBit 64 = false := Nat.testBit_lt_two_pow (Nat.lt_of_le_of_lt hN (by decide))
    rw [hb]
    simp [IntKind.wrap, IntKind.bits, IntKind.signed]
  · have hlt : 2 ^ j < 2 ^ 64 := Nat.pow_lt_pow_right (by decide) (by omega)
    rw [Nat.mod_eq_of_lt hlt, nat_bit]
    rw [Nat.testBit_eq_decide_div_mod_eq]
    by_cases hb : N / 2 ^ j % 2 = 1
    · have h16 : j < 16 := by
        apply Nat.lt_of_not_le
        intro h16
        have h2 : 2 ^ 16 ≤ 2 ^ j := Nat.pow_le_pow_right (n := 2) (by decide) h16
        have : N / 2 ^ j = 0 := Nat.div_eq_of_lt (by omega)
        rw [this] at hb
        cases hb
      have h2 : 2 ^ j ≤ 2 ^ 16 := Nat.pow_le_pow_right (n := 2) (by decide) (by omega)
      have h0 : 0 < 2 ^ j := Nat.two_pow_pos j
      rw [hb]
      simp only [IntKind.wrap, IntKind.bits, IntKind.signed]
      generalize 2 ^ j = p at h2 h0 ⊢
      simp
      omega
    · have h0 : N / 2 ^ j % 2 = 0 := by omega
      rw [h0]
      simp [IntKind.wrap, IntKind.bits, IntKind.signed]
theorem bit_div (N j : Nat) : (Int.tmod ((N : Int) / 2 ^ j) 2 == 0) = !(N.testBit j) := by
  rw [Nat.testBit_eq_decide_div_mod_eq]
  have h : ((N : Int) / 2 ^ j) = ((N / 2 ^ j : Nat) : Int) := by push_cast; rfl
  rw [h]
  generalize N / 2 ^ j = q
  have h2 : Int.tmod (q : Int) 2 = ((q % 2 : Nat) : Int) := by rw [Int.tmod_eq_emod_of_nonneg (by omega)]; omega
  rw [h2]
  rcases Nat.mod_two_eq_zero_or_one q with h | h <;> rw [h] <;> rfl

end Go.Proofs.YtgcnkagieedebaaDoor
