/- Plainly: number. -/
import Derived.Test.YtmdmcmdchjlmiaaDoorRB
import Derived.Test.YtmdmcmdchjlmiaaDoorDone
import Derived.Lib.ItoaLen
namespace Go.Proofs.YtmdmcmdchjlmiaaDoor
open Go.RowKit

/-- A line behind its number. -/
def numL (n : Nat) (x : List UInt8) : List UInt8 := Lib.decDigits n ++ 32 :: x
/-- Lines, numbered from n on. -/
def numsL : Nat → Lines → Lines
  | _, [] => []
  | n, l :: r => numL n l :: numsL (n + 1) r
theorem numsL_append : ∀ (L M : Lines) (n : Nat), numsL n (L ++ M) = numsL n L ++ numsL (n + L.length) M
  | [], M, n => by simp [numsL]
  | l :: r, M, n => by
    rw [List.cons_append, numsL, numsL, numsL_append r M (n + 1), List.length_cons, show n + 1 + r.length = n + (r.length + 1) by omega]
    rfl
theorem numsL_take {n : Nat} {L : Lines} {k : Nat} {l : List UInt8} (h : L[k]? = some l) : numsL n (L.take (k + 1)) = numsL n (L.take k) ++ [numL (n + k) l] := by
  have hk := (List.getElem?_eq_some_iff.1 h).1
  rw [take_snoc h, numsL_append, List.length_take, Nat.min_eq_left (by omega)]
  rfl
theorem numsL_length : ∀ (L : Lines) (n : Nat), (numsL n L).length = L.length
  | [], _ => rfl
  | l :: r, n => by rw [numsL, List.length_cons, List.length_cons, numsL_length r]
theorem num_digits {m : Nat} (h : m ≤ 9000000000000000000) : (Lib.decDigits m).length ≤ 21 := by
  have := Lib.itoa_length_le (m : Int) (by omega) (by omega)
  rwa [Lib.itoa_nonneg] at this
theorem numL_len {n : Nat} {x : List UInt8} (h : n ≤ 9000000000000000000) : (numL n x).length ≤ x.length + 22 := by
  have := num_digits h
  unfold numL
  simp
  omega
theorem joinL_nums : ∀ (L : Lines) (n : Nat), n + L.length ≤ 9000000000000000000 → (joinL (numsL n L)).length ≤ (joinL L).length + 22 * L.length
  | [], _, _ => by simp [joinL, numsL]
  | l :: r, n, h => by
    simp only [List.length_cons] at h
    have h1 := joinL_nums r (n + 1) (by omega)
    have h2 := numL_len (n := n) (x := l) (by omega)
    rw [numsL]
    simp only [joinL, List.flatMap_cons, List.length_append, List.length_cons, List.length_nil] at h1 ⊢
    omega

/-- What number tells of a line: the number is kept as it rises; told as 64 bits hold it. -/
def numberT : Teller Int := fun u x => (u + 1, [(0, (Lib.itoa (wrap64 u) ++ 32 :: x) ++ [10])], false)
theorem num_wrap (n : Int) : -9223372036854775808 ≤ wrap64 n ∧ wrap64 n ≤ 9223372036854775807 := by
  unfold wrap64
  omega
theorem num_wrap_id {n : Int} (h0 : -9223372036854775808 ≤ n) (h1 : n ≤ 9223372036854775807) : wrap64 n = n := by
  unfold wrap64
  omega
theorem num_wrap_up (n : Int) : wrap64 (wrap64 n + 1) = wrap64 (n + 1) := by
  unfold wrap64
  omega
theorem number_outs (u : Int) (x : List UInt8) : LineOuts (numberT u x).2.1 (x.length + 23) := by
  have := Lib.itoa_length_le (wrap64 u) (num_wrap u).1 (num_wrap u).2
  exact (LineOuts.one _).mono (by simp; omega)
theorem number_feedOuts : ∀ (x : List UInt8) (s : LS Int), LineOuts (feedB numberT x s).2.1 (s.b.length + 24 * x.length)
  | [], s => LineOuts.nil _
  | c :: r, s => by
    by_cases hl : s.live = true
    · by_cases hc : c = 10
      · subst hc
        rw [feedB_end numberT r s hl]
        refine ((number_outs s.u s.b).append (number_feedOuts r _)).mono ?_
        simp
        omega
      · by_cases h64 : s.b.length = 64
        · rw [feedB_long numberT c r s hl hc h64]
          exact LineOuts.nil _
        · rw [feedB_put numberT c r s hl hc h64]
          refine (number_feedOuts r _).mono ?_
          simp
          omega
    · rw [feedB_dead numberT _ s (by simpa using hl)]
      exact LineOuts.nil _
theorem number_endOuts (s : LS Int) : LineOuts (endB numberT s).2.1 (s.b.length + 23) := by
  unfold endB
  split
  · exact LineOuts.nil _
  · exact number_outs _ _
/-- The lines come out numbered. -/
theorem runT_number : ∀ (L : Lines) (n : Nat), n + L.length ≤ 9000000000000000000 → (runT numberT (n : Int) L).2 = (numsL n L).map fun l => (0, l ++ [10])
  | [], _, _ => rfl
  | l :: r, n, h => by
    simp only [List.length_cons] at h
    have ih := runT_number r (n + 1) (by omega)
    rw [runT]
    simp only
    have h1 : (numberT (n : Int) l).1 = ((n + 1 : Nat) : Int) := by show (n : Int) + 1 = _; omega
    have h2 : (numberT (n : Int) l).2.1 = [(0, numL n l ++ [10])] := by
      show [(0, (Lib.itoa (wrap64 (n : Int)) ++ 32 :: l) ++ [10])] = _
      rw [num_wrap_id (by omega) (by omega), Lib.itoa_nonneg]
      rfl
    rw [h1, h2, ih]
    rfl

end Go.Proofs.YtmdmcmdchjlmiaaDoor
