/- What UniqAlike asks: the groups' lines, and numbers that are read digit by digit. -/
import Derived.Test.YtmmhpjhmobhdiaaDoorUqD
import Derived.Test.YtmmhpjhmobhdiaaDoorUniqLines
import Derived.Test.YtmmhpjhmobhdiaaDoorUniqTold
import Derived.Test.YtmmhpjhmobhdiaaDoorUniqHeavy
import Derived.Test.YtmmhpjhmobhdiaaDoorTakeskit
import Derived.Test.YtmmhpjhmobhdiaaDoorJoinback
import Derived.Test.YtmmhpjhmobhdiaaDoorStrparts
import Derived.Test.YtmmhpjhmobhdiaaDoorDecs
namespace Go.Proofs.YtmmhpjhmobhdiaaDoor
open Go.RowKit

/-! The first lines of groups. -/
def firstsL : Lines → Lines
  | [] => []
  | x :: r => x :: firstsL (r.drop (runLen x r))
termination_by L => L.length
decreasing_by simp; omega
theorem firstsL_mem : ∀ (L : Lines) {l : List UInt8}, l ∈ firstsL L → l ∈ L
  | [], l, h => by rw [firstsL] at h; exact h
  | x :: r, l, h => by
    rw [firstsL] at h
    rcases List.mem_cons.1 h with rfl | h
    · exact List.mem_cons_self
    · exact List.mem_cons_of_mem _ (List.mem_of_mem_drop (firstsL_mem (r.drop (runLen x r)) h))
termination_by L => L.length
decreasing_by simp; omega
theorem firstsL_len : ∀ L : Lines, (firstsL L).length ≤ L.length
  | [] => by simp [firstsL]
  | x :: r => by
    have := firstsL_len (r.drop (runLen x r))
    rw [firstsL]
    simp only [List.length_cons, List.length_drop] at this ⊢
    omega
termination_by L => L.length
decreasing_by simp; omega
theorem docS_firsts (all : Bool) : ∀ L : Lines, docS false all L = joinL (firstsL L)
  | [] => by simp [docS, firstsL, joinL]
  | x :: r => by
    rw [docS, firstsL, docS_firsts all (r.drop (runLen x r))]
    simp [groupS, joinL]
termination_by L => L.length
decreasing_by simp; omega
/-- The group that begins at line q, and what is behind it. -/
theorem group_at {L : Lines} {q : Nat} (hq : q < L.length) : ∃ x m, L[q]? = some x ∧ 1 ≤ m ∧ q + m ≤ L.length ∧ (∀ k, k < m → L[q + k]? = some x) ∧ L[q + m]? ≠ some x ∧
    firstsL (L.drop q) = x :: firstsL (L.drop (q + m)) ∧ docS true true (L.drop q) = Lib.decDigits m ++ (32 :: x ++ [10]) ++ docS true true (L.drop (q + m)) := by
  have hd := List.drop_eq_getElem_cons hq
  have hr := runLen_le L[q] (L.drop (q + 1))
  rw [List.length_drop] at hr
  refine ⟨L[q], runLen L[q] (L.drop (q + 1)) + 1, List.getElem?_eq_getElem hq, by omega, by omega, fun k hk => ?_, ?_, ?_, ?_⟩
  · cases k with
    | zero => exact List.getElem?_eq_getElem hq
    | succ k =>
      have := runLen_all L[q] (L.drop (q + 1)) k (by omega)
      rw [List.getElem?_drop, show q + 1 + k = q + (k + 1) by omega] at this
      exact this
  · have := runLen_stop L[q] (L.drop (q + 1))
    rw [List.getElem?_drop, show q + 1 + runLen L[q] (L.drop (q + 1)) = q + (runLen L[q] (L.drop (q + 1)) + 1) by omega] at this
    exact this
  · rw [hd, firstsL, List.drop_drop, show q + 1 + runLen L[q] (L.drop (q + 1)) = q + (runLen L[q] (L.drop (q + 1)) + 1) by omega]
  · rw [hd, docS, List.drop_drop, show q + 1 + runLen L[q] (L.drop (q + 1)) = q + (runLen L[q] (L.drop (q + 1)) + 1) by omega]
    simp [groupS]

theorem uniq_takeE (N : Nat) (h : N ≤ 1) : takeE 8 8 N [] [] = 0 := by
  simp [takeE, Pm.checkE, Pm.fits, Pm.kindOf, Pm.kinds, Pm.mayBe, Pm.tooMuch]
  omega
theorem uniq_whole (N : Nat) (x : List UInt8) (cuts : List Int) (hN : uniqOk N [] []) (hx : x.length ≤ 4000) (hall : (readL x true (0, 0, 0)).2.1 = true) (D : DS (LS US)) (hD : D = drive (uniqF N [] []) [⟨x, true, 0, 0, 0⟩] cuts 100000 0 (start (uniqF N [] []) (uniqI N [] []))) :
    D.got.outs 0 = docS (decide (N = 1)) true (readL x true (0, 0, 0)).1 ∧ (decide (D.got.err = 0) && decide (D.got.need = -1)) = true := by
  obtain ⟨d1, d2, d3⟩ := uniq_drive N [] [] ⟨x, true, 0, 0, 0⟩ cuts hN hx
  rw [← hD] at d1 d2 d3
  obtain ⟨p0, -⟩ := uniq_case N [] [] ⟨x, true, 0, 0, 0⟩ D.got d1 d2 d3 hx
  obtain ⟨-, f2, -⟩ := linesX_final (uniqT (uniqC N)) (uniqEnd (uniqC N)) uniqDrop (uniq_goes_on (uniqC N)) uniqHeld (0, []) x true (0, 0, 0)
  obtain ⟨q1, q2⟩ := f2 hall
  have hn : (uniqFin N [] [] ⟨x, true, 0, 0, 0⟩).need = needOf (finalM (linesX (uniqT (uniqC N)) (uniqEnd (uniqC N)) uniqDrop uniqHeld) 0 ⟨true, false, [], (0, [])⟩ x true).1 := rfl
  have he : (uniqFin N [] [] ⟨x, true, 0, 0, 0⟩).err = (finalM (linesX (uniqT (uniqC N)) (uniqEnd (uniqC N)) uniqDrop uniqHeld) 0 ⟨true, false, [], (0, [])⟩ x true).2.2 := rfl
  refine ⟨?_, ?_⟩
  · rw [p0]
    show docS (decide (N = 1)) (readL x true (0, 0, 0)).2.1 (readL x true (0, 0, 0)).1 = _
    rw [hall]
  · rw [d2, d3, hn, he, q2, q1]
    rfl

end Go.Proofs.YtmmhpjhmobhdiaaDoor
