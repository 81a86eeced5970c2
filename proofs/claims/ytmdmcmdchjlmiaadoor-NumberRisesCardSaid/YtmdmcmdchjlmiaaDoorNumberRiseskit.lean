/- What NumberRises asks: what number tells of a whole input, line by line. -/
import Derived.Test.YtmdmcmdchjlmiaaDoorNumberDenote
import Derived.Test.YtmdmcmdchjlmiaaDoorNumberLines
import Derived.Test.YtmdmcmdchjlmiaaDoorNumberTold
import Derived.Test.YtmdmcmdchjlmiaaDoorNumberHeavy
import Derived.Test.YtmdmcmdchjlmiaaDoorTakeskit
import Derived.Test.YtmdmcmdchjlmiaaDoorDecs
namespace Go.Proofs.YtmdmcmdchjlmiaaDoor
open Go.RowKit

theorem number_takeE (N : Nat) (h : N ≤ 1000000000) : takeE 10 10 N [] [] = 0 := by
  simp [takeE, Pm.checkE, Pm.fits, Pm.kindOf, Pm.kinds, Pm.mayBe, Pm.tooMuch]
  omega
theorem nil_strms (w : World) : IsStrms (· < w.heap.size) w (.slice none 0 0) [] := ⟨none, 0, rfl, fun j t h => by simp at h⟩
/-- The line that is told next, and what is behind it. -/
theorem nums_at {L : Lines} {i : Nat} {l : List UInt8} (h : L[i]? = some l) (N : Nat) : joinL (numsL (N + i) (L.drop i)) = Lib.decDigits (N + i) ++ ((32 :: l ++ [10]) ++ joinL (numsL (N + (i + 1)) (L.drop (i + 1)))) := by
  rw [List.drop_eq_getElem_cons (List.getElem?_eq_some_iff.1 h).1, (List.getElem?_eq_some_iff.1 h).2, numsL, show N + i + 1 = N + (i + 1) by omega]
  simp [joinL, numL]
theorem number_whole (N : Nat) (x : List UInt8) (cuts : List Int) (hN : numberOk N [] []) (hx : x.length ≤ 4000) (hall : (readL x true (0, 0, 0)).2.1 = true) (D : DS (LS Int)) (hD : D = drive (numberF N [] []) [⟨x, true, 0, 0, 0⟩] cuts 100000 0 (start (numberF N [] []) (numberI N [] []))) :
    D.got.outs 0 = joinL (numsL N (readL x true (0, 0, 0)).1) ∧ (decide (D.got.err = 0) && decide (D.got.need = -1)) = true := by
  obtain ⟨d1, d2, d3⟩ := number_drive N [] [] ⟨x, true, 0, 0, 0⟩ cuts hN hx
  rw [← hD] at d1 d2 d3
  obtain ⟨p0, -⟩ := number_case N [] [] ⟨x, true, 0, 0, 0⟩ D.got d1 d2 d3 hx
  obtain ⟨-, f2, -⟩ := run_final numberT (fun _ _ => rfl) ((min N 1000000000 : Nat) : Int) x true (0, 0, 0)
  obtain ⟨q1, q2⟩ := f2 hall
  have hn : (numberFin N [] [] ⟨x, true, 0, 0, 0⟩).need = needOf (finalB numberT ⟨true, false, [], ((min N 1000000000 : Nat) : Int)⟩ x true).1 := rfl
  have he : (numberFin N [] [] ⟨x, true, 0, 0, 0⟩).err = (finalB numberT ⟨true, false, [], ((min N 1000000000 : Nat) : Int)⟩ x true).2.2 := rfl
  refine ⟨?_, ?_⟩
  · rw [p0]
    show joinL (numsL (min N 1000000000) (readL x true (0, 0, 0)).1) = _
    rw [Nat.min_eq_left hN]
  · rw [d2, d3, hn, he, q2, needOf, q1]
    rfl

end Go.Proofs.YtmdmcmdchjlmiaaDoor
