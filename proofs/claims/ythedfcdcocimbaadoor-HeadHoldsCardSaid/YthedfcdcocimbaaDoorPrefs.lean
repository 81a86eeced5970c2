/- What the document's Check and Bound do. -/
import Derived.Test.YthedfcdcocimbaaDoorProwa
import Derived.Test.YthedfcdcocimbaaDoorProwb
import Derived.Test.YthedfcdcocimbaaDoorProwc
import Derived.Test.YthedfcdcocimbaaDoorProwd
import Derived.Test.YthedfcdcocimbaaDoorProwe
import Derived.Test.YthedfcdcocimbaaDoorPholds
import Derived.Test.YthedfcdcocimbaaDoorPpure
namespace Go.Proofs.YthedfcdcocimbaaDoor.Pm
open Go.RowKit

theorem sixteen {K : Nat} (h1 : 1 ≤ K) (h16 : K ≤ 16) : K = 1 ∨ K = 2 ∨ K = 3 ∨ K = 4 ∨ K = 5 ∨ K = 6 ∨ K = 7 ∨ K = 8 ∨ K = 9 ∨ K = 10 ∨ K = 11 ∨ K = 12 ∨ K = 13 ∨ K = 14 ∨ K = 15 ∨ K = 16 := by omega

theorem refRow_any (K : Nat) (h1 : 1 ≤ K) (h16 : K ≤ 16) (n : Int) (hn : Fits n) (va vb : Value) (A B : List UInt8) (w : World) (hA : IsBytes w va A) (hB : IsBytes w vb B) (sA : A.length ≤ 2000) :
    Calls Tryd.prog 43 #[parV K n va vb] w (Gives w (.bool (fits (kindOf K) n A B))) := by
  obtain rfl | rfl | rfl | rfl | rfl | rfl | rfl | rfl | rfl | rfl | rfl | rfl | rfl | rfl | rfl | rfl := sixteen h1 h16
  · exact refRow_1 n va vb A B w hA hB
  · exact refRow_2 n va vb A B w hA hB
  · exact refRow_3 n va vb A B w hA hB
  · exact refRow_4 n hn va vb A B w hA hB
  · exact refRow_5 n va vb A B w hA hB sA
  · exact refRow_6 n va vb A B w hA hB sA
  · exact refRow_7 n va vb A B w hA hB
  · exact refRow_8 n va vb A B w hA hB
  · exact refRow_9 n va vb A B w hA hB
  · exact refRow_10 n va vb A B w hA hB
  · exact refRow_11 n va vb A B w hA hB
  · exact refRow_12 n va vb A B w hA hB
  · exact refRow_13 n va vb A B w hA hB
  · exact refRow_14 n hn va vb A B w hA hB
  · exact refRow_15 n va vb A B w hA hB
  · exact refRow_16 n va vb A B w hA hB

theorem gives_int {w : World} {x y : Int} {f : FuncId} {args : Array Value} (h : Calls Tryd.prog f args w (Gives w (.int .i64 x))) (e : x = y) : Calls Tryd.prog f args w (Gives w (.int .i64 y)) := e ▸ h

theorem refHolds_any (K : Nat) (h1 : 1 ≤ K) (h16 : K ≤ 16) (n : Int) (hl : (kindOf K).least ≤ n) (hm : n ≤ (kindOf K).most) (va vb : Value) (w : World) :
    Calls Tryd.prog 44 #[parV K n va vb] w (Gives w (.int .i64 (holdsE K n))) := by
  obtain rfl | rfl | rfl | rfl | rfl | rfl | rfl | rfl | rfl | rfl | rfl | rfl | rfl | rfl | rfl | rfl := sixteen h1 h16
  · exact gives_int (refHolds_1 n va vb w) (by simp [holdsE, kindOf, kinds])
  · exact gives_int (refHolds_2 n va vb w) (by simp [holdsE, kindOf, kinds])
  · exact gives_int (refHolds_3 n va vb w) (by simp [holdsE, kindOf, kinds])
  · simp [kindOf, kinds] at hl hm
    by_cases hb : 100 < n
    · exact gives_int (refHolds_4_big n hb va vb w) (by simp [holdsE, hb])
    · exact gives_int (refHolds_4 n hl (by omega) va vb w) (by simp [holdsE, kindOf, kinds, hb])
  · exact gives_int (refHolds_5 n va vb w) (by simp [holdsE, kindOf, kinds])
  · exact gives_int (refHolds_6 n va vb w) (by simp [holdsE, kindOf, kinds])
  · exact gives_int (refHolds_7 n va vb w) (by simp [holdsE, kindOf, kinds])
  · exact gives_int (refHolds_8 n va vb w) (by simp [holdsE, kindOf, kinds])
  · exact gives_int (refHolds_9 n va vb w) (by simp [holdsE, kindOf, kinds])
  · exact gives_int (refHolds_10 n va vb w) (by simp [holdsE, kindOf, kinds])
  · exact gives_int (refHolds_11 n va vb w) (by simp [holdsE, kindOf, kinds])
  · exact gives_int (refHolds_12 n va vb w) (by simp [holdsE, kindOf, kinds])
  · simp [kindOf, kinds] at hl hm
    exact gives_int (refHolds_13 n hl hm va vb w) (by simp [holdsE, kindOf, kinds])
  · simp [kindOf, kinds] at hl hm
    by_cases hb : 100 < n
    · exact gives_int (refHolds_14_big n hb va vb w) (by simp [holdsE, hb])
    · exact gives_int (refHolds_14 n hl (by omega) va vb w) (by simp [holdsE, kindOf, kinds, hb]; omega)
  · exact gives_int (refHolds_15 n va vb w) (by simp [holdsE, kindOf, kinds])
  · exact gives_int (refHolds_16 n va vb w) (by simp [holdsE, kindOf, kinds])

/-- The document's number says the same of what may be. -/
theorem holds_pure (K : Nat) (h1 : 1 ≤ K) (h16 : K ≤ 16) (n : Int) (hl : (kindOf K).least ≤ n) (hm : n ≤ (kindOf K).most) :
    (2048 < holdsE K n ↔ tooMuch (kindOf K) n = true) ∧ (tooMuch (kindOf K) n = false → holdsE K n = (kindOf K).holds + (kindOf K).each * n) := by
  obtain rfl | rfl | rfl | rfl | rfl | rfl | rfl | rfl | rfl | rfl | rfl | rfl | rfl | rfl | rfl | rfl := sixteen h1 h16
  all_goals simp [kindOf, kinds, tooMuch, holdsE] at hl hm ⊢
  all_goals (try split)
  all_goals (try omega)
theorem fits_range {K : Nat} {n : Int} {A B : List UInt8} (h : fits (kindOf K) n A B = true) : (kindOf K).least ≤ n ∧ n ≤ (kindOf K).most := by
  simp [fits] at h
  exact h.1

end Go.Proofs.YthedfcdcocimbaaDoor.Pm
