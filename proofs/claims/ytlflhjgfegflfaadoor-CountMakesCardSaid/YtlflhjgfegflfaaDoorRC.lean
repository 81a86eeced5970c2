/- Calls that are not due are refused, and nothing turns: what a machine keeps to. -/
import Derived.Test.YtlflhjgfegflfaaDoorDdefs
namespace Go.Proofs.YtlflhjgfegflfaaDoor
open Go.RowKit

def errN (n : Int) : Int := if n = -1 then 4 else 1
theorem endE_err {n port : Int} (h : port ≠ n) : endE n port = errN n := by
  unfold endE errN
  split
  · rfl
  · rw [if_pos (.inr h)]
theorem feedE_err {n port : Int} {l : Nat} (h : port ≠ n ∨ l = 0 ∨ 32 < l) : feedE n port l = errN n := by
  by_cases hp : port = n
  · have hl : l = 0 ∨ 32 < l := h.resolve_left (fun k => k hp)
    subst hp
    unfold feedE endE errN
    by_cases h1 : port = -1
    · simp [h1]
    · by_cases h2 : port = -2
      · simp [h2]
      · simp [h1, h2, hl]
  · unfold feedE
    rw [endE_err hp]
    unfold errN
    split <;> simp
theorem errN_ne (n : Int) : errN n ≠ 0 ∧ errN n ≠ 20 := by unfold errN; split <;> decide
theorem moreE_err (n : Int) : moreE n = errN n := rfl
structure Refusing {S : Type} (M : Mach S) (Rep : S → (Nat → Prop) → World → Prop) (fF fE fM : FuncId) (rF rE rM : Value) : Prop where
  feed : ∀ s own w port a l c, Rep s own w → (port ≠ M.need s ∨ l = 0 ∨ 32 < l) → Calls Tryd.prog fF #[rF, .int .i64 port, .slice a l c] w (Says w (.tuple #[.slice none 0 0, .int .i64 (errN (M.need s))]))
  fin : ∀ s own w port, Rep s own w → port ≠ M.need s → Calls Tryd.prog fE #[rE, .int .i64 port] w (Says w (.tuple #[.slice none 0 0, .int .i64 (errN (M.need s))]))
  more : ∀ s own w, Rep s own w → M.need s ≠ -2 → Calls Tryd.prog fM #[rM] w (Says w (.tuple #[.slice none 0 0, .int .i64 (errN (M.need s))]))

end Go.Proofs.YtlflhjgfegflfaaDoor
