/- Plainly: what head comes to, whatever the chunks. -/
import Derived.Test.YtbmollcbaipmiaaDoorHnew
import Derived.Test.YtbmollcbaipmiaaDoorDlines
namespace Go.Proofs.YtbmollcbaipmiaaDoor

/-! Head. -/
theorem length_cut_pos {L : Lines} {u : Nat} (h : u ≤ L.length) (h1 : 1 ≤ u) : ∃ l r, L = l :: r ∧ u - 1 ≤ r.length := by
  cases L with
  | nil => simp at h; omega
  | cons l r => exact ⟨l, r, rfl, by simp at h; omega⟩
def outsOf (L : Lines) : Outs := L.map fun l => (0, l ++ [10])
/-- What head comes to, of the lines that were cut. -/
def headCut (u : Nat) (c : Lines × Option (List UInt8)) : LS Nat × Outs × Int :=
  if u ≤ c.1.length then (⟨false, false, [], 0⟩, outsOf (c.1.take u), 0)
  else match c.2 with
    | none => (⟨false, true, [], u - c.1.length⟩, outsOf c.1, 20)
    | some d => (⟨true, false, d, u - c.1.length⟩, outsOf c.1, 0)
theorem headCut_cons (u : Nat) (b : List UInt8) (L : Lines) (o : Option (List UInt8)) : headCut (u + 1) (b :: L, o) = ((headCut u (L, o)).1, (0, b ++ [10]) :: (headCut u (L, o)).2.1, (headCut u (L, o)).2.2) := by
  unfold headCut
  by_cases h : u ≤ L.length
  · simp [h, outsOf]
  · cases o <;> simp [h, outsOf]
theorem feedB_head : ∀ (x b : List UInt8) (u : Nat), 1 ≤ u → feedB headT x ⟨true, false, b, u⟩ = headCut u (cutL b x)
  | [], b, u, h => by
    simp [feedB, cutL, headCut, outsOf]
    omega
  | c :: r, b, u, h => by
    by_cases hc : c = 10
    · subst hc
      rw [feedB_end headT r ⟨true, false, b, u⟩ rfl, cutL_end]
      simp only [headT]
      by_cases h1 : u - 1 = 0
      · have hu : u = 1 := by omega
        subst hu
        rw [feedB_dead _ _ _ (by simp)]
        simp [headCut, outsOf]
      · have ih := feedB_head r [] (u - 1) (by omega)
        obtain ⟨v, rfl⟩ : ∃ v, u = v + 1 := ⟨u - 1, by omega⟩
        rw [decide_eq_false h1]
        simp only [Bool.not_false]
        rw [ih]
        rw [show v + 1 - 1 = v by omega] at h1 ⊢
        rw [headCut_cons v b _ _]
        rfl
    · by_cases h64 : b.length = 64
      · rw [feedB_long headT c r ⟨true, false, b, u⟩ rfl hc h64, cutL_long b r c hc h64]
        simp [headCut, outsOf]
        omega
      · rw [feedB_put headT c r ⟨true, false, b, u⟩ rfl hc h64, cutL_put b r c hc h64]
        exact feedB_head r (b ++ [c]) u h

/-- What head comes to. -/
theorem head_final (N : Nat) (x : List UInt8) (ended : Bool) (e : Int × Int × Int) :
    (finalB headT (headS N) x ended).2.1 = outsOf ((readL x ended e).1.take N) ∧
    (((readL x ended e).2.1 = true ∨ N ≤ (readL x ended e).1.length) → (finalB headT (headS N) x ended).1.live = false ∧ (finalB headT (headS N) x ended).2.2 = 0) ∧
    (¬ ((readL x ended e).2.1 = true ∨ N ≤ (readL x ended e).1.length) → (readL x ended e).2.2 = (20, -1, 0) ∧ (finalB headT (headS N) x ended).1.live = false ∧ (finalB headT (headS N) x ended).2.2 = 20 ∨
      (readL x ended e).2.2 = e ∧ (finalB headT (headS N) x ended).1.live = true ∧ (finalB headT (headS N) x ended).2.2 = 0) := by
  by_cases hN : N = 0
  · subst hN
    rw [finalB_dead headT _ _ _ (by simp [headS])]
    simp [outsOf, headS]
  · have hs : headS N = ⟨true, false, [], N⟩ := by simp [headS, hN]
    have hf := feedB_head x [] N (by omega)
    have hcl := cutL_le x [] (by simp)
    unfold finalB readL
    rw [hs, hf]
    unfold headCut
    rcases hc : cutL [] x with ⟨L, _ | d⟩
    · simp only [Bool.false_eq_true, false_or]
      by_cases hle : N ≤ L.length
      · rw [if_pos hle]
        simp [hle]
      · rw [if_neg hle]
        simp [hle, List.take_of_length_le (show L.length ≤ N by omega)]
    · by_cases hle : N ≤ L.length
      · rw [if_pos hle]
        cases ended
        · simp [hle]
        · simp only [if_true, Bool.false_eq_true, false_and, if_false]
          refine ⟨?_, fun _ => ⟨trivial, trivial⟩, fun h => absurd (.inl trivial) h⟩
          rw [List.take_append_of_le_length hle]
      · rw [if_neg hle]
        cases ended
        · simp [hle, List.take_of_length_le (show L.length ≤ N by omega)]
        · simp only [if_true, and_self]
          unfold endB
          by_cases hd : d = []
          · subst hd
            simp [List.take_of_length_le (show L.length ≤ N by omega)]
          · simp only [hd, if_false]
            refine ⟨?_, fun _ => ⟨trivial, trivial⟩, fun h => absurd (.inl trivial) h⟩
            rw [List.take_of_length_le (by simp; omega)]
            simp [outsOf, headT]

end Go.Proofs.YtbmollcbaipmiaaDoor
