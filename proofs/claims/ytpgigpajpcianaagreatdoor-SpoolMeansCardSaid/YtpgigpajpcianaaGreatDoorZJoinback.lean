/- Plainly: lines, joined and cut again, are as they were. -/
import Derived.Test.YtpgigpajpcianaaGreatDoorZDenote
namespace Go.Proofs.YtpgigpajpcianaaGreatDoor
open Go.RowKit

theorem IsTexts.mono {p q : Nat → Prop} {w : World} {v : Value} {L : Lines} (h : IsTexts p w v L) (hpq : ∀ k, k < w.heap.size → p k → q k) : IsTexts q w v L := by
  obtain ⟨a, cap, rfl, hc⟩ := h
  refine ⟨a, cap, rfl, fun j c hj => ?_⟩
  obtain ⟨gb, off, rfl, hp, hx⟩ := hc j c hj
  exact ⟨gb, off, rfl, hpq _ (block_lt_of_cell hx) hp, hx⟩
theorem cutL_ten : ∀ (r b : List UInt8), 10 ∉ b → (∀ l ∈ (cutL b r).1, 10 ∉ l) ∧ ∀ d, (cutL b r).2 = some d → 10 ∉ d
  | [], b, h => ⟨(fun l hl => by cases hl), (fun d hd => by cases hd; exact h)⟩
  | c :: r, b, h => by
    by_cases hc : c = 10
    · subst hc
      rw [cutL_end]
      obtain ⟨i1, i2⟩ := cutL_ten r [] (fun h => by cases h)
      refine ⟨fun l hl => ?_, i2⟩
      rcases List.mem_cons.1 hl with rfl | hl
      · exact h
      · exact i1 l hl
    · by_cases hl : b.length = 64
      · rw [cutL_long b r c hc hl]
        exact ⟨(fun l hl => by cases hl), (fun d hd => by cases hd)⟩
      · rw [cutL_put b r c hc hl]
        exact cutL_ten r (b ++ [c]) (fun hm => by
          rcases List.mem_append.1 hm with hm | hm
          · exact h hm
          · exact hc (List.mem_singleton.1 hm).symm)
theorem readL_ten (x : List UInt8) (ended : Bool) (er : Int × Int × Int) : ∀ l ∈ (readL x ended er).1, 10 ∉ l := by
  obtain ⟨h1, h2⟩ := cutL_ten x [] (fun h => by cases h)
  intro l hl
  unfold readL at hl
  rcases hc : cutL [] x with ⟨L, _ | d⟩
  · rw [hc] at hl h1
    exact h1 l hl
  · rw [hc] at hl h1 h2
    simp only at hl
    split at hl
    · rcases List.mem_append.1 hl with hl | hl
      · exact h1 l hl
      · split at hl
        · cases hl
        · rw [List.mem_singleton.1 hl]
          exact h2 d rfl
    · exact h1 l hl
end Go.Proofs.YtpgigpajpcianaaGreatDoor
