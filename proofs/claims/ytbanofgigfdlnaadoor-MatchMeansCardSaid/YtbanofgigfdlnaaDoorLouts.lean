/- The answers of machines of lines that tell little by a line. -/
import Derived.Test.YtbanofgigfdlnaaDoorDdefs
import Derived.Test.YtbanofgigfdlnaaDoorRun
namespace Go.Proofs.YtbanofgigfdlnaaDoor
open Go.RowKit

structure LineOuts (L : Outs) (n : Nat) : Prop where
  port : ∀ t ∈ L, t.1 ≤ 3
  some : ∀ t ∈ L, t.2 ≠ []
  sum : outSum L ≤ n
  len : L.length ≤ n
theorem LineOuts.nil (n : Nat) : LineOuts [] n := ⟨(fun t ht => by cases ht), (fun t ht => by cases ht), by simp [outSum], by simp⟩
theorem LineOuts.mono {L : Outs} {n m : Nat} (h : LineOuts L n) (hn : n ≤ m) : LineOuts L m := ⟨h.port, h.some, Nat.le_trans h.sum hn, Nat.le_trans h.len hn⟩
theorem LineOuts.append {L M : Outs} {n m : Nat} (h : LineOuts L n) (k : LineOuts M m) : LineOuts (L ++ M) (n + m) := by
  refine ⟨fun t ht => ?_, fun t ht => ?_, ?_, ?_⟩
  · rcases List.mem_append.1 ht with ht | ht
    · exact h.port t ht
    · exact k.port t ht
  · rcases List.mem_append.1 ht with ht | ht
    · exact h.some t ht
    · exact k.some t ht
  · have h1 := h.sum
    have h2 := k.sum
    simp only [outSum, List.map_append, List.sum_append] at h1 h2 ⊢
    omega
  · have h1 := h.len
    have h2 := k.len
    simp only [List.length_append]
    omega
theorem LineOuts.ok {L : Outs} {n : Nat} (h : LineOuts L n) (hn : n ≤ 1024) : OutsOk L ∧ L.length ≤ 1000000 :=
  ⟨⟨h.port, h.some, by have := h.sum; omega⟩, by have := h.len; omega⟩
theorem LineOuts.one (x : List UInt8) : LineOuts [(0, x ++ [10])] (x.length + 1) :=
  ⟨fun t ht => by rw [List.mem_singleton.1 ht]; omega, fun t ht => by rw [List.mem_singleton.1 ht]; simp, by simp [outSum], by simp⟩
theorem lineOuts_feed {U : Type} (t : Teller U) (ht : ∀ u x, LineOuts (t u x).2.1 (x.length + 1)) : ∀ (x : List UInt8) (s : LS U), LineOuts (feedB t x s).2.1 (s.b.length + x.length)
  | [], s => LineOuts.nil _
  | c :: r, s => by
    by_cases hl : s.live = true
    · by_cases hc : c = 10
      · subst hc
        rw [feedB_end t r s hl]
        refine ((ht s.u s.b).append (lineOuts_feed t ht r _)).mono ?_
        simp
        omega
      · by_cases h64 : s.b.length = 64
        · rw [feedB_long t c r s hl hc h64]
          exact LineOuts.nil _
        · rw [feedB_put t c r s hl hc h64]
          refine (lineOuts_feed t ht r _).mono ?_
          simp
          omega
    · rw [feedB_dead t _ s (by simpa using hl)]
      exact LineOuts.nil _
theorem lineOuts_end {U : Type} (t : Teller U) (ht : ∀ u x, LineOuts (t u x).2.1 (x.length + 1)) (s : LS U) : LineOuts (endB t s).2.1 (s.b.length + 1) := by
  unfold endB
  split
  · exact LineOuts.nil _
  · exact ht _ _

end Go.Proofs.YtbanofgigfdlnaaDoor
