/- Head is a machine that Drive may drive. -/
import Derived.Test.YtbmollcbaipmiaaDoorHplain
import Derived.Test.YtbmollcbaipmiaaDoorLdriven
namespace Go.Proofs.YtbmollcbaipmiaaDoor
open Go.RowKit

structure HeadOuts (L : Outs) (n : Nat) : Prop where
  port : ∀ t ∈ L, t.1 = 0
  some : ∀ t ∈ L, t.2 ≠ []
  sum : outSum L ≤ n
  len : L.length ≤ n
theorem headOuts_feed : ∀ (x : List UInt8) (s : LS Nat), HeadOuts (feedB headT x s).2.1 (s.b.length + x.length)
  | [], s => ⟨(fun t ht => by cases ht), (fun t ht => by cases ht), by simp [feedB, outSum], by simp [feedB]⟩
  | c :: r, s => by
    by_cases hl : s.live = true
    · by_cases hc : c = 10
      · subst hc
        rw [feedB_end headT r s hl]
        have ih := headOuts_feed r ⟨!(headT s.u s.b).2.2, s.fail, [], (headT s.u s.b).1⟩
        simp only [headT, List.length_nil, Nat.zero_add] at ih ⊢
        refine ⟨fun t ht => ?_, fun t ht => ?_, ?_, ?_⟩
        · rcases List.mem_append.1 ht with ht | ht
          · rw [List.mem_singleton.1 ht]
          · exact ih.port t ht
        · rcases List.mem_append.1 ht with ht | ht
          · rw [List.mem_singleton.1 ht]; simp
          · exact ih.some t ht
        · have := ih.sum
          simp only [outSum, List.map_append, List.sum_append, List.map_cons, List.map_nil, List.sum_cons, List.sum_nil, List.length_append, List.length_cons, List.length_nil] at this ⊢
          omega
        · have := ih.len
          simp only [List.length_append, List.length_cons, List.length_nil]
          omega
      · by_cases h64 : s.b.length = 64
        · rw [feedB_long headT c r s hl hc h64]
          exact ⟨(fun t ht => by cases ht), (fun t ht => by cases ht), by simp [outSum], by simp⟩
        · rw [feedB_put headT c r s hl hc h64]
          have ih := headOuts_feed r ⟨true, s.fail, s.b ++ [c], s.u⟩
          simp only [List.length_append, List.length_cons, List.length_nil] at ih ⊢
          rw [show s.b.length + (r.length + 1) = s.b.length + (0 + 1) + r.length by omega]
          exact ih
    · rw [feedB_dead headT _ s (by simpa using hl)]
      exact ⟨(fun t ht => by cases ht), (fun t ht => by cases ht), by simp [outSum], by simp⟩
theorem headOuts_end (s : LS Nat) : HeadOuts (endB headT s).2.1 (s.b.length + 1) := by
  unfold endB
  split
  · exact ⟨(fun t ht => by cases ht), (fun t ht => by cases ht), by simp [outSum], by simp⟩
  · refine ⟨fun t ht => ?_, fun t ht => ?_, by simp [outSum, headT], by simp [headT]⟩
    · simp only [headT] at ht
      rw [List.mem_singleton.1 ht]
    · simp only [headT] at ht
      rw [List.mem_singleton.1 ht]
      simp
theorem HeadOuts.ok {L : Outs} {n : Nat} (h : HeadOuts L n) (hn : n ≤ 1024) : OutsOk L ∧ L.length ≤ 1000000 :=
  ⟨⟨fun t ht => by rw [h.port t ht]; omega, h.some, by have := h.sum; omega⟩, by have := h.len; omega⟩

def headMach : Mach (LS Nat) := linesM headT
theorem head_goes (g : Nat) (w : World) :
    (method 242 74 (.pointer (some ⟨g, 0, none⟩)) "Need").run Tryd.prog w = .ok (75, .pointer (some ⟨g, 0, none⟩)) w ∧
    (method 242 74 (.pointer (some ⟨g, 0, none⟩)) "Held").run Tryd.prog w = .ok (73, .pointer (some ⟨g, 0, none⟩)) w ∧
    (method 242 74 (.pointer (some ⟨g, 0, none⟩)) "Feed").run Tryd.prog w = .ok (72, .pointer (some ⟨g, 0, none⟩)) w ∧
    (method 242 74 (.pointer (some ⟨g, 0, none⟩)) "End").run Tryd.prog w = .ok (71, .pointer (some ⟨g, 0, none⟩)) w ∧
    (method 242 74 (.pointer (some ⟨g, 0, none⟩)) "More").run Tryd.prog w = .ok (74, .pointer (some ⟨g, 0, none⟩)) w :=
  ⟨by kernel_rfl, by kernel_rfl, by kernel_rfl, by kernel_rfl, by kernel_rfl⟩
theorem head_driven (g : Nat) : Driven headMach 0 (headM.RepO g) 74 (.pointer (some ⟨g, 0, none⟩)) 75 73 72 71 74
    (.pointer (some ⟨g, 0, none⟩)) (.pointer (some ⟨g, 0, none⟩)) (.pointer (some ⟨g, 0, none⟩)) (.pointer (some ⟨g, 0, none⟩)) (.pointer (some ⟨g, 0, none⟩)) :=
  lines_driven headM g 74 (head_goes g) rfl (head_tells g) head_enters (fun u y => by simp [headM, headT]) (fun s x hs hx => (headOuts_feed x s).ok (by omega)) (fun s hs => (headOuts_end s).ok (by omega))

end Go.Proofs.YtbmollcbaipmiaaDoor
