/- Head is a machine that Drive may drive. -/
import Derived.Test.YtfdgkjmdbcehiaaDoorHplain
import Derived.Test.YtfdgkjmdbcehiaaDoorDdefs
namespace Go.Proofs.YtfdgkjmdbcehiaaDoor
open Go.RowKit

structure HeadOuts (L : Outs) (n : Nat) : Prop where
  port : ∀ t ∈ L, t.1 = 0
  some : ∀ t ∈ L, t.2 ≠ []
  sum : outSum L ≤ n
  len : L.length ≤ n
theorem headOuts_feed : ∀ (x : List UInt8) (s : LS Nat), HeadOuts (feedB headT x s).2.1 (s.b.length + x.length)
  | [], s => ⟨(fun t ht => by cases ht), (fun t ht => by cases ht), by simp [feedB, outSum], by simp [feedB]⟩
  | c :: r, s => by
    by_cases hl : s.live = true
    · by_cases hc : c = 10
      · subst hc
        rw [feedB_end headT r s hl]
        have ih := headOuts_feed r ⟨!(headT s.u s.b).2.2, s.fail, [], (headT s.u s.b).1⟩
        simp only [headT, List.length_nil, Nat.zero_add] at ih ⊢
        refine ⟨fun t ht => ?_, fun t ht => ?_, ?_, ?_⟩
        · rcases List.mem_append.1 ht with ht | ht
          · rw [List.mem_singleton.1 ht]
          · exact ih.port t ht
        · rcases List.mem_append.1 ht with ht | ht
          · rw [List.mem_singleton.1 ht]; simp
          · exact ih.some t ht
        · have := ih.sum
          simp only [outSum, List.map_append, List.sum_append, List.map_cons, List.map_nil, List.sum_cons, List.sum_nil, List.length_append, List.length_cons, List.length_nil] at this ⊢
          omega
        · have := ih.len
          simp only [List.length_append, List.length_cons, List.length_nil]
          omega
      · by_cases h64 : s.b.length = 64
        · rw [feedB_long headT c r s hl hc h64]
          exact ⟨(fun t ht => by cases ht), (fun t ht => by cases ht), by simp [outSum], by simp⟩
        · rw [feedB_put headT c r s hl hc h64]
          have ih := headOuts_feed r ⟨true, s.fail, s.b ++ [c], s.u⟩
          simp only [List.length_append, List.length_cons, List.length_nil] at ih ⊢
          rw [show s.b.length + (r.length + 1) = s.b.length + (0 + 1) + r.length by omega]
          exact ih
    · rw [feedB_dead headT _ s (by simpa using hl)]
      exact ⟨(fun t ht => by cases ht), (fun t ht => by cases ht), by simp [outSum], by simp⟩
theorem headOuts_end (s : LS Nat) : HeadOuts (endB headT s).2.1 (s.b.length + 1) := by
  unfold endB
  split
  · exact ⟨(fun t ht => by cases ht), (fun t ht => by cases ht), by simp [outSum], by simp⟩
  · refine ⟨fun t ht => ?_, fun t ht => ?_, by simp [outSum, headT], by simp [headT]⟩
    · simp only [headT] at ht
      rw [List.mem_singleton.1 ht]
    · simp only [headT] at ht
      rw [List.mem_singleton.1 ht]
      simp
theorem HeadOuts.ok {L : Outs} {n : Nat} (h : HeadOuts L n) (hn : n ≤ 1024) : OutsOk L ∧ L.length ≤ 1000000 :=
  ⟨⟨fun t ht => by rw [h.port t ht]; omega, h.some, by have := h.sum; omega⟩, by have := h.len; omega⟩

def headMach : Mach (LS Nat) := linesM headT
theorem head_goes (g : Nat) (w : World) :
    (method 235 67 (.pointer (some ⟨g, 0, none⟩)) "Need").run Tryd.prog w = .ok (71, .pointer (some ⟨g, 0, none⟩)) w ∧
    (method 235 67 (.pointer (some ⟨g, 0, none⟩)) "Held").run Tryd.prog w = .ok (69, .pointer (some ⟨g, 0, none⟩)) w ∧
    (method 235 67 (.pointer (some ⟨g, 0, none⟩)) "Feed").run Tryd.prog w = .ok (68, .pointer (some ⟨g, 0, none⟩)) w ∧
    (method 235 67 (.pointer (some ⟨g, 0, none⟩)) "End").run Tryd.prog w = .ok (67, .pointer (some ⟨g, 0, none⟩)) w ∧
    (method 235 67 (.pointer (some ⟨g, 0, none⟩)) "More").run Tryd.prog w = .ok (70, .pointer (some ⟨g, 0, none⟩)) w :=
  ⟨by kernel_rfl, by kernel_rfl, by kernel_rfl, by kernel_rfl, by kernel_rfl⟩
theorem enters_of {f : FuncId} {fn : Func} (h : Tryd.prog.funcs[f]? = some fn) (h1 : (fn.name == "runtime.NumGoroutine") = false) (h2 : fn.body.isNone = false) : Enters f := fun args w => by
  have h1' : ¬ fn.name = "runtime.NumGoroutine" := by simpa using h1
  have h2' : ¬ fn.body = none := by
    intro e
    rw [e] at h2
    cases h2
  simp [callFunc, go_sem, h, h1', h2']

theorem head_driven (g : Nat) : Driven headMach (· = g) (headM.Rep g) 67 (.pointer (some ⟨g, 0, none⟩)) 71 69 68 67 70
    (.pointer (some ⟨g, 0, none⟩)) (.pointer (some ⟨g, 0, none⟩)) (.pointer (some ⟨g, 0, none⟩)) (.pointer (some ⟨g, 0, none⟩)) (.pointer (some ⟨g, 0, none⟩)) where
  goN w := (head_goes g w).1
  goH w := (head_goes g w).2.1
  goF w := (head_goes g w).2.2.1
  goE w := (head_goes g w).2.2.2.1
  goM w := (head_goes g w).2.2.2.2
  inN := enters_of Tryd.func71 (by kernel_rfl) (by kernel_rfl)
  inH := enters_of Tryd.func69 (by kernel_rfl) (by kernel_rfl)
  inF := enters_of Tryd.func68 (by kernel_rfl) (by kernel_rfl)
  inE := enters_of Tryd.func67 (by kernel_rfl) (by kernel_rfl)
  inM := enters_of Tryd.func70 (by kernel_rfl) (by kernel_rfl)
  keep s w w' p h hf hp := h.frame hf (hp g rfl)
  old s w h k hk := by subst hk; exact h.spl.lt
  need s w h := need_any h.need
  held s w h := held_any (o := 0) h.spl
  feed s w v x h hn hB h1 h32 := by
    have hl : s.live = true := by
      by_cases hl : s.live = true
      · exact hl
      · have : headMach.need s = -1 := by show needOf s = -1; rw [needOf, if_neg hl]
        omega
    have h0 : headMach.need s = 0 := by show needOf s = 0; rw [needOf, if_pos hl]
    rw [h0]
    refine (feed_yes headM g s v x w h (head_tells g) head_enters (fun u y => by simp [headM, headT]) hl hB h1 h32).mono ?_
    rintro e w' ⟨v', rfl, ho, hr, hf⟩
    obtain ⟨k1, k2⟩ := (headOuts_feed x s).ok (by have := h.spl.le; omega)
    exact ⟨v', rfl, ho.is, hr, hf, k1, k2⟩
  fin s w h hn := by
    have hl : s.live = true := by
      by_cases hl : s.live = true
      · exact hl
      · have : headMach.need s = -1 := by show needOf s = -1; rw [needOf, if_neg hl]
        omega
    have h0 : headMach.need s = 0 := by show needOf s = 0; rw [needOf, if_pos hl]
    rw [h0]
    refine (end_yes headM g s w h (head_tells g) head_enters hl).mono ?_
    rintro e w' ⟨v', rfl, ho, hr, hf⟩
    obtain ⟨k1, k2⟩ := (headOuts_end s).ok (by have := h.spl.le; omega)
    exact ⟨v', rfl, ho.is, hr, hf, k1, k2⟩
  more s w h hn := by
    have : headMach.need s = 0 ∨ headMach.need s = -1 := by
      show needOf s = 0 ∨ needOf s = -1
      unfold needOf
      split
      · exact .inl rfl
      · exact .inr rfl
    omega
  heldB s w h := by
    have := h.spl.le
    show 0 ≤ (s.b.length : Int) ∧ (s.b.length : Int) ≤ 1000000
    omega

end Go.Proofs.YtfdgkjmdbcehiaaDoor
