/- A machine of lines, whose calls are intake's own, is one that Drive may drive. -/
import Derived.Test.YtmmhpjhmobhdiaaDoorIfeedb
import Derived.Test.YtmmhpjhmobhdiaaDoorDone
namespace Go.Proofs.YtmmhpjhmobhdiaaDoor
open Go.RowKit

/-- The machine is as told; its own blocks. -/
def LM.RepO {U : Type} (M : LM U) (g : Nat) (s : LS U) (own : Nat → Prop) (w : World) : Prop := ∃ X, M.Rep g s X w ∧ own = M.own g X
theorem LM.RepO.keep {U : Type} {M : LM U} {g : Nat} {s : LS U} {own p : Nat → Prop} {w w' : World} (h : M.RepO g s own w) (hf : Frame p w w') (hp : ∀ k, own k ∨ k < M.base → ¬ p k) : M.RepO g s own w' := by
  obtain ⟨X, h, rfl⟩ := h
  exact ⟨X, h.frame hf hp, rfl⟩
theorem LM.RepO.old {U : Type} {M : LM U} {g : Nat} {s : LS U} {own : Nat → Prop} {w : World} (h : M.RepO g s own w) : ∀ k, own k → k < w.heap.size := by
  obtain ⟨X, h, rfl⟩ := h
  exact h.repN.old
theorem LM.RepO.g {U : Type} {M : LM U} {g : Nat} {s : LS U} {own : Nat → Prop} {w : World} (h : M.RepO g s own w) : own g := by
  obtain ⟨X, h, rfl⟩ := h
  exact .inl rfl
theorem LM.Gives.answers {U : Type} {M : LM U} {g : Nat} {X : Nat → Prop} {w : World} {r : LS U × Outs × Int} {e : Ending} {w' : World} (h : M.Gives g w r.2.1 r.2.2 r.1 X e w') (hok : OutsOk r.2.1) (hl : r.2.1.length ≤ 1000000) : Answers (M.own g X) (M.RepO g) r w e w' := by
  obtain ⟨v, X', rfl, ho, hr, hx, hf⟩ := h
  refine ⟨v, rfl, ho.is, ⟨_, ⟨X', hr, rfl⟩, fun k hk => ?_⟩, hf, hok, hl⟩
  rcases hk with rfl | hk
  · exact .inl (.inl rfl)
  · rcases hx k hk with h | h
    · exact .inl (.inr h)
    · exact .inr h

theorem lines_driven {U : Type} (M : LM U) (g : Nat) (T : TypeId)
    (hgo : ∀ w, (method 260 T (.pointer (some ⟨g, 0, none⟩)) "Need").run Tryd.prog w = .ok (93, .pointer (some ⟨g, 0, none⟩)) w ∧
      (method 260 T (.pointer (some ⟨g, 0, none⟩)) "Held").run Tryd.prog w = .ok (98, .pointer (some ⟨g, 0, none⟩)) w ∧
      (method 260 T (.pointer (some ⟨g, 0, none⟩)) "Feed").run Tryd.prog w = .ok (97, .pointer (some ⟨g, 0, none⟩)) w ∧
      (method 260 T (.pointer (some ⟨g, 0, none⟩)) "End").run Tryd.prog w = .ok (89, .pointer (some ⟨g, 0, none⟩)) w ∧
      (method 260 T (.pointer (some ⟨g, 0, none⟩)) "More").run Tryd.prog w = .ok (92, .pointer (some ⟨g, 0, none⟩)) w)
    (hN : M.last = none) (hT : M.Tells g) (hF : Enters M.F) (hK : ∀ u y, (M.tell u y).2.1.length ≤ 40)
    (hO1 : ∀ s x, s.b.length ≤ 64 → x.length ≤ 32 → OutsOk (feedB M.tell x s).2.1 ∧ (feedB M.tell x s).2.1.length ≤ 1000000) (hO2 : ∀ s, s.b.length ≤ 64 → OutsOk (endB M.tell s).2.1 ∧ (endB M.tell s).2.1.length ≤ 1000000) :
    Driven (linesM M.tell) M.base (M.RepO g) T (.pointer (some ⟨g, 0, none⟩)) 93 98 97 89 92
    (.pointer (some ⟨g, 0, none⟩)) (.pointer (some ⟨g, 0, none⟩)) (.pointer (some ⟨g, 0, none⟩)) (.pointer (some ⟨g, 0, none⟩)) (.pointer (some ⟨g, 0, none⟩)) where
  goN w := (hgo w).1
  goH w := (hgo w).2.1
  goF w := (hgo w).2.2.1
  goE w := (hgo w).2.2.2.1
  goM w := (hgo w).2.2.2.2
  inN := enters_of Tryd.func93 (by kernel_rfl) (by kernel_rfl)
  inH := enters_of Tryd.func98 (by kernel_rfl) (by kernel_rfl)
  inF := enters_of Tryd.func97 (by kernel_rfl) (by kernel_rfl)
  inE := enters_of Tryd.func89 (by kernel_rfl) (by kernel_rfl)
  inM := enters_of Tryd.func92 (by kernel_rfl) (by kernel_rfl)
  keep s own w w' p h hf hp := h.keep hf hp
  old s own w h := h.old
  need s own w h := by
    obtain ⟨X, h, rfl⟩ := h
    exact need_any h.need
  held s own w h := by
    obtain ⟨X, h, rfl⟩ := h
    obtain ⟨post, hs⟩ := h.repN.spl
    exact (held_any (o := 0) hs).mono fun _ _ h => h.quiet
  feed s own w v x h hn hB h1 h32 := by
    obtain ⟨X, h, rfl⟩ := h
    have hl : s.live = true := by
      by_cases hl : s.live = true
      · exact hl
      · have : (linesM M.tell).need s = -1 := by show needOf s = -1; rw [needOf, if_neg hl]
        omega
    have h0 : (linesM M.tell).need s = 0 := by show needOf s = 0; rw [needOf, if_pos hl]
    rw [h0]
    obtain ⟨k1, k2⟩ := hO1 s x h.repN.le h32
    exact (feed_yes M g s X v x w h hT hF hK hl hB h1 h32).mono fun e w' hg => LM.Gives.answers (r := feedB M.tell x s) hg k1 k2
  fin s own w h hn := by
    obtain ⟨X, h, rfl⟩ := h
    have hl : s.live = true := by
      by_cases hl : s.live = true
      · exact hl
      · have : (linesM M.tell).need s = -1 := by show needOf s = -1; rw [needOf, if_neg hl]
        omega
    have h0 : (linesM M.tell).need s = 0 := by show needOf s = 0; rw [needOf, if_pos hl]
    rw [h0]
    obtain ⟨k1, k2⟩ := hO2 s h.repN.le
    exact (end_yes M g s X w h hT hF hl hN).mono fun e w' hg => LM.Gives.answers (r := endB M.tell s) hg k1 k2
  more s own w h hn := by
    have : (linesM M.tell).need s = 0 ∨ (linesM M.tell).need s = -1 := by
      show needOf s = 0 ∨ needOf s = -1
      unfold needOf
      split
      · exact .inl rfl
      · exact .inr rfl
    omega
  heldB s own w h := by
    obtain ⟨X, h, rfl⟩ := h
    have := h.repN.le
    show 0 ≤ (s.b.length : Int) ∧ (s.b.length : Int) ≤ 1000000
    omega

end Go.Proofs.YtmmhpjhmobhdiaaDoor
