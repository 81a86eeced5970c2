/- Plainly: machines of lines that tell something at the end, too, and give up what they keep by a line that is too long. -/
import Derived.Test.YtmmhpjhmobhdiaaDoorDone
import Derived.Test.YtmmhpjhmobhdiaaDoorRB
namespace Go.Proofs.YtmmhpjhmobhdiaaDoor

section
variable {U : Type} (t : Teller U) (fin : U → U × Outs) (drop : U → U)
/-- The end: the line that is begun, and what is told behind all lines. -/
def endL (s : LS U) : LS U × Outs × Int := (⟨false, s.fail, [], (fin (endB t s).1.u).1⟩, (endB t s).2.1 ++ (fin (endB t s).1.u).2, 0)
def feedL (x : List UInt8) (s : LS U) : LS U × Outs × Int :=
  (⟨(feedB t x s).1.live, (feedB t x s).1.fail, (feedB t x s).1.b, if (feedB t x s).2.2 = 20 then drop (feedB t x s).1.u else (feedB t x s).1.u⟩, (feedB t x s).2.1, (feedB t x s).2.2)
def linesX (held : LS U → Int) : Mach (LS U) where
  need := needOf
  held := held
  feed s x := feedL t drop x s
  fin := endL t fin
  more s := (s, [], 1)

theorem feedB_errs : ∀ (x : List UInt8) (s : LS U), (feedB t x s).2.2 = 0 ∨ (feedB t x s).2.2 = 20
  | [], s => .inl rfl
  | c :: r, s => by
    by_cases hl : s.live = true
    · by_cases hc : c = 10
      · subst hc
        rw [feedB_end t r s hl]
        exact feedB_errs r _
      · by_cases h64 : s.b.length = 64
        · rw [feedB_long t c r s hl hc h64]; exact .inr rfl
        · rw [feedB_put t c r s hl hc h64]
          exact feedB_errs r _
    · rw [feedB_dead t _ s (by simpa using hl)]
      exact .inl rfl

theorem linesX_one (held : LS U → Int) : One (linesX t fin drop held) where
  nil s _ := rfl
  app s x y h := by
    have happ := feedB_append t x y s
    have herr := feedB_err t x s
    have herrs := feedB_errs t x s
    rcases hA : feedB t x s with ⟨⟨live, fail, b, u⟩, o, e⟩
    rw [hA] at happ herr herrs
    simp only at happ herr herrs
    have hx : (linesX t fin drop held).feed s x = (⟨live, fail, b, if e = 20 then drop u else u⟩, o, e) := by
      simp only [linesX, feedL]
      rw [hA]
    rw [hx]
    cases live with
    | true =>
      have he : e = 0 := herr.resolve_right (by simp)
      subst he
      have hxy : (linesX t fin drop held).feed s (x ++ y) = feedL t drop (x ++ y) s := rfl
      rw [hxy]
      simp only [feedL]
      rw [happ]
      simp [linesX, needOf, feedL]
    | false =>
      rw [feedB_dead t y _ rfl] at happ
      have hxy : (linesX t fin drop held).feed s (x ++ y) = feedL t drop (x ++ y) s := rfl
      rw [hxy]
      simp only [feedL]
      rw [happ]
      by_cases he : e = 0 <;> simp [linesX, needOf, he]
  fed s x h := by
    show needOf _ = 0 ∨ needOf _ = -1
    unfold needOf
    split
    · exact .inl rfl
    · exact .inr rfl

theorem linesX_needs (held : LS U → Int) (s : LS U) : (linesX t fin drop held).need s = -1 ∨ (linesX t fin drop held).need s = -2 ∨ (linesX t fin drop held).need s = 0 := by
  show needOf s = -1 ∨ needOf s = -2 ∨ needOf s = 0
  unfold needOf
  split
  · exact .inr (.inr rfl)
  · exact .inl rfl

/-- What such a machine comes to, of a whole input. -/
theorem linesX_final (h : ∀ u x, (t u x).2.2 = false) (held : LS U → Int) (u : U) (x : List UInt8) (ended : Bool) (e : Int × Int × Int) :
    (finalM (linesX t fin drop held) 0 ⟨true, false, [], u⟩ x ended).2.1 = (runT t u (readL x ended e).1).2 ++ (if (readL x ended e).2.1 = true then (fin (runT t u (readL x ended e).1).1).2 else []) ∧
    ((readL x ended e).2.1 = true → needOf (finalM (linesX t fin drop held) 0 ⟨true, false, [], u⟩ x ended).1 = -1 ∧ (finalM (linesX t fin drop held) 0 ⟨true, false, [], u⟩ x ended).2.2 = 0) ∧
    (¬ (readL x ended e).2.1 = true → (readL x ended e).2.2 = (20, -1, 0) ∧ needOf (finalM (linesX t fin drop held) 0 ⟨true, false, [], u⟩ x ended).1 = -1 ∧ (finalM (linesX t fin drop held) 0 ⟨true, false, [], u⟩ x ended).2.2 = 20 ∨
      (readL x ended e).2.2 = e ∧ needOf (finalM (linesX t fin drop held) 0 ⟨true, false, [], u⟩ x ended).1 = 0 ∧ (finalM (linesX t fin drop held) 0 ⟨true, false, [], u⟩ x ended).2.2 = 0) := by
  have hf := feedB_run t h x [] u
  unfold readL
  rcases hc : cutL [] x with ⟨L, _ | d⟩
  · rw [hc] at hf
    have hfd : (linesX t fin drop held).feed ⟨true, false, [], u⟩ x = (⟨false, true, [], drop (runT t u L).1⟩, (runT t u L).2, 20) := by
      show feedL t drop x _ = _
      unfold feedL
      rw [hf]
      rfl
    unfold finalM
    rw [hfd]
    simp [linesX, needOf]
  · rw [hc] at hf
    have hfd : (linesX t fin drop held).feed ⟨true, false, [], u⟩ x = (⟨true, false, d, (runT t u L).1⟩, (runT t u L).2, 0) := by
      show feedL t drop x _ = _
      unfold feedL
      rw [hf]
      rfl
    unfold finalM
    rw [hfd]
    cases ended
    · simp [linesX, needOf]
    · by_cases hd : d = []
      · subst hd
        simp [linesX, needOf, moreAll, endL, endB]
      · simp [linesX, needOf, moreAll, endL, endB, hd, runT_append, runT]
end

/-- With more of its input. -/
theorem one_grows {S : Type} (M : Mach S) (hO : One M) (K : Nat) (s : S) (hz : M.need s = 0) (i i' : Strm) (h : Longer i i') :
    GrowsTo ⟨putOuts (fun _ => []) (finalM M K s i.bytes i.ended).2.1, M.need (finalM M K s i.bytes i.ended).1, (finalM M K s i.bytes i.ended).2.2⟩ ⟨putOuts (fun _ => []) (finalM M K s i'.bytes i'.ended).2.1, M.need (finalM M K s i'.bytes i'.ended).1, (finalM M K s i'.bytes i'.ended).2.2⟩ := by
  rcases h with rfl | ⟨he, y, e, rfl⟩
  · exact GrowsTo.refl _
  have hf : finalM M K s i.bytes i.ended = M.feed s i.bytes := by
    unfold finalM
    rw [he, if_neg (fun k => by simp at k)]
  simp only
  rw [hf]
  by_cases h1 : M.need (M.feed s i.bytes).1 = 0 ∧ (M.feed s i.bytes).2.2 = 0
  · rw [finalM_app M hO K s i.bytes y e hz h1]
    refine ⟨fun j => ?_, fun hn => ?_⟩
    · simp only
      rw [putOuts_append]
      exact putOuts_more _ _ j
    · have hn : M.need (M.feed s i.bytes).1 = -1 := hn
      rw [h1.1] at hn
      cases hn
  · rw [finalM_stop M hO K s i.bytes y e hz h1]
    exact GrowsTo.refl _
/-- It comes to an end. -/
theorem linesX_done {U : Type} (t : Teller U) (fin : U → U × Outs) (drop : U → U) (h : ∀ u x, (t u x).2.2 = false) (held : LS U → Int) (u : U) (x : List UInt8) : Done (linesX t fin drop held) (finalM (linesX t fin drop held) 0 ⟨true, false, [], u⟩ x true) := by
  obtain ⟨-, h2, h3⟩ := linesX_final t fin drop h held u x true (0, 0, 0)
  cases hr : (readL x true (0, 0, 0)).2.1 with
  | true => exact .inl (h2 hr).1
  | false =>
    rcases h3 (by rw [hr]; decide) with h | h
    · exact .inl h.2.1
    · exfalso
      unfold readL at hr h
      rcases hc : cutL [] x with ⟨L, _ | d⟩
      · rw [hc] at h
        have := h.1
        simp at this
      · rw [hc] at hr
        simp at hr

end Go.Proofs.YtmmhpjhmobhdiaaDoor
