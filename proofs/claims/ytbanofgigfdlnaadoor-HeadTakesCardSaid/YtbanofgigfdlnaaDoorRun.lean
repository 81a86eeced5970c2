/- Plainly: machines of lines that go on to the last line. -/
import Derived.Test.YtbanofgigfdlnaaDoorDlines
import Derived.Test.YtbanofgigfdlnaaDoorGrowp
namespace Go.Proofs.YtbanofgigfdlnaaDoor

section
variable {U : Type} (t : Teller U)
/-- What comes of lines, one behind the other. -/
def runT : U → Lines → U × Outs
  | u, [] => (u, [])
  | u, l :: r => ((runT (t u l).1 r).1, (t u l).2.1 ++ (runT (t u l).1 r).2)
theorem runT_append : ∀ (L M : Lines) (u : U), runT t u (L ++ M) = ((runT t (runT t u L).1 M).1, (runT t u L).2 ++ (runT t (runT t u L).1 M).2)
  | [], M, u => by simp [runT]
  | l :: r, M, u => by
    rw [List.cons_append, runT, runT_append r M, runT]
    simp
/-- What a machine comes to, of the lines that were cut. -/
def runCut (u : U) (c : Lines × Option (List UInt8)) : LS U × Outs × Int :=
  match c.2 with
  | none => (⟨false, true, [], (runT t u c.1).1⟩, (runT t u c.1).2, 20)
  | some d => (⟨true, false, d, (runT t u c.1).1⟩, (runT t u c.1).2, 0)
theorem runCut_cons (u : U) (b : List UInt8) (L : Lines) (o : Option (List UInt8)) : runCut t u (b :: L, o) = ((runCut t (t u b).1 (L, o)).1, (t u b).2.1 ++ (runCut t (t u b).1 (L, o)).2.1, (runCut t (t u b).1 (L, o)).2.2) := by
  cases o <;> rfl
theorem feedB_run (h : ∀ u x, (t u x).2.2 = false) : ∀ (x b : List UInt8) (u : U), feedB t x ⟨true, false, b, u⟩ = runCut t u (cutL b x)
  | [], b, u => by simp [feedB, cutL, runCut, runT]
  | c :: r, b, u => by
    by_cases hc : c = 10
    · subst hc
      rw [feedB_end t r ⟨true, false, b, u⟩ rfl, cutL_end, runCut_cons]
      simp only [h, Bool.not_false]
      rw [feedB_run h r []]
    · by_cases h64 : b.length = 64
      · rw [feedB_long t c r ⟨true, false, b, u⟩ rfl hc h64, cutL_long b r c hc h64]
        simp [runCut, runT]
      · rw [feedB_put t c r ⟨true, false, b, u⟩ rfl hc h64, cutL_put b r c hc h64]
        exact feedB_run h r (b ++ [c]) u

/-- What a machine comes to, of a whole input. -/
theorem run_final (h : ∀ u x, (t u x).2.2 = false) (u : U) (x : List UInt8) (ended : Bool) (e : Int × Int × Int) :
    (finalB t ⟨true, false, [], u⟩ x ended).2.1 = (runT t u (readL x ended e).1).2 ∧
    ((readL x ended e).2.1 = true → (finalB t ⟨true, false, [], u⟩ x ended).1.live = false ∧ (finalB t ⟨true, false, [], u⟩ x ended).2.2 = 0) ∧
    (¬ (readL x ended e).2.1 = true → (readL x ended e).2.2 = (20, -1, 0) ∧ (finalB t ⟨true, false, [], u⟩ x ended).1.live = false ∧ (finalB t ⟨true, false, [], u⟩ x ended).2.2 = 20 ∨
      (readL x ended e).2.2 = e ∧ (finalB t ⟨true, false, [], u⟩ x ended).1.live = true ∧ (finalB t ⟨true, false, [], u⟩ x ended).2.2 = 0) := by
  have hf := feedB_run t h x [] u
  unfold finalB readL
  rw [hf]
  unfold runCut
  rcases hc : cutL [] x with ⟨L, _ | d⟩
  · simp
  · cases ended
    · simp
    · simp only [if_true, and_self]
      unfold endB
      by_cases hd : d = []
      · subst hd
        simp
      · simp only [hd, if_false]
        refine ⟨?_, fun _ => ⟨trivial, trivial⟩, fun h => absurd trivial h⟩
        rw [runT_append]
        simp [runT]

/-- With more of its input. -/
theorem run_grows (s : LS U) (i i' : Strm) (h : Longer i i') : GrowsTo ⟨putOuts (fun _ => []) (finalB t s i.bytes i.ended).2.1, needOf (finalB t s i.bytes i.ended).1, (finalB t s i.bytes i.ended).2.2⟩
    ⟨putOuts (fun _ => []) (finalB t s i'.bytes i'.ended).2.1, needOf (finalB t s i'.bytes i'.ended).1, (finalB t s i'.bytes i'.ended).2.2⟩ := by
  rcases h with rfl | ⟨he, y, e, rfl⟩
  · exact GrowsTo.refl _
  have happ := finalB_append t i.bytes y s e
  have hf : finalB t s i.bytes i.ended = feedB t i.bytes s := by
    unfold finalB
    rw [he, if_neg (fun k => by simp at k)]
  simp only
  rw [hf, happ]
  generalize feedB t i.bytes s = A
  refine ⟨fun j => ?_, fun hn => ?_⟩
  · simp only
    rw [putOuts_append]
    exact putOuts_more _ _ j
  · have hd : A.1.live = false := by
      unfold needOf at hn
      simp only at hn
      cases hl : A.1.live with
      | false => rfl
      | true => rw [hl] at hn; simp at hn
    rw [finalB_dead t A.1 y e hd]
    simp only [List.append_nil]
    refine ⟨trivial, hn, ?_⟩
    split
    · rename_i h; rw [h]
    · rfl
end

theorem drive_held {U : Type} (tell : Teller U) (ins : List Strm) (cuts : List Int) : ∀ (f n : Nat) (x : DS (LS U)), x.got.held ≤ 64 → x.s.b.length ≤ 64 → (drive (linesM tell) ins cuts f n x).got.held ≤ 64 ∧ (drive (linesM tell) ins cuts f n x).s.b.length ≤ 64 := by
  intro f
  induction f with
  | zero => intro n x h1 h2; exact ⟨h1, h2⟩
  | succ f ih =>
    intro n x h1 h2
    rw [drive]
    split
    · cases hs : step (linesM tell) ins cuts n x with
      | none => exact ⟨h1, h2⟩
      | some y =>
        have hy : y.got.held ≤ 64 ∧ y.s.b.length ≤ 64 := by
          have key : ∀ (x' : DS (LS U)) (r : LS U × Outs × Int), x'.got.held ≤ 64 → r.1.b.length ≤ 64 → (after (linesM tell) x' r).got.held ≤ 64 ∧ (after (linesM tell) x' r).s.b.length ≤ 64 := by
            intro x' r k1 k2
            refine ⟨?_, k2⟩
            show max x'.got.held (r.1.b.length : Int) ≤ 64
            omega
          unfold step at hs
          split at hs
          · cases hs; exact key x _ h1 h2
          · split at hs
            · cases hs
            · split at hs
              · cases hs
                exact key _ _ h1 (feedB_le tell _ _ h2)
              · split at hs
                · cases hs
                  refine key _ _ h1 ?_
                  show (endB tell x.s).1.b.length ≤ 64
                  unfold endB
                  split <;> simp
                · cases hs
        exact ih (n + 1) y hy.1 hy.2
    · exact ⟨h1, h2⟩

end Go.Proofs.YtbanofgigfdlnaaDoor
