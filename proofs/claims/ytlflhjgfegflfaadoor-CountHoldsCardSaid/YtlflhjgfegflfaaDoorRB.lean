/- Plainly: with more of an input, what came out is a beginning of what comes out then. -/
import Derived.Test.YtlflhjgfegflfaaDoorDlines
import Derived.Test.YtlflhjgfegflfaaDoorDdefs
namespace Go.Proofs.YtlflhjgfegflfaaDoor

/-- An input, and more of it. -/
def Longer (i i' : Strm) : Prop := i' = i ∨ (i.ended = false ∧ ∃ y e, i' = ⟨i.bytes ++ y, e, i.code, i.stage, i.id⟩)
/-- What comes of both. -/
def GrowsTo (F F' : Fin) : Prop := (∀ j, ∃ r, F'.outs j = F.outs j ++ r) ∧ (F.need = -1 → F'.outs = F.outs ∧ F'.need = -1 ∧ F'.err = F.err)
theorem GrowsTo.refl (F : Fin) : GrowsTo F F := ⟨fun j => ⟨[], by simp⟩, fun h => ⟨rfl, h, rfl⟩⟩
theorem putOuts_more : ∀ (L : Outs) (f : Nat → List UInt8) (j : Nat), ∃ r, putOuts f L j = f j ++ r
  | [], f, j => ⟨[], by simp [putOuts]⟩
  | t :: L, f, j => by
    obtain ⟨r, hr⟩ := putOuts_more L (fun i => if i = t.1 then f i ++ t.2 else f i) j
    have h : putOuts f (t :: L) j = (if j = t.1 then f j ++ t.2 else f j) ++ r := hr
    by_cases hj : j = t.1
    · exact ⟨t.2 ++ r, by rw [h, if_pos hj, List.append_assoc]⟩
    · exact ⟨r, by rw [h, if_neg hj]⟩

end Go.Proofs.YtlflhjgfegflfaaDoor

namespace Go.Proofs.YtlflhjgfegflfaaDoor

section
variable {U : Type} (t : Teller U)
/-- What comes of lines, one behind the other. -/
def runT : U → Lines → U × Outs
  | u, [] => (u, [])
  | u, l :: r => ((runT (t u l).1 r).1, (t u l).2.1 ++ (runT (t u l).1 r).2)
theorem runT_append : ∀ (L M : Lines) (u : U), runT t u (L ++ M) = ((runT t (runT t u L).1 M).1, (runT t u L).2 ++ (runT t (runT t u L).1 M).2)
  | [], M, u => by simp [runT]
  | l :: r, M, u => by
    rw [List.cons_append, runT, runT_append r M, runT]
    simp
/-- What a machine comes to, of the lines that were cut. -/
def runCut (u : U) (c : Lines × Option (List UInt8)) : LS U × Outs × Int :=
  match c.2 with
  | none => (⟨false, true, [], (runT t u c.1).1⟩, (runT t u c.1).2, 20)
  | some d => (⟨true, false, d, (runT t u c.1).1⟩, (runT t u c.1).2, 0)
theorem runCut_cons (u : U) (b : List UInt8) (L : Lines) (o : Option (List UInt8)) : runCut t u (b :: L, o) = ((runCut t (t u b).1 (L, o)).1, (t u b).2.1 ++ (runCut t (t u b).1 (L, o)).2.1, (runCut t (t u b).1 (L, o)).2.2) := by
  cases o <;> rfl
theorem feedB_run (h : ∀ u x, (t u x).2.2 = false) : ∀ (x b : List UInt8) (u : U), feedB t x ⟨true, false, b, u⟩ = runCut t u (cutL b x)
  | [], b, u => by simp [feedB, cutL, runCut, runT]
  | c :: r, b, u => by
    by_cases hc : c = 10
    · subst hc
      rw [feedB_end t r ⟨true, false, b, u⟩ rfl, cutL_end, runCut_cons]
      simp only [h, Bool.not_false]
      rw [feedB_run h r []]
    · by_cases h64 : b.length = 64
      · rw [feedB_long t c r ⟨true, false, b, u⟩ rfl hc h64, cutL_long b r c hc h64]
        simp [runCut, runT]
      · rw [feedB_put t c r ⟨true, false, b, u⟩ rfl hc h64, cutL_put b r c hc h64]
        exact feedB_run h r (b ++ [c]) u

/-- What a machine comes to, of a whole input. -/
theorem run_final (h : ∀ u x, (t u x).2.2 = false) (u : U) (x : List UInt8) (ended : Bool) (e : Int × Int × Int) :
    (finalB t ⟨true, false, [], u⟩ x ended).2.1 = (runT t u (readL x ended e).1).2 ∧
    ((readL x ended e).2.1 = true → (finalB t ⟨true, false, [], u⟩ x ended).1.live = false ∧ (finalB t ⟨true, false, [], u⟩ x ended).2.2 = 0) ∧
    (¬ (readL x ended e).2.1 = true → (readL x ended e).2.2 = (20, -1, 0) ∧ (finalB t ⟨true, false, [], u⟩ x ended).1.live = false ∧ (finalB t ⟨true, false, [], u⟩ x ended).2.2 = 20 ∨
      (readL x ended e).2.2 = e ∧ (finalB t ⟨true, false, [], u⟩ x ended).1.live = true ∧ (finalB t ⟨true, false, [], u⟩ x ended).2.2 = 0) := by
  have hf := feedB_run t h x [] u
  unfold finalB readL
  rw [hf]
  unfold runCut
  rcases hc : cutL [] x with ⟨L, _ | d⟩
  · simp
  · cases ended
    · simp
    · simp only [if_true, and_self]
      unfold endB
      by_cases hd : d = []
      · subst hd
        simp
      · simp only [hd, if_false]
        refine ⟨?_, fun _ => ⟨trivial, trivial⟩, fun h => absurd trivial h⟩
        rw [runT_append]
        simp [runT]

/-- With more of its input. -/
theorem run_grows (s : LS U) (i i' : Strm) (h : Longer i i') : GrowsTo ⟨putOuts (fun _ => []) (finalB t s i.bytes i.ended).2.1, needOf (finalB t s i.bytes i.ended).1, (finalB t s i.bytes i.ended).2.2⟩
    ⟨putOuts (fun _ => []) (finalB t s i'.bytes i'.ended).2.1, needOf (finalB t s i'.bytes i'.ended).1, (finalB t s i'.bytes i'.ended).2.2⟩ := by
  rcases h with rfl | ⟨he, y, e, rfl⟩
  · exact GrowsTo.refl _
  have happ := finalB_append t i.bytes y s e
  have hf : finalB t s i.bytes i.ended = feedB t i.bytes s := by
    unfold finalB
    rw [he, if_neg (fun k => by simp at k)]
  simp only
  rw [hf, happ]
  generalize feedB t i.bytes s = A
  refine ⟨fun j => ?_, fun hn => ?_⟩
  · simp only
    rw [putOuts_append]
    exact putOuts_more _ _ j
  · have hd : A.1.live = false := by
      unfold needOf at hn
      simp only at hn
      cases hl : A.1.live with
      | false => rfl
      | true => rw [hl] at hn; simp at hn
    rw [finalB_dead t A.1 y e hd]
    simp only [List.append_nil]
    refine ⟨trivial, hn, ?_⟩
    split
    · rename_i h; rw [h]
    · rfl
end

theorem drive_held {U : Type} (tell : Teller U) (ins : List Strm) (cuts : List Int) : ∀ (f n : Nat) (x : DS (LS U)), x.got.held ≤ 64 → x.s.b.length ≤ 64 → (drive (linesM tell) ins cuts f n x).got.held ≤ 64 ∧ (drive (linesM tell) ins cuts f n x).s.b.length ≤ 64 := by
  intro f
  induction f with
  | zero => intro n x h1 h2; exact ⟨h1, h2⟩
  | succ f ih =>
    intro n x h1 h2
    rw [drive]
    split
    · cases hs : step (linesM tell) ins cuts n x with
      | none => exact ⟨h1, h2⟩
      | some y =>
        have hy : y.got.held ≤ 64 ∧ y.s.b.length ≤ 64 := by
          have key : ∀ (x' : DS (LS U)) (r : LS U × Outs × Int), x'.got.held ≤ 64 → r.1.b.length ≤ 64 → (after (linesM tell) x' r).got.held ≤ 64 ∧ (after (linesM tell) x' r).s.b.length ≤ 64 := by
            intro x' r k1 k2
            refine ⟨?_, k2⟩
            show max x'.got.held (r.1.b.length : Int) ≤ 64
            omega
          unfold step at hs
          split at hs
          · cases hs; exact key x _ h1 h2
          · split at hs
            · cases hs
            · split at hs
              · cases hs
                exact key _ _ h1 (feedB_le tell _ _ h2)
              · split at hs
                · cases hs
                  refine key _ _ h1 ?_
                  show (endB tell x.s).1.b.length ≤ 64
                  unfold endB
                  split <;> simp
                · cases hs
        exact ih (n + 1) y hy.1 hy.2
    · exact ⟨h1, h2⟩

end Go.Proofs.YtlflhjgfegflfaaDoor

namespace Go.Proofs.YtlflhjgfegflfaaDoor
open Go.RowKit

structure LineOuts (L : Outs) (n : Nat) : Prop where
  port : ∀ t ∈ L, t.1 ≤ 3
  some : ∀ t ∈ L, t.2 ≠ []
  sum : outSum L ≤ n
  len : L.length ≤ n
theorem LineOuts.nil (n : Nat) : LineOuts [] n := ⟨(fun t ht => by cases ht), (fun t ht => by cases ht), by simp [outSum], by simp⟩
theorem LineOuts.mono {L : Outs} {n m : Nat} (h : LineOuts L n) (hn : n ≤ m) : LineOuts L m := ⟨h.port, h.some, Nat.le_trans h.sum hn, Nat.le_trans h.len hn⟩
theorem LineOuts.append {L M : Outs} {n m : Nat} (h : LineOuts L n) (k : LineOuts M m) : LineOuts (L ++ M) (n + m) := by
  refine ⟨fun t ht => ?_, fun t ht => ?_, ?_, ?_⟩
  · rcases List.mem_append.1 ht with ht | ht
    · exact h.port t ht
    · exact k.port t ht
  · rcases List.mem_append.1 ht with ht | ht
    · exact h.some t ht
    · exact k.some t ht
  · have h1 := h.sum
    have h2 := k.sum
    simp only [outSum, List.map_append, List.sum_append] at h1 h2 ⊢
    omega
  · have h1 := h.len
    have h2 := k.len
    simp only [List.length_append]
    omega
theorem LineOuts.ok {L : Outs} {n : Nat} (h : LineOuts L n) (hn : n ≤ 1024) : OutsOk L ∧ L.length ≤ 1000000 :=
  ⟨⟨h.port, h.some, by have := h.sum; omega⟩, by have := h.len; omega⟩
theorem LineOuts.one (x : List UInt8) : LineOuts [(0, x ++ [10])] (x.length + 1) :=
  ⟨fun t ht => by rw [List.mem_singleton.1 ht]; omega, fun t ht => by rw [List.mem_singleton.1 ht]; simp, by simp [outSum], by simp⟩
theorem lineOuts_feed {U : Type} (t : Teller U) (ht : ∀ u x, LineOuts (t u x).2.1 (x.length + 1)) : ∀ (x : List UInt8) (s : LS U), LineOuts (feedB t x s).2.1 (s.b.length + x.length)
  | [], s => LineOuts.nil _
  | c :: r, s => by
    by_cases hl : s.live = true
    · by_cases hc : c = 10
      · subst hc
        rw [feedB_end t r s hl]
        refine ((ht s.u s.b).append (lineOuts_feed t ht r _)).mono ?_
        simp
        omega
      · by_cases h64 : s.b.length = 64
        · rw [feedB_long t c r s hl hc h64]
          exact LineOuts.nil _
        · rw [feedB_put t c r s hl hc h64]
          refine (lineOuts_feed t ht r _).mono ?_
          simp
          omega
    · rw [feedB_dead t _ s (by simpa using hl)]
      exact LineOuts.nil _
theorem lineOuts_end {U : Type} (t : Teller U) (ht : ∀ u x, LineOuts (t u x).2.1 (x.length + 1)) (s : LS U) : LineOuts (endB t s).2.1 (s.b.length + 1) := by
  unfold endB
  split
  · exact LineOuts.nil _
  · exact ht _ _

end Go.Proofs.YtlflhjgfegflfaaDoor
