/- Plainly: what a machine of lines comes to when it is driven, whatever the chunks. -/
import Derived.Test.YtlflhjgfegflfaaDoorDdefs
namespace Go.Proofs.YtlflhjgfegflfaaDoor

section
variable {U : Type} (tell : Teller U)
/-- What comes of all of an input. -/
def finalB (s : LS U) (x : List UInt8) (ended : Bool) : LS U × Outs × Int :=
  if (feedB tell x s).1.live = true ∧ ended = true then ((endB tell (feedB tell x s).1).1, (feedB tell x s).2.1 ++ (endB tell (feedB tell x s).1).2.1, (endB tell (feedB tell x s).1).2.2)
  else feedB tell x s
theorem feedB_err : ∀ (x : List UInt8) (s : LS U), (feedB tell x s).2.2 = 0 ∨ (feedB tell x s).1.live = false
  | [], s => .inl rfl
  | c :: r, s => by
    by_cases hl : s.live = true
    · by_cases hc : c = 10
      · subst hc
        rw [feedB_end tell r s hl]
        exact feedB_err r _
      · by_cases h64 : s.b.length = 64
        · rw [feedB_long tell c r s hl hc h64]; exact .inr rfl
        · rw [feedB_put tell c r s hl hc h64]; exact feedB_err r _
    · rw [feedB_dead tell _ s (by simpa using hl)]; exact .inl rfl
theorem finalB_dead (s : LS U) (x : List UInt8) (e : Bool) (h : s.live = false) : finalB tell s x e = (s, [], 0) := by
  unfold finalB
  rw [feedB_dead tell x s h, if_neg (by simp [h])]
theorem finalB_append (x y : List UInt8) (s : LS U) (e : Bool) : finalB tell s (x ++ y) e = ((finalB tell (feedB tell x s).1 y e).1, (feedB tell x s).2.1 ++ (finalB tell (feedB tell x s).1 y e).2.1, if (feedB tell x s).2.2 = 0 then (finalB tell (feedB tell x s).1 y e).2.2 else (feedB tell x s).2.2) := by
  rcases feedB_err tell x s with h | h
  · rw [if_pos h]
    unfold finalB
    rw [feedB_append tell x y s, if_pos h]
    simp only
    by_cases hc : (feedB tell y (feedB tell x s).1).1.live = true ∧ e = true
    · rw [if_pos hc, if_pos hc]; simp
    · rw [if_neg hc, if_neg hc]
  · rw [finalB_dead tell _ y e h]
    unfold finalB
    rw [feedB_append tell x y s, feedB_dead tell y _ h]
    rw [if_neg (by simp [h])]
end

theorem putOuts_append (f : Nat → List UInt8) (a b : Outs) : putOuts f (a ++ b) = putOuts (putOuts f a) b := by simp [putOuts, List.foldl_append]
theorem putOuts_nil (f : Nat → List UInt8) : putOuts f [] = f := rfl

/-- Whatever the chunks: the whole of the input. -/
theorem drive_lines {U : Type} (tell : Teller U) (i : Strm) (cuts : List Int) : ∀ (f n : Nat) (x : DS (LS U)), x.got.need = needOf x.s → x.got.err = 0 → x.got.taken 0 ≤ i.bytes.length → x.told 0 = false → i.bytes.length - x.got.taken 0 + 2 ≤ f →
    (drive (linesM tell) [i] cuts f n x).s = (finalB tell x.s (i.bytes.drop (x.got.taken 0)) i.ended).1 ∧ (drive (linesM tell) [i] cuts f n x).got.outs = putOuts x.got.outs (finalB tell x.s (i.bytes.drop (x.got.taken 0)) i.ended).2.1 ∧
    (drive (linesM tell) [i] cuts f n x).got.err = (finalB tell x.s (i.bytes.drop (x.got.taken 0)) i.ended).2.2 ∧ (drive (linesM tell) [i] cuts f n x).got.need = needOf (finalB tell x.s (i.bytes.drop (x.got.taken 0)) i.ended).1 := by
  intro f
  induction f with
  | zero => intro n x _ _ _ _ h; omega
  | succ f ih =>
    intro n x hn he ht ho hf
    by_cases hl : x.s.live = true
    · have hn0 : x.got.need = 0 := by rw [hn, needOf, if_pos hl]
      have hk : x.got.need.toNat = 0 := by rw [hn0]; rfl
      rw [drive, if_pos ⟨he, by rw [hn0]; decide⟩]
      by_cases hlt : x.got.taken 0 < i.bytes.length
      · have hs : step (linesM tell) [i] cuts n x = some (after (linesM tell) (took x 0 (toAt cuts x n 0 i.bytes)) ((linesM tell).feed x.s (chunkAt cuts x n 0 i.bytes))) := by
          rw [step, if_neg (by rw [hn0]; decide), hk]
          simp only [List.getElem?_cons_zero]
          rw [if_pos hlt]
        rw [hs]
        simp only
        have hc := cutAt_le cuts n
        have hq1 : x.got.taken 0 < toAt cuts x n 0 i.bytes := by unfold toAt; omega
        have hq2 : toAt cuts x n 0 i.bytes ≤ i.bytes.length := by unfold toAt; omega
        have hch : chunkAt cuts x n 0 i.bytes = (i.bytes.take (toAt cuts x n 0 i.bytes)).drop (x.got.taken 0) := rfl
        generalize toAt cuts x n 0 i.bytes = q at hq1 hq2 hch ⊢
        generalize chunkAt cuts x n 0 i.bytes = ch at hch ⊢
        have hsplit : i.bytes.drop (x.got.taken 0) = ch ++ i.bytes.drop q := by
          rw [hch]
          have h1 := List.take_append_drop q i.bytes
          have h2 := congrArg (List.drop (x.got.taken 0)) h1
          rw [List.drop_append_of_le_length (by simp; omega)] at h2
          exact h2.symm
        rw [hsplit, finalB_append]
        have hy1 : (after (linesM tell) (took x 0 q) ((linesM tell).feed x.s ch)).s = (feedB tell ch x.s).1 := rfl
        have hy2 : (after (linesM tell) (took x 0 q) ((linesM tell).feed x.s ch)).got.outs = putOuts x.got.outs (feedB tell ch x.s).2.1 := rfl
        have hy3 : (after (linesM tell) (took x 0 q) ((linesM tell).feed x.s ch)).got.err = (feedB tell ch x.s).2.2 := rfl
        have hy4 : (after (linesM tell) (took x 0 q) ((linesM tell).feed x.s ch)).got.need = needOf (feedB tell ch x.s).1 := rfl
        have hy5 : (after (linesM tell) (took x 0 q) ((linesM tell).feed x.s ch)).got.taken 0 = q := rfl
        have hy6 : (after (linesM tell) (took x 0 q) ((linesM tell).feed x.s ch)).told 0 = x.told 0 := rfl
        by_cases he0 : (feedB tell ch x.s).2.2 = 0
        · have := ih (n + 1) (after (linesM tell) (took x 0 q) ((linesM tell).feed x.s ch)) (by rw [hy4, hy1]) (by rw [hy3, he0]) (by rw [hy5]; exact hq2) (by rw [hy6, ho]) (by rw [hy5]; omega)
          rw [hy1, hy5, hy2] at this
          obtain ⟨h1, h2, h3, h4⟩ := this
          rw [if_pos he0]
          exact ⟨h1, by rw [h2, putOuts_append], h3, h4⟩
        · have hd : (feedB tell ch x.s).1.live = false := (feedB_err tell ch x.s).resolve_left he0
          rw [drive_stop _ _ _ _ _ _ (by rw [hy3]; exact fun h => he0 h.1), if_neg he0, finalB_dead tell _ _ _ hd]
          exact ⟨hy1, by rw [hy2]; simp, hy3, hy4⟩
      · have hd : i.bytes.drop (x.got.taken 0) = [] := List.drop_of_length_le (by omega)
        rw [hd]
        by_cases hend : i.ended = true
        · have hs : step (linesM tell) [i] cuts n x = some (after (linesM tell) (tells x 0) ((linesM tell).fin x.s)) := by
            rw [step, if_neg (by rw [hn0]; decide), hk]
            simp only [List.getElem?_cons_zero]
            rw [if_neg hlt, if_pos ⟨hend, ho⟩]
          rw [hs]
          simp only
          have hfin : finalB tell x.s [] i.ended = endB tell x.s := by
            unfold finalB
            rw [if_pos ⟨by simpa [feedB] using hl, hend⟩]
            simp [feedB]
          have hdead : (endB tell x.s).1.live = false := by unfold endB; split <;> rfl
          have hy4 : (after (linesM tell) (tells x 0) ((linesM tell).fin x.s)).got.need = needOf (endB tell x.s).1 := rfl
          rw [drive_stop _ _ _ _ _ _ (by rw [hy4, needOf, hdead]; simp), hfin]
          exact ⟨rfl, rfl, rfl, rfl⟩
        · have hs : step (linesM tell) [i] cuts n x = none := by
            rw [step, if_neg (by rw [hn0]; decide), hk]
            simp only [List.getElem?_cons_zero]
            rw [if_neg hlt, if_neg (fun h => hend h.1)]
          rw [hs]
          simp only
          have hfin : finalB tell x.s [] i.ended = (x.s, [], 0) := by
            unfold finalB
            rw [if_neg (fun h => hend h.2)]
            rfl
          rw [hfin]
          exact ⟨rfl, rfl, he, hn⟩
    · have hdead : x.s.live = false := by simpa using hl
      have hn1 : x.got.need = -1 := by rw [hn, needOf, hdead]; simp
      rw [drive_stop _ _ _ _ _ _ (fun h => h.2 hn1), finalB_dead tell _ _ _ hdead]
      exact ⟨rfl, rfl, he, hn⟩

/-- What a machine comes to: what goes out, what it needs, its error. -/
structure Fin where
  outs : Nat → List UInt8
  need : Int
  err : Int
/-- The document's lines of an input: its lines as far as they are sure, whether that is all, the error behind them. -/
def readL (x : List UInt8) (ended : Bool) (e : Int × Int × Int) : Lines × Bool × (Int × Int × Int) :=
  match cutL [] x with
  | (L, none) => (L, false, (20, -1, 0))
  | (L, some d) => if ended then (L ++ (if d = [] then [] else [d]), true, (0, 0, 0)) else (L, false, e)

end Go.Proofs.YtlflhjgfegflfaaDoor
