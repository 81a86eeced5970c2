/- Plainly: what a machine of lines comes to when it is driven, whatever the chunks; and head. -/
import Derived.Test.YtfdgkjmdbcehiaaDoorHnew
import Derived.Test.YtfdgkjmdbcehiaaDoorDdefs
namespace Go.Proofs.YtfdgkjmdbcehiaaDoor

section
variable {U : Type} (tell : Teller U)
/-- What comes of all of an input. -/
def finalB (s : LS U) (x : List UInt8) (ended : Bool) : LS U × Outs × Int :=
  if (feedB tell x s).1.live = true ∧ ended = true then ((endB tell (feedB tell x s).1).1, (feedB tell x s).2.1 ++ (endB tell (feedB tell x s).1).2.1, (endB tell (feedB tell x s).1).2.2)
  else feedB tell x s
theorem feedB_err : ∀ (x : List UInt8) (s : LS U), (feedB tell x s).2.2 = 0 ∨ (feedB tell x s).1.live = false
  | [], s => .inl rfl
  | c :: r, s => by
    by_cases hl : s.live = true
    · by_cases hc : c = 10
      · subst hc
        rw [feedB_end tell r s hl]
        exact feedB_err r _
      · by_cases h64 : s.b.length = 64
        · rw [feedB_long tell c r s hl hc h64]; exact .inr rfl
        · rw [feedB_put tell c r s hl hc h64]; exact feedB_err r _
    · rw [feedB_dead tell _ s (by simpa using hl)]; exact .inl rfl
theorem finalB_dead (s : LS U) (x : List UInt8) (e : Bool) (h : s.live = false) : finalB tell s x e = (s, [], 0) := by
  unfold finalB
  rw [feedB_dead tell x s h, if_neg (by simp [h])]
theorem finalB_append (x y : List UInt8) (s : LS U) (e : Bool) : finalB tell s (x ++ y) e = ((finalB tell (feedB tell x s).1 y e).1, (feedB tell x s).2.1 ++ (finalB tell (feedB tell x s).1 y e).2.1, if (feedB tell x s).2.2 = 0 then (finalB tell (feedB tell x s).1 y e).2.2 else (feedB tell x s).2.2) := by
  rcases feedB_err tell x s with h | h
  · rw [if_pos h]
    unfold finalB
    rw [feedB_append tell x y s, if_pos h]
    simp only
    by_cases hc : (feedB tell y (feedB tell x s).1).1.live = true ∧ e = true
    · rw [if_pos hc, if_pos hc]; simp
    · rw [if_neg hc, if_neg hc]
  · rw [finalB_dead tell _ y e h]
    unfold finalB
    rw [feedB_append tell x y s, feedB_dead tell y _ h]
    rw [if_neg (by simp [h])]
end

theorem putOuts_append (f : Nat → List UInt8) (a b : Outs) : putOuts f (a ++ b) = putOuts (putOuts f a) b := by simp [putOuts, List.foldl_append]
theorem putOuts_nil (f : Nat → List UInt8) : putOuts f [] = f := rfl

/-- Whatever the chunks: the whole of the input. -/
theorem drive_lines {U : Type} (tell : Teller U) (i : Strm) (cuts : List Int) : ∀ (f n : Nat) (x : DS (LS U)), x.got.need = needOf x.s → x.got.err = 0 → x.got.taken 0 ≤ i.bytes.length → x.told 0 = false → i.bytes.length - x.got.taken 0 + 2 ≤ f →
    (drive (linesM tell) [i] cuts f n x).s = (finalB tell x.s (i.bytes.drop (x.got.taken 0)) i.ended).1 ∧ (drive (linesM tell) [i] cuts f n x).got.outs = putOuts x.got.outs (finalB tell x.s (i.bytes.drop (x.got.taken 0)) i.ended).2.1 ∧
    (drive (linesM tell) [i] cuts f n x).got.err = (finalB tell x.s (i.bytes.drop (x.got.taken 0)) i.ended).2.2 ∧ (drive (linesM tell) [i] cuts f n x).got.need = needOf (finalB tell x.s (i.bytes.drop (x.got.taken 0)) i.ended).1 := by
  intro f
  induction f with
  | zero => intro n x _ _ _ _ h; omega
  | succ f ih =>
    intro n x hn he ht ho hf
    by_cases hl : x.s.live = true
    · have hn0 : x.got.need = 0 := by rw [hn, needOf, if_pos hl]
      have hk : x.got.need.toNat = 0 := by rw [hn0]; rfl
      rw [drive, if_pos ⟨he, by rw [hn0]; decide⟩]
      by_cases hlt : x.got.taken 0 < i.bytes.length
      · have hs : step (linesM tell) [i] cuts n x = some (after (linesM tell) (took x 0 (toAt cuts x n 0 i.bytes)) ((linesM tell).feed x.s (chunkAt cuts x n 0 i.bytes))) := by
          rw [step, if_neg (by rw [hn0]; decide), hk]
          simp only [List.getElem?_cons_zero]
          rw [if_pos hlt]
        rw [hs]
        simp only
        have hc := cutAt_le cuts n
        have hq1 : x.got.taken 0 < toAt cuts x n 0 i.bytes := by unfold toAt; omega
        have hq2 : toAt cuts x n 0 i.bytes ≤ i.bytes.length := by unfold toAt; omega
        have hch : chunkAt cuts x n 0 i.bytes = (i.bytes.take (toAt cuts x n 0 i.bytes)).drop (x.got.taken 0) := rfl
        generalize toAt cuts x n 0 i.bytes = q at hq1 hq2 hch ⊢
        generalize chunkAt cuts x n 0 i.bytes = ch at hch ⊢
        have hsplit : i.bytes.drop (x.got.taken 0) = ch ++ i.bytes.drop q := by
          rw [hch]
          have h1 := List.take_append_drop q i.bytes
          have h2 := congrArg (List.drop (x.got.taken 0)) h1
          rw [List.drop_append_of_le_length (by simp; omega)] at h2
          exact h2.symm
        rw [hsplit, finalB_append]
        have hy1 : (after (linesM tell) (took x 0 q) ((linesM tell).feed x.s ch)).s = (feedB tell ch x.s).1 := rfl
        have hy2 : (after (linesM tell) (took x 0 q) ((linesM tell).feed x.s ch)).got.outs = putOuts x.got.outs (feedB tell ch x.s).2.1 := rfl
        have hy3 : (after (linesM tell) (took x 0 q) ((linesM tell).feed x.s ch)).got.err = (feedB tell ch x.s).2.2 := rfl
        have hy4 : (after (linesM tell) (took x 0 q) ((linesM tell).feed x.s ch)).got.need = needOf (feedB tell ch x.s).1 := rfl
        have hy5 : (after (linesM tell) (took x 0 q) ((linesM tell).feed x.s ch)).got.taken 0 = q := rfl
        have hy6 : (after (linesM tell) (took x 0 q) ((linesM tell).feed x.s ch)).told 0 = x.told 0 := rfl
        by_cases he0 : (feedB tell ch x.s).2.2 = 0
        · have := ih (n + 1) (after (linesM tell) (took x 0 q) ((linesM tell).feed x.s ch)) (by rw [hy4, hy1]) (by rw [hy3, he0]) (by rw [hy5]; exact hq2) (by rw [hy6, ho]) (by rw [hy5]; omega)
          rw [hy1, hy5, hy2] at this
          obtain ⟨h1, h2, h3, h4⟩ := this
          rw [if_pos he0]
          exact ⟨h1, by rw [h2, putOuts_append], h3, h4⟩
        · have hd : (feedB tell ch x.s).1.live = false := (feedB_err tell ch x.s).resolve_left he0
          rw [drive_stop _ _ _ _ _ _ (by rw [hy3]; exact fun h => he0 h.1), if_neg he0, finalB_dead tell _ _ _ hd]
          exact ⟨hy1, by rw [hy2]; simp, hy3, hy4⟩
      · have hd : i.bytes.drop (x.got.taken 0) = [] := List.drop_of_length_le (by omega)
        rw [hd]
        by_cases hend : i.ended = true
        · have hs : step (linesM tell) [i] cuts n x = some (after (linesM tell) (tells x 0) ((linesM tell).fin x.s)) := by
            rw [step, if_neg (by rw [hn0]; decide), hk]
            simp only [List.getElem?_cons_zero]
            rw [if_neg hlt, if_pos ⟨hend, ho⟩]
          rw [hs]
          simp only
          have hfin : finalB tell x.s [] i.ended = endB tell x.s := by
            unfold finalB
            rw [if_pos ⟨by simpa [feedB] using hl, hend⟩]
            simp [feedB]
          have hdead : (endB tell x.s).1.live = false := by unfold endB; split <;> rfl
          have hy4 : (after (linesM tell) (tells x 0) ((linesM tell).fin x.s)).got.need = needOf (endB tell x.s).1 := rfl
          rw [drive_stop _ _ _ _ _ _ (by rw [hy4, needOf, hdead]; simp), hfin]
          exact ⟨rfl, rfl, rfl, rfl⟩
        · have hs : step (linesM tell) [i] cuts n x = none := by
            rw [step, if_neg (by rw [hn0]; decide), hk]
            simp only [List.getElem?_cons_zero]
            rw [if_neg hlt, if_neg (fun h => hend h.1)]
          rw [hs]
          simp only
          have hfin : finalB tell x.s [] i.ended = (x.s, [], 0) := by
            unfold finalB
            rw [if_neg (fun h => hend h.2)]
            rfl
          rw [hfin]
          exact ⟨rfl, rfl, he, hn⟩
    · have hdead : x.s.live = false := by simpa using hl
      have hn1 : x.got.need = -1 := by rw [hn, needOf, hdead]; simp
      rw [drive_stop _ _ _ _ _ _ (fun h => h.2 hn1), finalB_dead tell _ _ _ hdead]
      exact ⟨rfl, rfl, he, hn⟩

/-! Head. -/
theorem length_cut_pos {L : Lines} {u : Nat} (h : u ≤ L.length) (h1 : 1 ≤ u) : ∃ l r, L = l :: r ∧ u - 1 ≤ r.length := by
  cases L with
  | nil => simp at h; omega
  | cons l r => exact ⟨l, r, rfl, by simp at h; omega⟩
def outsOf (L : Lines) : Outs := L.map fun l => (0, l ++ [10])
/-- What head comes to, of the lines that were cut. -/
def headCut (u : Nat) (c : Lines × Option (List UInt8)) : LS Nat × Outs × Int :=
  if u ≤ c.1.length then (⟨false, false, [], 0⟩, outsOf (c.1.take u), 0)
  else match c.2 with
    | none => (⟨false, true, [], u - c.1.length⟩, outsOf c.1, 20)
    | some d => (⟨true, false, d, u - c.1.length⟩, outsOf c.1, 0)
theorem headCut_cons (u : Nat) (b : List UInt8) (L : Lines) (o : Option (List UInt8)) : headCut (u + 1) (b :: L, o) = ((headCut u (L, o)).1, (0, b ++ [10]) :: (headCut u (L, o)).2.1, (headCut u (L, o)).2.2) := by
  unfold headCut
  by_cases h : u ≤ L.length
  · simp [h, outsOf]
  · cases o <;> simp [h, outsOf]
theorem feedB_head : ∀ (x b : List UInt8) (u : Nat), 1 ≤ u → feedB headT x ⟨true, false, b, u⟩ = headCut u (cutL b x)
  | [], b, u, h => by
    simp [feedB, cutL, headCut, outsOf]
    omega
  | c :: r, b, u, h => by
    by_cases hc : c = 10
    · subst hc
      rw [feedB_end headT r ⟨true, false, b, u⟩ rfl, cutL_end]
      simp only [headT]
      by_cases h1 : u - 1 = 0
      · have hu : u = 1 := by omega
        subst hu
        rw [feedB_dead _ _ _ (by simp)]
        simp [headCut, outsOf]
      · have ih := feedB_head r [] (u - 1) (by omega)
        obtain ⟨v, rfl⟩ : ∃ v, u = v + 1 := ⟨u - 1, by omega⟩
        rw [decide_eq_false h1]
        simp only [Bool.not_false]
        rw [ih]
        rw [show v + 1 - 1 = v by omega] at h1 ⊢
        rw [headCut_cons v b _ _]
        rfl
    · by_cases h64 : b.length = 64
      · rw [feedB_long headT c r ⟨true, false, b, u⟩ rfl hc h64, cutL_long b r c hc h64]
        simp [headCut, outsOf]
        omega
      · rw [feedB_put headT c r ⟨true, false, b, u⟩ rfl hc h64, cutL_put b r c hc h64]
        exact feedB_head r (b ++ [c]) u h

/-- The document's lines of an input: its lines as far as they are sure, whether that is all, the error behind them. -/
def readL (x : List UInt8) (ended : Bool) (e : Int × Int × Int) : Lines × Bool × (Int × Int × Int) :=
  match cutL [] x with
  | (L, none) => (L, false, (20, -1, 0))
  | (L, some d) => if ended then (L ++ (if d = [] then [] else [d]), true, (0, 0, 0)) else (L, false, e)
/-- What head comes to. -/
theorem head_final (N : Nat) (x : List UInt8) (ended : Bool) (e : Int × Int × Int) :
    (finalB headT (headS N) x ended).2.1 = outsOf ((readL x ended e).1.take N) ∧
    (((readL x ended e).2.1 = true ∨ N ≤ (readL x ended e).1.length) → (finalB headT (headS N) x ended).1.live = false ∧ (finalB headT (headS N) x ended).2.2 = 0) ∧
    (¬ ((readL x ended e).2.1 = true ∨ N ≤ (readL x ended e).1.length) → (readL x ended e).2.2 = (20, -1, 0) ∧ (finalB headT (headS N) x ended).1.live = false ∧ (finalB headT (headS N) x ended).2.2 = 20 ∨
      (readL x ended e).2.2 = e ∧ (finalB headT (headS N) x ended).1.live = true ∧ (finalB headT (headS N) x ended).2.2 = 0) := by
  by_cases hN : N = 0
  · subst hN
    rw [finalB_dead headT _ _ _ (by simp [headS])]
    simp [outsOf, headS]
  · have hs : headS N = ⟨true, false, [], N⟩ := by simp [headS, hN]
    have hf := feedB_head x [] N (by omega)
    have hcl := cutL_le x [] (by simp)
    unfold finalB readL
    rw [hs, hf]
    unfold headCut
    rcases hc : cutL [] x with ⟨L, _ | d⟩
    · simp only [Bool.false_eq_true, false_or]
      by_cases hle : N ≤ L.length
      · rw [if_pos hle]
        simp [hle]
      · rw [if_neg hle]
        simp [hle, List.take_of_length_le (show L.length ≤ N by omega)]
    · by_cases hle : N ≤ L.length
      · rw [if_pos hle]
        cases ended
        · simp [hle]
        · simp only [if_true, Bool.false_eq_true, false_and, if_false]
          refine ⟨?_, fun _ => ⟨trivial, trivial⟩, fun h => absurd (.inl trivial) h⟩
          rw [List.take_append_of_le_length hle]
      · rw [if_neg hle]
        cases ended
        · simp [hle, List.take_of_length_le (show L.length ≤ N by omega)]
        · simp only [if_true, and_self]
          unfold endB
          by_cases hd : d = []
          · subst hd
            simp [List.take_of_length_le (show L.length ≤ N by omega)]
          · simp only [hd, if_false]
            refine ⟨?_, fun _ => ⟨trivial, trivial⟩, fun h => absurd (.inl trivial) h⟩
            rw [List.take_of_length_le (by simp; omega)]
            simp [outsOf, headT]

end Go.Proofs.YtfdgkjmdbcehiaaDoor
