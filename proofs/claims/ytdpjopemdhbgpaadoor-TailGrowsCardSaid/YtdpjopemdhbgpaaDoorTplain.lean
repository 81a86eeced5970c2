/- Plainly: what tail comes to, whatever the chunks. -/
import Derived.Test.YtdpjopemdhbgpaaDoorTmach
import Derived.Test.YtdpjopemdhbgpaaDoorDone
namespace Go.Proofs.YtdpjopemdhbgpaaDoor

theorem tail_one (N : Nat) : One (tailMach N) where
  nil s h := by
    obtain ⟨ls, p⟩ := s
    have hp : p = false := by
      cases p with
      | false => rfl
      | true => exact absurd (show tneed ⟨ls, true⟩ = 0 from h) (by simp [tneed])
    subst hp
    rfl
  app s x y h := by
    have happ := feedB_append (tailT N) x y s.ls
    have herr := feedB_err (tailT N) x s.ls
    simp only [tailMach]
    rw [happ]
    generalize feedB (tailT N) x s.ls = A at herr ⊢
    obtain ⟨⟨live, fail, b, u⟩, o, e⟩ := A
    simp only at herr ⊢
    cases live with
    | true =>
      have he : e = 0 := herr.resolve_right (by simp)
      subst he
      simp [tneed, needOf]
    | false =>
      rw [feedB_dead (tailT N) y _ rfl]
      by_cases he : e = 0 <;> simp [tneed, needOf, he]
  fed s x h := by
    show tneed ⟨_, false⟩ = 0 ∨ tneed ⟨_, false⟩ = -1
    unfold tneed needOf
    simp only [Bool.false_eq_true, if_false]
    split
    · exact .inl rfl
    · exact .inr rfl

def tailS : TS := ⟨⟨true, false, [], []⟩, false⟩
/-- Its last lines. -/
def lastN (N : Nat) (L : Lines) : Lines := L.drop (L.length - N)
theorem lastN_le (N : Nat) (L : Lines) : (lastN N L).length ≤ N := by simp [lastN]; omega
theorem lastN_step (N : Nat) (L : Lines) (x : List UInt8) : (tailT N (lastN N L) x).1 = lastN N (L ++ [x]) := by
  simp only [tailT, lastN, List.length_append, List.length_drop, List.length_cons, List.length_nil]
  by_cases h : N ≤ L.length
  · rw [if_pos (by omega)]
    rw [show L.drop (L.length - N) ++ [x] = (L ++ [x]).drop (L.length - N) by rw [List.drop_append_of_le_length (by omega)]]
    rw [List.drop_drop]
    congr 1
    omega
  · rw [if_neg (by omega)]
    rw [show L.length - N = 0 by omega, show L.length + (0 + 1) - N = 0 by omega]
    rfl
theorem lastN_all (N : Nat) (A L : Lines) : L.foldl (fun u x => (tailT N u x).1) (lastN N A) = lastN N (A ++ L) := by
  induction L generalizing A with
  | nil => simp
  | cons l L ih =>
    rw [List.foldl_cons, lastN_step, ih]
    simp
theorem feedB_tail (N : Nat) : ∀ (x b : List UInt8) (u : Lines), feedB (tailT N) x ⟨true, false, b, u⟩ = match cutL b x with
    | (L, none) => (⟨false, true, [], L.foldl (fun u x => (tailT N u x).1) u⟩, [], 20)
    | (L, some d) => (⟨true, false, d, L.foldl (fun u x => (tailT N u x).1) u⟩, [], 0)
  | [], b, u => by simp [feedB, cutL]
  | c :: r, b, u => by
    by_cases hc : c = 10
    · subst hc
      rw [feedB_end (tailT N) r ⟨true, false, b, u⟩ rfl, cutL_end]
      simp only
      have ih := feedB_tail N r [] (tailT N u b).1
      rw [show (!(tailT N u b).2.2) = true from rfl, ih]
      rcases cutL [] r with ⟨L, _ | d⟩ <;> simp [tailT]
    · by_cases h64 : b.length = 64
      · rw [feedB_long (tailT N) c r ⟨true, false, b, u⟩ rfl hc h64, cutL_long b r c hc h64]
        rfl
      · rw [feedB_put (tailT N) c r ⟨true, false, b, u⟩ rfl hc h64, cutL_put b r c hc h64]
        exact feedB_tail N r (b ++ [c]) u
theorem outsOf_cons (l : List UInt8) (L : Lines) : (l :: L).map (fun l => ((0 : Nat), l ++ [10])) = (0, l ++ [10]) :: L.map (fun l => (0, l ++ [10])) := rfl
theorem moreAll_tail (N : Nat) (fl : Bool) (b : List UInt8) : ∀ (u : Lines) (K : Nat), u.length ≤ K →
    moreAll (tailMach N) K (⟨⟨false, fl, b, u⟩, !u.isEmpty⟩, [], 0) = (⟨⟨false, fl, b, []⟩, false⟩, u.map (fun l => (0, l ++ [10])), 0)
  | [], 0, _ => rfl
  | [], K + 1, _ => by
    rw [moreAll, if_neg (by rintro ⟨_, h⟩; simp [tailMach, tneed, needOf] at h)]
    rfl
  | l :: r, 0, h => by simp at h
  | l :: r, K + 1, h => by
    rw [moreAll, if_pos ⟨rfl, rfl⟩]
    have hm : (tailMach N).more ⟨⟨false, fl, b, l :: r⟩, !(l :: r).isEmpty⟩ = (⟨⟨false, fl, b, r⟩, !r.isEmpty⟩, [(0, l ++ [10])], 0) := rfl
    rw [hm]
    have ih := moreAll_tail N fl b r K (by simpa using h)
    have hacc := moreAll_acc (tailMach N) K ⟨⟨false, fl, b, r⟩, !r.isEmpty⟩ [(0, l ++ [10])] [] 0
    rw [List.append_nil, ih] at hacc
    simp only [List.nil_append]
    rw [hacc]
    rfl

/-- What tail comes to. -/
theorem tail_final (N : Nat) (x : List UInt8) (ended : Bool) (e : Int × Int × Int) :
    (finalM (tailMach N) N tailS x ended).2.1 = (if (readL x ended e).2.1 = true then (lastN N (readL x ended e).1).map (fun l => (0, l ++ [10])) else []) ∧
    ((readL x ended e).2.1 = true → (tailMach N).need (finalM (tailMach N) N tailS x ended).1 = -1 ∧ (finalM (tailMach N) N tailS x ended).2.2 = 0) ∧
    ((readL x ended e).2.1 = false → (readL x ended e).2.2 = (20, -1, 0) ∧ (tailMach N).need (finalM (tailMach N) N tailS x ended).1 = -1 ∧ (finalM (tailMach N) N tailS x ended).2.2 = 20 ∨
      (readL x ended e).2.2 = e ∧ (tailMach N).need (finalM (tailMach N) N tailS x ended).1 = 0 ∧ (finalM (tailMach N) N tailS x ended).2.2 = 0) := by
  have hf := feedB_tail N x [] []
  have hl0 : ([] : Lines) = lastN N [] := by simp [lastN]
  unfold finalM readL
  have hfeed : (tailMach N).feed tailS x = (⟨⟨(feedB (tailT N) x ⟨true, false, [], []⟩).1.live, (feedB (tailT N) x ⟨true, false, [], []⟩).1.fail, (feedB (tailT N) x ⟨true, false, [], []⟩).1.b, if (feedB (tailT N) x ⟨true, false, [], []⟩).2.2 = 20 then [] else (feedB (tailT N) x ⟨true, false, [], []⟩).1.u⟩, false⟩, (feedB (tailT N) x ⟨true, false, [], []⟩).2.1, (feedB (tailT N) x ⟨true, false, [], []⟩).2.2) := rfl
  rw [hfeed, hf]
  rcases hc : cutL [] x with ⟨L, _ | d⟩
  · simp [tailMach, tneed, needOf]
  · have hL : L.foldl (fun u x => (tailT N u x).1) [] = lastN N L := by rw [hl0, lastN_all]; rfl
    simp only [hL]
    cases ended
    · simp [tailMach, tneed, needOf]
    · simp only [if_true]
      rw [if_pos (by simp [tailMach, tneed, needOf])]
      have hfin : ∃ fl b, (tailMach N).fin ⟨⟨true, false, d, if (0 : Int) = 20 then [] else lastN N L⟩, false⟩ = (⟨⟨false, fl, b, lastN N (L ++ if d = [] then [] else [d])⟩, !(lastN N (L ++ if d = [] then [] else [d])).isEmpty⟩, [], 0) := by
        by_cases hd : d = []
        · subst hd
          exact ⟨false, [], by simp [tailMach, endB]⟩
        · refine ⟨false, [], ?_⟩
          have := lastN_step N L d
          simp only [tailMach, endB, hd, if_false, show ¬ ((0 : Int) = 20) by decide, this]
          rfl
      obtain ⟨fl, b, hfin⟩ := hfin
      simp only [hfin, List.nil_append]
      rw [moreAll_tail N fl b _ N (lastN_le N _)]
      refine ⟨rfl, fun _ => ⟨rfl, rfl⟩, fun h => by cases h⟩

end Go.Proofs.YtdpjopemdhbgpaaDoor
