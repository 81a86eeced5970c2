/- Plainly: split. -/
import Derived.Test.YtbblkgknnolkmaaDoorRB
import Derived.Test.YtbblkgknnolkmaaDoorDone
namespace Go.Proofs.YtbblkgknnolkmaaDoor

/-- Of lines, numbered from u on, those whose turn it is: their number modulo M is j. -/
def shareL (M j : Nat) : Nat → Lines → Lines
  | _, [] => []
  | u, l :: r => if u % M = j then l :: shareL M j (u + 1) r else shareL M j (u + 1) r
theorem shareL_append (M j : Nat) : ∀ (L K : Lines) (u : Nat), shareL M j u (L ++ K) = shareL M j u L ++ shareL M j (u + L.length) K
  | [], K, u => by simp [shareL]
  | l :: r, K, u => by
    rw [List.cons_append, shareL, shareL, shareL_append M j r K (u + 1), List.length_cons, show u + 1 + r.length = u + (r.length + 1) by omega]
    split <;> rfl
/-- Ahead of the first one whose turn it is. -/
theorem shareL_first (M j : Nat) (hj : j < M) : ∀ (K : Lines) (u : Nat), u + K.length ≤ j → shareL M j u K = []
  | [], _, _ => rfl
  | l :: r, u, h => by
    simp only [List.length_cons] at h
    rw [shareL, Nat.mod_eq_of_lt (by omega), if_neg (by omega)]
    exact shareL_first M j hj r (u + 1) (by omega)
/-- Between two whose turn it is. -/
theorem shareL_none (M j : Nat) (hj : j < M) : ∀ (K : Lines) (u d : Nat), u % M = (j + d) % M → 1 ≤ d → d + K.length ≤ M → shareL M j u K = []
  | [], _, _, _, _, _ => rfl
  | l :: r, u, d, h, h1, h2 => by
    simp only [List.length_cons] at h2
    have hne : u % M ≠ j := by
      rw [h]
      intro e
      rcases Nat.lt_or_ge (j + d) M with h3 | h3
      · rw [Nat.mod_eq_of_lt h3] at e; omega
      · rw [Nat.mod_eq_sub_mod h3, Nat.mod_eq_of_lt (by omega)] at e; omega
    rw [shareL, if_neg hne]
    exact shareL_none M j hj r (u + 1) (d + 1) (by rw [Nat.add_mod u 1 M, h, ← Nat.add_mod, Nat.add_assoc]) (by omega) (by omega)
/-- From one whose turn it is to the next. -/
theorem shareL_next {M j i : Nat} {L : Lines} {l : List UInt8} (hj : j < M) (hi : L[i]? = some l) (hm : i % M = j) : shareL M j 0 (L.take (i + M)) = shareL M j 0 (L.take i) ++ [l] := by
  have hlt := (List.getElem?_eq_some_iff.1 hi).1
  have hl := (List.getElem?_eq_some_iff.1 hi).2
  obtain ⟨m, rfl⟩ : ∃ m, M = m + 1 := ⟨M - 1, by omega⟩
  rw [List.take_add, List.drop_eq_getElem_cons hlt, hl, List.take_succ_cons, shareL_append, List.length_take, Nat.min_eq_left (by omega), Nat.zero_add, shareL, if_pos hm,
    shareL_none (m + 1) j hj _ (i + 1) 1 (by rw [Nat.add_mod i 1, hm, ← Nat.add_mod_mod j 1]) (by omega) (by simp; omega)]
theorem shareL_mem {M j : Nat} {l : List UInt8} : ∀ {L : Lines} {u : Nat}, l ∈ shareL M j u L → l ∈ L
  | [], _, h => by cases h
  | x :: r, u, h => by
    rw [shareL] at h
    split at h
    · rcases List.mem_cons.1 h with rfl | h
      · exact List.mem_cons_self
      · exact List.mem_cons_of_mem _ (shareL_mem h)
    · exact List.mem_cons_of_mem _ (shareL_mem h)
theorem shareL_length (M j : Nat) : ∀ (L : Lines) (u : Nat), (shareL M j u L).length ≤ L.length
  | [], _ => Nat.le_refl _
  | l :: r, u => by
    have := shareL_length M j r (u + 1)
    rw [shareL]
    split
    · simp only [List.length_cons]; omega
    · simp only [List.length_cons]; omega
theorem joinL_share (M j : Nat) : ∀ (L : Lines) (u : Nat), (joinL (shareL M j u L)).length ≤ (joinL L).length
  | [], _ => Nat.le_refl _
  | l :: r, u => by
    have := joinL_share M j r (u + 1)
    rw [shareL]
    split
    · simp only [joinL, List.flatMap_cons, List.length_append] at this ⊢; omega
    · simp only [joinL, List.flatMap_cons, List.length_append] at this ⊢; omega

/-- What split tells of a line, behind u others. -/
def splitT (M : Nat) : Teller Nat := fun u x => (u + 1, [(u % M, x ++ [10])], false)
theorem split_outs {M : Nat} (h1 : 1 ≤ M) (h4 : M ≤ 4) (u : Nat) (x : List UInt8) : LineOuts (splitT M u x).2.1 (x.length + 1) := by
  have := Nat.mod_lt u (show 0 < M by omega)
  exact ⟨fun t ht => by rw [List.mem_singleton.1 ht]; show u % M ≤ 3; omega, fun t ht => by rw [List.mem_singleton.1 ht]; simp, by simp [splitT, outSum], by simp [splitT]⟩
theorem putOuts_one (f : Nat → List UInt8) (p : Nat) (x : List UInt8) : putOuts f [(p, x)] = fun j => if j = p then f j ++ x else f j := rfl
theorem putOuts_split (M : Nat) : ∀ (L : Lines) (u : Nat) (f : Nat → List UInt8), putOuts f (runT (splitT M) u L).2 = fun j => f j ++ joinL (shareL M j u L)
  | [], _, f => by funext j; simp [runT, putOuts, shareL, joinL]
  | l :: r, u, f => by
    rw [runT]
    show putOuts f ([(u % M, l ++ [10])] ++ (runT (splitT M) (u + 1) r).2) = _
    rw [putOuts_append, putOuts_one, putOuts_split M r (u + 1)]
    funext j
    rw [shareL]
    by_cases h : u % M = j
    · rw [if_pos h, if_pos h.symm]; simp [joinL]
    · rw [if_neg h, if_neg (Ne.symm h)]

/-- It has one output at least, four at most. -/
def outN (N : Nat) : Nat := min (N - 1) 3 + 1
theorem outN_le (N : Nat) : 1 ≤ outN N ∧ outN N ≤ 4 := by unfold outN; omega
theorem outN_ok {N : Nat} (h1 : 1 ≤ N) (h4 : N ≤ 4) : outN N = N := by unfold outN; omega

end Go.Proofs.YtbblkgknnolkmaaDoor
