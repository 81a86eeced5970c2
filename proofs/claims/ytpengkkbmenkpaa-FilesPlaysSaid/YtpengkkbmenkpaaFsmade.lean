/- Files, plainly: what is not too much behind so many calls; the laws' own texts. -/
import Derived.Test.YtpengkkbmenkpaaFsplain
namespace Go.Proofs.Ytpengkkbmenkpaa
open Go.RowKit

/-- At most a calls have counted; no file has more than b bytes. -/
structure Did (a b : Nat) (s : DSt) : Prop where
  n : s.n ≤ a
  T : s.T.length ≤ 64
  t : ∀ t ∈ s.T, t.1.length ≤ b
theorem Did.small {a b : Nat} {s : DSt} (h : Did a b s) (ha : a ≤ 1000000) (hb : b ≤ 1000000) : Small s := ⟨Nat.le_trans h.n ha, h.T, fun t ht => Nat.le_trans (h.t t ht) hb⟩
theorem Did.mono {a b a' b' : Nat} {s : DSt} (h : Did a b s) (ha : a ≤ a') (hb : b ≤ b') : Did a' b' s := ⟨Nat.le_trans h.n ha, h.T, fun t ht => Nat.le_trans (h.t t ht) hb⟩
theorem did_0 : Did 0 0 dst0 := ⟨by simp [dst0], by simp [dst0], fun t ht => by cases ht⟩
theorem Did.cnt {a b : Nat} {s : DSt} (h : Did a b s) (S : Script) : Did (a + 1) b (cntS S s) := ⟨by have := h.n; show s.n + 1 ≤ a + 1; omega, h.T, h.t⟩
theorem fileAt_mem {T : List (List UInt8 × Bool)} {no : Int} {t : List UInt8} (h : fileAt T no = some t) : ∃ k : Nat, no = (k : Int) + 1 ∧ T[k]? = some (t, true) := by
  rcases fileAt_cases T no with ⟨k, t', e, hk, hf⟩ | hf
  · rw [hf] at h
    cases h
    exact ⟨k, e, hk⟩
  · rw [hf] at h
    cases h
theorem Did.file {a b : Nat} {s : DSt} (h : Did a b s) (no : Int) : ((fileAt s.T no).getD []).length ≤ b := by
  cases hf : fileAt s.T no with
  | none => simp
  | some t =>
    obtain ⟨k, -, hk⟩ := fileAt_mem hf
    exact h.t _ (List.mem_of_getElem? hk)
theorem Did.create {a b : Nat} {s : DSt} (h : Did a b s) (S : Script) : Did (a + 1) b (createS S s) := by
  unfold createS
  by_cases h1 : 64 ≤ s.T.length
  · rw [if_pos h1]
    exact h.mono (Nat.le_succ _) (Nat.le_refl _)
  · rw [if_neg h1]
    have hc := h.cnt S
    by_cases h2 : cntE S s = 0
    · rw [if_pos h2]
      refine ⟨hc.n, by simp; omega, fun t ht => ?_⟩
      rcases List.mem_append.1 ht with ht | ht
      · exact h.t t ht
      · rw [List.mem_singleton.1 ht]
        simp
    · rw [if_neg h2]
      exact hc
theorem Did.put {a b : Nat} {s : DSt} (h : Did a b s) (k : Nat) (x : List UInt8 × Bool) (hx : x.1.length ≤ b) : Did a b { s with T := s.T.set k x } :=
  ⟨h.n, by simpa using h.T, fun t ht => by
    rcases List.mem_or_eq_of_mem_set ht with ht | rfl
    · exact h.t t ht
    · exact hx⟩
theorem Did.write {a b : Nat} {s : DSt} (h : Did a b s) (S : Script) (no : Int) (bs : List UInt8) : Did (a + 1) (b + 1024) (writeS S s no bs) := by
  unfold writeS
  by_cases h1 : (fileAt s.T no).isNone = true ∨ bs.length < 1 ∨ 1024 < bs.length
  · rw [if_pos h1]
    exact h.mono (Nat.le_succ _) (by omega)
  · rw [if_neg h1]
    have hc := (h.cnt S).mono (Nat.le_refl _) (show b ≤ b + 1024 by omega)
    by_cases h2 : cntE S s = 0
    · rw [if_pos h2]
      refine hc.put _ _ ?_
      have := h.file no
      simp only [not_or] at h1
      rw [List.length_append]
      omega
    · rw [if_neg h2]
      exact hc
theorem Did.read {a b : Nat} {s : DSt} (h : Did a b s) (S : Script) (no at' most : Int) : Did (a + 1) b (readS S s no at' most) := by
  unfold readS
  by_cases h1 : readNo s no at' most
  · rw [if_pos h1]
    exact h.mono (Nat.le_succ _) (Nat.le_refl _)
  · rw [if_neg h1]
    exact h.cnt S
theorem Did.remove {a b : Nat} {s : DSt} (h : Did a b s) (S : Script) (no : Int) : Did (a + 1) b (removeS S s no) := by
  unfold removeS
  by_cases h1 : (fileAt s.T no).isNone = true
  · rw [if_pos h1]
    exact h.mono (Nat.le_succ _) (Nat.le_refl _)
  · rw [if_neg h1]
    by_cases h2 : cntE S s = 0
    · rw [if_pos h2]
      exact (h.cnt S).put _ _ (h.file no)
    · rw [if_neg h2]
      exact h.cnt S

/-- What the law keeps of each file. -/
def textOf (T : List (List UInt8 × Bool)) : Nat → List UInt8
  | 0 => []
  | k + 1 => ((T[k]?).map (·.1)).getD []
theorem textOf_at {T : List (List UInt8 × Bool)} {k : Nat} {t : List UInt8} {f : Bool} (h : T[k]? = some (t, f)) : textOf T (k + 1) = t := by simp [textOf, h]
theorem textOf_new (T : List (List UInt8 × Bool)) : textOf T (T.length + 1) = [] := by simp [textOf]
theorem textOf_create (T : List (List UInt8 × Bool)) : textOf (T ++ [([], true)]) = textOf T := by
  funext j
  cases j with
  | zero => rfl
  | succ k =>
    simp only [textOf]
    rcases Nat.lt_trichotomy k T.length with h | h | h
    · rw [List.getElem?_append_left h]
    · subst h
      simp
    · have e1 : (T ++ [([], true)])[k]? = none := by rw [List.getElem?_eq_none_iff]; simp; omega
      have e2 : T[k]? = none := by rw [List.getElem?_eq_none_iff]; omega
      rw [e1, e2]
theorem textOf_set {T : List (List UInt8 × Bool)} {k : Nat} {t : List UInt8} {f : Bool} (h : T[k]? = some (t, f)) (x : List UInt8 × Bool) : textOf (T.set k x) = fun j => if j = k + 1 then x.1 else textOf T j := by
  funext j
  cases j with
  | zero => simp [textOf]
  | succ i =>
    by_cases hi : i = k
    · subst hi
      have := (List.getElem?_eq_some_iff.1 h).1
      simp [textOf, this]
    · simp only [textOf, List.getElem?_set_ne (fun e => hi e.symm)]
      rw [if_neg (by omega)]
theorem textOf_len {a b : Nat} {s : DSt} (h : Did a b s) (j : Nat) : (textOf s.T j).length ≤ b := by
  cases j with
  | zero => simp [textOf]
  | succ k =>
    cases hk : s.T[k]? with
    | none => simp [textOf, hk]
    | some t =>
      rw [show textOf s.T (k + 1) = t.1 by simp [textOf, hk]]
      exact h.t t (List.mem_of_getElem? hk)
theorem some_of {α : Type} {o : Option α} (h : ¬ o.isNone = true) : ∃ t, o = some t := by
  cases o with
  | none => exact absurd rfl h
  | some t => exact ⟨t, rfl⟩
/-- What each call leaves of these. -/
theorem text_create (S : Script) (s : DSt) : textOf (createS S s).T = textOf s.T := by
  unfold createS
  split
  · rfl
  · split
    · exact textOf_create s.T
    · rfl
theorem text_read (S : Script) (s : DSt) (no at' most : Int) : textOf (readS S s no at' most).T = textOf s.T := by
  unfold readS
  split <;> rfl
theorem text_remove (S : Script) (s : DSt) (no : Int) : textOf (removeS S s no).T = textOf s.T := by
  unfold removeS
  split
  · rfl
  · rename_i h
    split
    · obtain ⟨t, ht⟩ := some_of h
      obtain ⟨k, e, hk⟩ := fileAt_mem ht
      have e2 : (no - 1).toNat = k := by omega
      show textOf (s.T.set (no - 1).toNat ((fileAt s.T no).getD [], false)) = _
      rw [e2, ht, textOf_set hk]
      funext j
      by_cases hj : j = k + 1
      · rw [if_pos hj, hj, textOf_at hk]
        rfl
      · rw [if_neg hj]
    · rfl
theorem text_write_no (S : Script) (s : DSt) (no : Int) (bs : List UInt8) (h : writeE S s no bs ≠ 0) : textOf (writeS S s no bs).T = textOf s.T := by
  unfold writeE at h
  unfold writeS
  split
  · rfl
  · rename_i h1
    rw [if_neg h1] at h
    rw [if_neg h]
    rfl
theorem text_write {S : Script} {s : DSt} {no : Int} {bs : List UInt8} (h : writeE S s no bs = 0) : ∃ k : Nat, no = (k : Int) + 1 ∧ k < s.T.length ∧ textOf (writeS S s no bs).T = fun j => if j = k + 1 then textOf s.T (k + 1) ++ bs else textOf s.T j := by
  unfold writeE at h
  unfold writeS
  split
  · rename_i h1
    rw [if_pos h1] at h
    cases h
  · rename_i h1
    rw [if_neg h1] at h
    rw [if_pos h]
    simp only [not_or] at h1
    obtain ⟨t, ht⟩ := some_of h1.1
    obtain ⟨k, e, hk⟩ := fileAt_mem ht
    have e2 : (no - 1).toNat = k := by omega
    refine ⟨k, e, (List.getElem?_eq_some_iff.1 hk).1, ?_⟩
    show textOf (s.T.set (no - 1).toNat ((fileAt s.T no).getD [] ++ bs, true)) = _
    rw [e2, ht, textOf_set hk, textOf_at hk]
    rfl
/-- What Read answers, if it does. -/
theorem read_text {S : Script} {s : DSt} {no at' most : Int} (h : readE S s no at' most = 0) : ∃ k j m : Nat, no = (k : Int) + 1 ∧ k < s.T.length ∧ at' = j ∧ most = m ∧ j ≤ (textOf s.T (k + 1)).length ∧ readB S s no at' most = ((textOf s.T (k + 1)).drop j).take m := by
  have h0 := h
  unfold readE at h
  split at h
  · cases h
  · rename_i h1
    unfold readNo at h1
    simp only [not_or] at h1
    obtain ⟨c1, c2, c3, c4⟩ := h1
    obtain ⟨t, ht⟩ := some_of c1
    obtain ⟨k, e, hk⟩ := fileAt_mem ht
    rw [ht] at c3
    simp only [Option.getD_some] at c3
    refine ⟨k, at'.toNat, most.toNat, e, (List.getElem?_eq_some_iff.1 hk).1, by omega, by omega, by rw [textOf_at hk]; omega, ?_⟩
    unfold readB
    rw [if_pos h0, ht, textOf_at hk]
    rfl

end Go.Proofs.Ytpengkkbmenkpaa
