/- Files, plainly: a disk, a script, and what each call does. No conditions. -/
import Derived.Test.YtpengkkbmenkpaaLB
namespace Go.Proofs.Ytpengkkbmenkpaa
open Go.RowKit

abbrev Script := List (Int × Int)
/-- The Id by which the k-th call that counts fails. -/
def failAt (S : Script) (k : Int) : Option Int := (S.find? fun f => f.1 == k).map (·.2)
theorem failAt_nil (k : Int) : failAt [] k = none := rfl
theorem failAt_cons (f : Int × Int) (S : Script) (k : Int) : failAt (f :: S) k = if f.1 = k then some f.2 else failAt S k := by
  simp only [failAt, List.find?_cons]
  by_cases h : f.1 = k
  · simp [h]
  · have e : (f.1 == k) = false := by simpa using h
    simp [h, e]
theorem failAt_append (S R : Script) (k : Int) : failAt (S ++ R) k = (failAt S k).or (failAt R k) := by
  induction S with
  | nil => simp [failAt_nil]
  | cons f S ih =>
    rw [List.cons_append, failAt_cons, failAt_cons, ih]
    split <;> simp
theorem failAt_snoc (S : Script) (f : Int × Int) (k : Int) : failAt (S ++ [f]) k = if (failAt S k).isSome then failAt S k else if f.1 = k then some f.2 else none := by
  rw [failAt_append, failAt_cons, failAt_nil]
  cases failAt S k <;> simp

/-- A disk: the bytes of each file that was created, and whether it is there; how many calls have counted; the last Id by which one failed. -/
structure DSt where
  T : List (List UInt8 × Bool)
  n : Nat
  id : Int
def dst0 : DSt := ⟨[], 0, 0⟩
/-- The file of that number, if it is there. -/
def fileAt (T : List (List UInt8 × Bool)) (no : Int) : Option (List UInt8) :=
  if 1 ≤ no then match T[(no - 1).toNat]? with | some (t, true) => some t | _ => none else none
theorem fileAt_some {T : List (List UInt8 × Bool)} {k : Nat} {t : List UInt8} (h : T[k]? = some (t, true)) : fileAt T ((k : Int) + 1) = some t := by
  unfold fileAt
  rw [if_pos (by omega), show ((k : Int) + 1 - 1).toNat = k by omega, h]
theorem fileAt_none {T : List (List UInt8 × Bool)} {k : Nat} {t : List UInt8} (h : T[k]? = some (t, false)) : fileAt T ((k : Int) + 1) = none := by
  unfold fileAt
  rw [if_pos (by omega), show ((k : Int) + 1 - 1).toNat = k by omega, h]
theorem fileAt_cases (T : List (List UInt8 × Bool)) (no : Int) : (∃ (k : Nat) (t : List UInt8), no = (k : Int) + 1 ∧ T[k]? = some (t, true) ∧ fileAt T no = some t) ∨ fileAt T no = none := by
  by_cases h : 1 ≤ no
  · obtain ⟨k, rfl⟩ : ∃ k : Nat, no = (k : Int) + 1 := ⟨(no - 1).toNat, by omega⟩
    cases hk : T[k]? with
    | none =>
      refine .inr ?_
      unfold fileAt
      rw [if_pos h, show ((k : Int) + 1 - 1).toNat = k by omega, hk]
    | some t =>
      obtain ⟨t, _ | _⟩ := t
      · exact .inr (fileAt_none hk)
      · exact .inl ⟨k, t, rfl, hk, fileAt_some hk⟩
  · refine .inr ?_
    unfold fileAt
    rw [if_neg h]
theorem fileAt_lt {T : List (List UInt8 × Bool)} {k : Nat} {t : List UInt8} {f : Bool} (h : T[k]? = some (t, f)) : k < T.length := (List.getElem?_eq_some_iff.1 h).1

/-! What each call does. -/
def cntE (S : Script) (s : DSt) : Int := if (failAt S s.n).isSome then 25 else 0
def cntS (S : Script) (s : DSt) : DSt := { s with n := s.n + 1, id := (failAt S s.n).getD s.id }
def createE (S : Script) (s : DSt) : Int := if 64 ≤ s.T.length then 17 else cntE S s
def createN (S : Script) (s : DSt) : Int := if createE S s = 0 then (s.T.length : Int) + 1 else 0
def createS (S : Script) (s : DSt) : DSt := if 64 ≤ s.T.length then s else if cntE S s = 0 then { cntS S s with T := s.T ++ [([], true)] } else cntS S s
def writeE (S : Script) (s : DSt) (no : Int) (b : List UInt8) : Int := if (fileAt s.T no).isNone ∨ b.length < 1 ∨ 1024 < b.length then 1 else cntE S s
def writeS (S : Script) (s : DSt) (no : Int) (b : List UInt8) : DSt :=
  if (fileAt s.T no).isNone ∨ b.length < 1 ∨ 1024 < b.length then s else if cntE S s = 0 then { cntS S s with T := s.T.set (no - 1).toNat ((fileAt s.T no).getD [] ++ b, true) } else cntS S s
def readNo (s : DSt) (no at' most : Int) : Prop := (fileAt s.T no).isNone ∨ at' < 0 ∨ (((fileAt s.T no).getD []).length : Int) < at' ∨ most < 1
instance (s : DSt) (no at' most : Int) : Decidable (readNo s no at' most) := by unfold readNo; infer_instance
def readE (S : Script) (s : DSt) (no at' most : Int) : Int := if readNo s no at' most then 1 else cntE S s
def readB (S : Script) (s : DSt) (no at' most : Int) : List UInt8 := if readE S s no at' most = 0 then (((fileAt s.T no).getD []).drop at'.toNat).take most.toNat else []
def readS (S : Script) (s : DSt) (no at' most : Int) : DSt := if readNo s no at' most then s else cntS S s
def removeE (S : Script) (s : DSt) (no : Int) : Int := if (fileAt s.T no).isNone then 1 else cntE S s
def removeS (S : Script) (s : DSt) (no : Int) : DSt := if (fileAt s.T no).isNone then s else if cntE S s = 0 then { cntS S s with T := s.T.set (no - 1).toNat ((fileAt s.T no).getD [], false) } else cntS S s

/-- Not too much. -/
structure Small (s : DSt) : Prop where
  n : s.n ≤ 1000000
  T : s.T.length ≤ 64
  t : ∀ t ∈ s.T, t.1.length ≤ 1000000
/-- So many calls were made. -/
structure Made (k : Nat) (s : DSt) : Prop where
  n : s.n ≤ 2 * k
  T : s.T.length ≤ 64
  t : ∀ t ∈ s.T, t.1.length ≤ 1024 * k
theorem Made.small {k : Nat} {s : DSt} (h : Made k s) (hk : k ≤ 400) : Small s := ⟨by have := h.n; omega, h.T, fun t ht => by have := h.t t ht; omega⟩
theorem made_0 : Made 0 dst0 := ⟨by simp [dst0], by simp [dst0], fun t ht => by cases ht⟩
theorem Made.mono {k j : Nat} {s : DSt} (h : Made k s) (hj : k ≤ j) : Made j s := ⟨by have := h.n; omega, h.T, fun t ht => by have := h.t t ht; omega⟩

/-- The numbers of the files that are there, rising: those of a list whose first one has number k + 1. -/
def liveFrom : Nat → List (List UInt8 × Bool) → List Int
  | _, [] => []
  | k, t :: r => if t.2 then ((k : Int) + 1) :: liveFrom (k + 1) r else liveFrom (k + 1) r
def liveL (T : List (List UInt8 × Bool)) : List Int := liveFrom 0 T

end Go.Proofs.Ytpengkkbmenkpaa
