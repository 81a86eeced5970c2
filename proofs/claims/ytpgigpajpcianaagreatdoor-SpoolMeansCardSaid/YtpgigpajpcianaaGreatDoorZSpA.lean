/- The order of lines, plainly: there is one order. -/
import Derived.Test.YtpgigpajpcianaaGreatDoorZLB
import Derived.Test.YtpgigpajpcianaaGreatDoorZDA
import Derived.Test.YtpgigpajpcianaaGreatDoorZFsA
import Derived.Lib.Bytealg
namespace Go.Proofs.YtpgigpajpcianaaGreatDoor
open Go.RowKit

theorem less_irrefl : ∀ a : List UInt8, Op.bytesLess a a = false
  | [] => rfl
  | x :: a => by
    rw [Op.bytesLess, less_irrefl a]
    have : ¬ x < x := UInt8.lt_irrefl x
    simp [this]
theorem less_cons (x y : UInt8) (a b : List UInt8) : Op.bytesLess (x :: a) (y :: b) = true ↔ x < y ∨ (x = y ∧ Op.bytesLess a b = true) := by
  rw [Op.bytesLess]
  simp
theorem less_trans : ∀ a b c : List UInt8, Op.bytesLess a b = true → Op.bytesLess b c = true → Op.bytesLess a c = true
  | _, _, [], _, h => by cases ‹List UInt8› <;> simp [Op.bytesLess] at h
  | _, [], _ :: _, h, _ => by cases ‹List UInt8› <;> simp [Op.bytesLess] at h
  | [], _ :: _, _ :: _, _, _ => rfl
  | x :: a, y :: b, z :: c, h1, h2 => by
    rw [less_cons] at h1 h2 ⊢
    rcases h1 with h1 | ⟨rfl, h1⟩
    · rcases h2 with h2 | ⟨rfl, h2⟩
      · exact .inl (UInt8.lt_trans h1 h2)
      · exact .inl h1
    · rcases h2 with h2 | ⟨rfl, h2⟩
      · exact .inl h2
      · exact .inr ⟨rfl, less_trans a b c h1 h2⟩
theorem less_tri : ∀ a b : List UInt8, Op.bytesLess a b = false → Op.bytesLess b a = false → a = b
  | [], [], _, _ => rfl
  | [], _ :: _, h, _ => by simp [Op.bytesLess] at h
  | _ :: _, [], _, h => by simp [Op.bytesLess] at h
  | x :: a, y :: b, h1, h2 => by
    have k1 : ¬ (x < y ∨ (x = y ∧ Op.bytesLess a b = true)) := by rw [← less_cons]; simp [h1]
    have k2 : ¬ (y < x ∨ (y = x ∧ Op.bytesLess b a = true)) := by rw [← less_cons]; simp [h2]
    simp only [not_or, not_and, Bool.not_eq_true] at k1 k2
    have hxy : x = y := UInt8.le_antisymm (UInt8.not_lt.1 k2.1) (UInt8.not_lt.1 k1.1)
    rw [hxy, less_tri a b (k1.2 hxy) (k2.2 hxy.symm)]
theorem compare_less : ∀ a b : List UInt8, (Lib.compareBytes a b < 0 ↔ Op.bytesLess a b = true) ∧ (0 < Lib.compareBytes a b ↔ Op.bytesLess b a = true)
  | [], [] => by simp [Lib.compareBytes, Op.bytesLess]
  | [], _ :: _ => by simp [Lib.compareBytes, Op.bytesLess]
  | _ :: _, [] => by simp [Lib.compareBytes, Op.bytesLess]
  | x :: a, y :: b => by
    obtain ⟨h1, h2⟩ := compare_less a b
    rw [less_cons, less_cons, Lib.compareBytes]
    by_cases k1 : x < y
    · have k2 : ¬ y < x := fun e => UInt8.lt_irrefl x (UInt8.lt_trans k1 e)
      have k3 : y ≠ x := fun e => UInt8.lt_irrefl x (by rw [e] at k1; exact k1)
      simp [k1, k2, k3]
    · by_cases k2 : y < x
      · have k3 : x ≠ y := fun e => UInt8.lt_irrefl x (by rw [← e] at k2; exact k2)
        simp [k1, k2, k3]
      · have hxy : x = y := UInt8.le_antisymm (UInt8.not_lt.1 k2) (UInt8.not_lt.1 k1)
        subst hxy
        simp [h1, h2]
def aheadB (F : Bool) (a b : List UInt8) : Bool := if F then Op.bytesLess b a else Op.bytesLess a b
theorem ahead_irrefl (F : Bool) (a : List UInt8) : aheadB F a a = false := by cases F <;> exact less_irrefl a
theorem ahead_trans {F : Bool} {a b c : List UInt8} (h1 : aheadB F a b = true) (h2 : aheadB F b c = true) : aheadB F a c = true := by
  cases F
  · exact less_trans a b c h1 h2
  · exact less_trans c b a h2 h1
theorem ahead_tri {F : Bool} {a b : List UInt8} (h1 : aheadB F a b = false) (h2 : aheadB F b a = false) : a = b := by
  cases F
  · exact less_tri a b h1 h2
  · exact less_tri a b h2 h1
def upto (F : Bool) (a b : List UInt8) : Prop := aheadB F b a = false
theorem upto_refl (F : Bool) (a : List UInt8) : upto F a a := ahead_irrefl F a
theorem upto_of {F : Bool} {a b : List UInt8} (h : aheadB F a b = true) : upto F a b := by
  show aheadB F b a = false
  cases h2 : aheadB F b a with
  | false => rfl
  | true => rw [← ahead_irrefl F a, ahead_trans h h2]
theorem upto_trans {F : Bool} {a b c : List UInt8} (h1 : upto F a b) (h2 : upto F b c) : upto F a c := by
  show aheadB F c a = false
  cases h : aheadB F c a with
  | false => rfl
  | true =>
    cases h3 : aheadB F a b with
    | true =>
      have h2 : aheadB F c b = false := h2
      rw [ahead_trans h h3] at h2
      exact h2
    | false =>
      have e : a = b := ahead_tri h3 h1
      subst e
      have h2 : aheadB F c a = false := h2
      rw [h] at h2
      exact h2
theorem upto_anti {F : Bool} {a b : List UInt8} (h1 : upto F a b) (h2 : upto F b a) : a = b := ahead_tri h2 h1
abbrev SortedL (F : Bool) (L : Lines) : Prop := L.Pairwise (upto F)
def insL (F : Bool) (x : List UInt8) : Lines → Lines
  | [] => [x]
  | y :: r => if aheadB F y x then y :: insL F x r else x :: y :: r
def sortL (F : Bool) : Lines → Lines
  | [] => []
  | x :: r => insL F x (sortL F r)
theorem insL_perm (F : Bool) (x : List UInt8) : ∀ L : Lines, (insL F x L).Perm (x :: L)
  | [] => .refl _
  | y :: r => by
    rw [insL]
    split
    · exact ((insL_perm F x r).cons y).trans (.swap x y r)
    · exact .refl _
theorem sortL_perm (F : Bool) : ∀ L : Lines, (sortL F L).Perm L
  | [] => .refl _
  | x :: r => (insL_perm F x _).trans ((sortL_perm F r).cons x)
theorem insL_sorted (F : Bool) (x : List UInt8) : ∀ L : Lines, SortedL F L → SortedL F (insL F x L)
  | [], _ => List.pairwise_singleton _ _
  | y :: r, h => by
    obtain ⟨h1, h2⟩ := List.pairwise_cons.1 h
    rw [insL]
    split
    · rename_i hy
      refine List.pairwise_cons.2 ⟨fun z hz => ?_, insL_sorted F x r h2⟩
      rcases List.mem_cons.1 ((insL_perm F x r).mem_iff.1 hz) with rfl | hz
      · exact upto_of hy
      · exact h1 z hz
    · rename_i hy
      have hy : upto F x y := (by simpa using hy : aheadB F y x = false)
      refine List.pairwise_cons.2 ⟨fun z hz => ?_, h⟩
      rcases List.mem_cons.1 hz with rfl | hz
      · exact hy
      · exact upto_trans hy (h1 z hz)
theorem sortL_sorted (F : Bool) : ∀ L : Lines, SortedL F (sortL F L)
  | [] => List.Pairwise.nil
  | x :: r => insL_sorted F x _ (sortL_sorted F r)
theorem sortL_length (F : Bool) (L : Lines) : (sortL F L).length = L.length := (sortL_perm F L).length_eq
theorem sorted_one {F : Bool} : ∀ L M : Lines, SortedL F L → SortedL F M → L.Perm M → L = M
  | [], M, _, _, h => (List.nil_perm.1 h).symm
  | x :: L, [], _, _, h => absurd h.length_eq (by simp)
  | x :: L, y :: M, h1, h2, h => by
    obtain ⟨a1, a2⟩ := List.pairwise_cons.1 h1
    obtain ⟨b1, b2⟩ := List.pairwise_cons.1 h2
    have hx : upto F y x := by
      rcases List.mem_cons.1 (h.mem_iff.1 List.mem_cons_self) with e | e
      · rw [e]; exact upto_refl F _
      · exact b1 x e
    have hy : upto F x y := by
      rcases List.mem_cons.1 (h.mem_iff.2 List.mem_cons_self) with e | e
      · rw [e]; exact upto_refl F _
      · exact a1 y e
    have e := upto_anti hy hx
    subst e
    rw [sorted_one L M a2 b2 ((List.perm_cons x).1 h)]
theorem sortL_eq {F : Bool} {L M : Lines} (h : SortedL F M) (hp : M.Perm L) : M = sortL F L := sorted_one _ _ h (sortL_sorted F L) (hp.trans (sortL_perm F L).symm)
theorem sortL_same {F : Bool} {L : Lines} (h : SortedL F L) : sortL F L = L := (sortL_eq h (.refl L)).symm
theorem sortL_congr {F : Bool} {L M : Lines} (h : L.Perm M) : sortL F L = sortL F M := sortL_eq (sortL_sorted F L) ((sortL_perm F L).trans h)
end Go.Proofs.YtpgigpajpcianaaGreatDoor

namespace Go.Proofs.YtpgigpajpcianaaGreatDoor
open Go.RowKit

structure Rn where
  no : Int
  at' : Nat
  next : List UInt8
  over : Bool
def fresh (no : Int) : Rn := ⟨no, 0, [], false⟩
def weightL (L : Lines) : Nat := (L.map fun l => l.length + 1).sum
theorem weightL_nil : weightL [] = 0 := rfl
theorem weightL_cons (l : List UInt8) (L : Lines) : weightL (l :: L) = l.length + 1 + weightL L := by simp [weightL]
theorem weightL_append (L M : Lines) : weightL (L ++ M) = weightL L + weightL M := by simp [weightL]
theorem weightL_perm {L M : Lines} (h : L.Perm M) : weightL L = weightL M := (h.map _).sum_nat
theorem weightL_join (L : Lines) : (joinL L).length = weightL L := by
  induction L with
  | nil => rfl
  | cons l L ih => rw [weightL_cons, ← ih]; simp [joinL]; omega
theorem weightL_length (L : Lines) : L.length ≤ weightL L := by
  induction L with
  | nil => simp
  | cons l L ih => rw [weightL_cons, List.length_cons]; omega
section
variable (S : Script) (F : Bool)
def readR (s : DSt) (r : Rn) : DSt × Rn × Int :=
  if readE S s r.no r.at' 65 ≠ 0 then (readS S s r.no r.at' 65, r, readE S s r.no r.at' 65)
  else (readS S s r.no r.at' 65, ⟨r.no, r.at' + ((readB S s r.no r.at' 65).takeWhile (· ≠ 10)).length + 1, (readB S s r.no r.at' 65).takeWhile (· ≠ 10), (readB S s r.no r.at' 65).isEmpty⟩, 0)
def readAll : DSt → List Rn → DSt × List Rn × Int
  | s, [] => (s, [], 0)
  | s, r :: rs => if (readR S s r).2.2 ≠ 0 then ((readR S s r).1, r :: rs, (readR S s r).2.2)
    else ((readAll (readR S s r).1 rs).1, (readR S s r).2.1 :: (readAll (readR S s r).1 rs).2.1, (readAll (readR S s r).1 rs).2.2)
def winsB (k : Option (Nat × List UInt8)) (l : List UInt8) : Bool := match k with | none => true | some p => aheadB F l p.2
def leastFrom : Nat → Option (Nat × List UInt8) → List Rn → Option (Nat × List UInt8)
  | _, k, [] => k
  | i, k, r :: rs => leastFrom (i + 1) (if r.over = false ∧ winsB F k r.next = true then some (i, r.next) else k) rs
def leastOf (rs : List Rn) : Option (Nat × List UInt8) := leastFrom F 0 none rs
def readAt (s : DSt) (rs : List Rn) (k : Nat) : DSt × List Rn × Int :=
  match rs[k]? with
  | none => (s, rs, 0)
  | some r => ((readR S s r).1, rs.set k (readR S s r).2.1, (readR S s r).2.2)
def mergeGo (no : Int) : Nat → DSt → List Rn → DSt × List Rn × Int
  | 0, s, rs => (s, rs, 0)
  | f + 1, s, rs => match leastOf F rs with
    | none => (s, rs, 0)
    | some (k, l) => if writeE S s no (l ++ [10]) ≠ 0 then (writeS S s no (l ++ [10]), rs, writeE S s no (l ++ [10]))
      else if (readAt S (writeS S s no (l ++ [10])) rs k).2.2 ≠ 0 then readAt S (writeS S s no (l ++ [10])) rs k
      else mergeGo no f (readAt S (writeS S s no (l ++ [10])) rs k).1 (readAt S (writeS S s no (l ++ [10])) rs k).2.1
def removeAll : DSt → List Rn → DSt × Int
  | s, [] => (s, 0)
  | s, r :: rs => if removeE S s r.no ≠ 0 then (removeS S s r.no, removeE S s r.no) else removeAll (removeS S s r.no) rs
def fuelM : Nat := 1000000
def mergeR (s : DSt) (rs : List Rn) : DSt × Option Rn × Int :=
  match rs with
  | [r] => (s, some r, 0)
  | _ => if createE S s ≠ 0 then (createS S s, none, createE S s)
    else if (readAll S (createS S s) rs).2.2 ≠ 0 then ((readAll S (createS S s) rs).1, none, (readAll S (createS S s) rs).2.2)
    else if (mergeGo S F (createN S s) fuelM (readAll S (createS S s) rs).1 (readAll S (createS S s) rs).2.1).2.2 ≠ 0 then
      ((mergeGo S F (createN S s) fuelM (readAll S (createS S s) rs).1 (readAll S (createS S s) rs).2.1).1, none, (mergeGo S F (createN S s) fuelM (readAll S (createS S s) rs).1 (readAll S (createS S s) rs).2.1).2.2)
    else if (removeAll S (mergeGo S F (createN S s) fuelM (readAll S (createS S s) rs).1 (readAll S (createS S s) rs).2.1).1 rs).2 ≠ 0 then
      ((removeAll S (mergeGo S F (createN S s) fuelM (readAll S (createS S s) rs).1 (readAll S (createS S s) rs).2.1).1 rs).1, none, (removeAll S (mergeGo S F (createN S s) fuelM (readAll S (createS S s) rs).1 (readAll S (createS S s) rs).2.1).1 rs).2)
    else ((removeAll S (mergeGo S F (createN S s) fuelM (readAll S (createS S s) rs).1 (readAll S (createS S s) rs).2.1).1 rs).1, some (fresh (createN S s)), 0)
def chunks3 {α : Type} : List α → List (List α)
  | a :: b :: c :: r => [a, b, c] :: chunks3 r
  | [] => []
  | l => [l]
def passGo : DSt → List (List Rn) → DSt × List Rn × Int
  | s, [] => (s, [], 0)
  | s, c :: cs => if (mergeR S F s c).2.2 ≠ 0 then ((mergeR S F s c).1, [], (mergeR S F s c).2.2)
    else ((passGo (mergeR S F s c).1 cs).1, (mergeR S F s c).2.1.getD (fresh 0) :: (passGo (mergeR S F s c).1 cs).2.1, (passGo (mergeR S F s c).1 cs).2.2)
def passesGo : Nat → DSt → List Rn → DSt × List Rn × Int
  | 0, s, rs => (s, rs, 0)
  | f + 1, s, rs => if rs.length ≤ 3 then (s, rs, 0)
    else if (passGo S F s (chunks3 rs)).2.2 ≠ 0 then passGo S F s (chunks3 rs)
    else passesGo f (passGo S F s (chunks3 rs)).1 (passGo S F s (chunks3 rs)).2.1
def writeAll (no : Int) : DSt → Lines → DSt × Int
  | s, [] => (s, 0)
  | s, l :: L => if writeE S s no (l ++ [10]) ≠ 0 then (writeS S s no (l ++ [10]), writeE S s no (l ++ [10])) else writeAll no (writeS S s no (l ++ [10])) L
structure SpD where
  d : DSt
  run : Lines
  rs : List Rn
def spillD (x : SpD) : SpD × Int :=
  if createE S x.d ≠ 0 then (⟨createS S x.d, x.run, x.rs⟩, createE S x.d)
  else if (writeAll S (createN S x.d) (createS S x.d) (sortL F x.run)).2 ≠ 0 then (⟨(writeAll S (createN S x.d) (createS S x.d) (sortL F x.run)).1, x.run, x.rs⟩, (writeAll S (createN S x.d) (createS S x.d) (sortL F x.run)).2)
  else (⟨(writeAll S (createN S x.d) (createS S x.d) (sortL F x.run)).1, [], x.rs ++ [fresh (createN S x.d)]⟩, 0)
def takeD (x : SpD) (l : List UInt8) : SpD × Int :=
  if 256 < weightL x.run + l.length + 1 then
    if (spillD S F x).2 ≠ 0 then spillD S F x else (⟨(spillD S F x).1.d, (spillD S F x).1.run ++ [l], (spillD S F x).1.rs⟩, 0)
  else (⟨x.d, x.run ++ [l], x.rs⟩, 0)
def takesD : SpD → Lines → SpD × Int
  | x, [] => (x, 0)
  | x, l :: L => if (takeD S F x l).2 ≠ 0 then takeD S F x l else takesD (takeD S F x l).1 L
def beginD (x : SpD) : SpD × Int :=
  if (spillD S F x).2 ≠ 0 then spillD S F x
  else if (passesGo S F 4 (spillD S F x).1.d (spillD S F x).1.rs).2.2 ≠ 0 then (⟨(passesGo S F 4 (spillD S F x).1.d (spillD S F x).1.rs).1, [], []⟩, (passesGo S F 4 (spillD S F x).1.d (spillD S F x).1.rs).2.2)
  else (⟨(readAll S (passesGo S F 4 (spillD S F x).1.d (spillD S F x).1.rs).1 (passesGo S F 4 (spillD S F x).1.d (spillD S F x).1.rs).2.1).1, [], (readAll S (passesGo S F 4 (spillD S F x).1.d (spillD S F x).1.rs).1 (passesGo S F 4 (spillD S F x).1.d (spillD S F x).1.rs).2.1).2.1⟩,
    (readAll S (passesGo S F 4 (spillD S F x).1.d (spillD S F x).1.rs).1 (passesGo S F 4 (spillD S F x).1.d (spillD S F x).1.rs).2.1).2.2)
end

structure SpS where
  need : Int
  b : List UInt8
  ov : Bool
  kept : Bool
  x : SpD
  raw : Int
def x0 (d : DSt) : SpD := ⟨d, [], []⟩
def freshS (d : DSt) : SpS := ⟨0, [], false, true, x0 d, 0⟩
def deadS (d : DSt) (raw : Int) : SpS := ⟨-1, [], false, true, x0 d, raw⟩
def failS (s : SpS) (d : DSt) (e : Int) : SpS := deadS d (if e = 25 then d.id else s.raw)
section
variable (S : Script) (F : Bool)
def feedSp (s : SpS) (b : List UInt8) : SpS × Outs × Int :=
  if (takesD S F s.x (cutL s.b b).1).2 ≠ 0 then (failS s (takesD S F s.x (cutL s.b b).1).1.d (takesD S F s.x (cutL s.b b).1).2, [], (takesD S F s.x (cutL s.b b).1).2)
  else match (cutL s.b b).2 with
    | none => (deadS (takesD S F s.x (cutL s.b b).1).1.d s.raw, [], 20)
    | some d => (⟨s.need, d, s.ov, s.kept, (takesD S F s.x (cutL s.b b).1).1, s.raw⟩, [], 0)
def begins (s : SpS) (x : SpD) : SpS × Outs × Int :=
  if x.rs = [] then (if x.run = [] then deadS x.d s.raw else ⟨-2, [], true, true, ⟨x.d, sortL F x.run, []⟩, s.raw⟩, [], 0)
  else if (beginD S F x).2 ≠ 0 then (failS s (beginD S F x).1.d (beginD S F x).2, [], (beginD S F x).2)
  else (⟨-2, [], true, false, (beginD S F x).1, s.raw⟩, [], 0)
def finSp (s : SpS) : SpS × Outs × Int :=
  if (takesD S F s.x (if s.b = [] then [] else [s.b])).2 ≠ 0 then (failS s (takesD S F s.x (if s.b = [] then [] else [s.b])).1.d (takesD S F s.x (if s.b = [] then [] else [s.b])).2, [], (takesD S F s.x (if s.b = [] then [] else [s.b])).2)
  else begins S F s (takesD S F s.x (if s.b = [] then [] else [s.b])).1
def tellD (s : SpS) (k : Nat) (l : List UInt8) : SpS × Outs × Int :=
  if (readAt S s.x.d s.x.rs k).2.2 ≠ 0 then (failS s (readAt S s.x.d s.x.rs k).1 (readAt S s.x.d s.x.rs k).2.2, [(0, l ++ [10])], (readAt S s.x.d s.x.rs k).2.2)
  else if (leastOf F (readAt S s.x.d s.x.rs k).2.1).isSome then (⟨s.need, s.b, s.ov, s.kept, ⟨(readAt S s.x.d s.x.rs k).1, s.x.run, (readAt S s.x.d s.x.rs k).2.1⟩, s.raw⟩, [(0, l ++ [10])], 0)
  else if (removeAll S (readAt S s.x.d s.x.rs k).1 (readAt S s.x.d s.x.rs k).2.1).2 ≠ 0 then (failS s (removeAll S (readAt S s.x.d s.x.rs k).1 (readAt S s.x.d s.x.rs k).2.1).1 (removeAll S (readAt S s.x.d s.x.rs k).1 (readAt S s.x.d s.x.rs k).2.1).2, [(0, l ++ [10])], (removeAll S (readAt S s.x.d s.x.rs k).1 (readAt S s.x.d s.x.rs k).2.1).2)
  else (deadS (removeAll S (readAt S s.x.d s.x.rs k).1 (readAt S s.x.d s.x.rs k).2.1).1 s.raw, [(0, l ++ [10])], 0)
def moreSp (s : SpS) : SpS × Outs × Int :=
  if s.kept = true then match s.x.run with
    | [] => (s, [], 0)
    | l :: r => (if r = [] then deadS s.x.d s.raw else ⟨s.need, s.b, s.ov, s.kept, ⟨s.x.d, r, s.x.rs⟩, s.raw⟩, [(0, l ++ [10])], 0)
  else match leastOf F s.x.rs with
    | none => (s, [], 0)
    | some (k, l) => tellD S F s k l
def nextSum (rs : List Rn) : Nat := (rs.map fun r => r.next.length).sum
def heldSp (s : SpS) : Nat := s.b.length + (s.x.run.map List.length).sum + nextSum s.x.rs
def spMach : Mach SpS := ⟨fun s => s.need, fun s => heldSp s, feedSp S F, finSp S F, moreSp S F⟩
end

end Go.Proofs.YtpgigpajpcianaaGreatDoor

namespace Go.Proofs.YtpgigpajpcianaaGreatDoor
open Go.RowKit

def FineL (L : Lines) : Prop := ∀ l ∈ L, l.length ≤ 64 ∧ (10 : UInt8) ∉ l
theorem FineL.nil : FineL [] := fun _ h => by cases h
theorem FineL.tail {l : List UInt8} {L : Lines} (h : FineL (l :: L)) : FineL L := fun x hx => h x (List.mem_cons_of_mem _ hx)
theorem FineL.append {L M : Lines} (h : FineL L) (k : FineL M) : FineL (L ++ M) := fun x hx => (List.mem_append.1 hx).elim (h x) (k x)
theorem FineL.perm {L M : Lines} (h : FineL L) (p : L.Perm M) : FineL M := fun x hx => h x (p.mem_iff.2 hx)
theorem FineL.one {l : List UInt8} (h : l.length ≤ 64) (h2 : (10 : UInt8) ∉ l) : FineL [l] := fun x hx => by rw [List.mem_singleton.1 hx]; exact ⟨h, h2⟩
theorem joinSp_cons (l : List UInt8) (L : Lines) : joinL (l :: L) = l ++ 10 :: joinL L := by simp [joinL]
def Behind (T : List (List UInt8 × Bool)) (r : Rn) (L : Lines) : Prop := ∃ t pre, fileAt T r.no = some t ∧ t = pre ++ joinL L ∧ pre.length = r.at' ∧ FineL L
def Reads (T : List (List UInt8 × Bool)) (r : Rn) : Lines → Prop
  | [] => r.over = true
  | l :: L => r.over = false ∧ r.next = l ∧ Behind T r L
theorem takeWhile_line {m r : List UInt8} (h : (10 : UInt8) ∉ m) : (m ++ 10 :: r).takeWhile (· ≠ 10) = m := by
  induction m with
  | nil => simp
  | cons c m ih =>
    simp only [List.mem_cons, not_or] at h
    have hc : decide (c ≠ 10) = true := by simpa using fun e => h.1 e.symm
    rw [List.cons_append, List.takeWhile_cons, hc, if_pos rfl, ih h.2]
theorem take_line {m r : List UInt8} (h : m.length ≤ 64) : (m ++ 10 :: r).take 65 = m ++ 10 :: r.take (64 - m.length) := by
  rw [List.take_append, List.take_of_length_le (by omega), show 65 - m.length = (64 - m.length) + 1 by omega, List.take_succ_cons]
section
variable {S : Script} {F : Bool}
theorem cntE_cases (S : Script) (s : DSt) : cntE S s = 0 ∨ cntE S s = 25 := by unfold cntE; split; exact .inr rfl; exact .inl rfl
theorem cntE_none (s : DSt) : cntE [] s = 0 := by simp [cntE, failAt_nil]
theorem behind_read {s : DSt} {r : Rn} {L : Lines} (h : Behind s.T r L) : readE S s r.no r.at' 65 = cntE S s ∧ readS S s r.no r.at' 65 = cntS S s ∧ (cntE S s = 0 → readB S s r.no r.at' 65 = (joinL L).take 65) := by
  obtain ⟨t, pre, h1, h2, h3, h4⟩ := h
  have hn : ¬ readNo s r.no r.at' 65 := by
    unfold readNo
    rw [h1]
    simp only [Option.isNone_some, Bool.false_eq_true, Option.getD_some, false_or, not_or]
    have : t.length = pre.length + (joinL L).length := by rw [h2, List.length_append]
    exact ⟨by omega, by omega, by omega⟩
  have he : readE S s r.no r.at' 65 = cntE S s := by unfold readE; rw [if_neg hn]
  refine ⟨he, by unfold readS; rw [if_neg hn], fun h0 => ?_⟩
  unfold readB
  rw [he, if_pos h0, h1, Option.getD_some, Int.toNat_natCast, ← h3, h2, List.drop_left]
  rfl
theorem read_on {s : DSt} {r : Rn} {L : Lines} (h : Behind s.T r L) : (readR S s r).1 = cntS S s ∧ (readR S s r).2.2 = cntE S s ∧ (cntE S s = 0 → Reads s.T (readR S s r).2.1 L ∧ (readR S s r).2.1.no = r.no) := by
  obtain ⟨k1, k2, k3⟩ := behind_read (S := S) h
  obtain ⟨t, pre, h1, h2, h3, h4⟩ := h
  unfold readR
  rw [k1, k2]
  by_cases h0 : cntE S s = 0
  · rw [if_neg (by simpa using h0)]
    refine ⟨rfl, h0.symm, fun _ => ⟨?_, rfl⟩⟩
    rw [k3 h0]
    cases L with
    | nil => rfl
    | cons l L =>
      have hl := h4 l List.mem_cons_self
      rw [joinSp_cons, take_line hl.1, takeWhile_line hl.2]
      refine ⟨by cases l <;> rfl, rfl, t, pre ++ (l ++ [10]), h1, ?_, by simp; omega, h4.tail⟩
      rw [h2, joinSp_cons]
      simp
  · rw [if_pos h0]
    exact ⟨rfl, rfl, fun h => absurd h h0⟩
theorem Behind.same {T T' : List (List UInt8 × Bool)} {r : Rn} {L : Lines} (h : Behind T r L) (hf : fileAt T' r.no = fileAt T r.no) : Behind T' r L := by
  obtain ⟨t, pre, h1, h2⟩ := h
  exact ⟨t, pre, hf.trans h1, h2⟩
theorem Reads.same {T T' : List (List UInt8 × Bool)} {r : Rn} {L : Lines} (h : Reads T r L) (hf : fileAt T' r.no = fileAt T r.no) : Reads T' r L := by
  cases L with
  | nil => exact h
  | cons l L => exact ⟨h.1, h.2.1, h.2.2.same hf⟩
theorem leastFrom_cons (i : Nat) (k : Option (Nat × List UInt8)) (r : Rn) (rs : List Rn) : leastFrom F i k (r :: rs) = leastFrom F (i + 1) (if r.over = false ∧ winsB F k r.next = true then some (i, r.next) else k) rs := rfl
theorem leastFrom_is (rs : List Rn) : ∀ (i : Nat) (k : Option (Nat × List UInt8)),
    (leastFrom F i k rs = none → k = none ∧ ∀ r ∈ rs, r.over = true) ∧
    (∀ j l, leastFrom F i k rs = some (j, l) → (k = some (j, l) ∨ ∃ m r, j = i + m ∧ rs[m]? = some r ∧ r.over = false ∧ r.next = l) ∧ (∀ j' l', k = some (j', l') → upto F l l') ∧ ∀ r ∈ rs, r.over = false → upto F l r.next) := by
  induction rs with
  | nil => exact fun i k => ⟨fun h => ⟨h, fun _ h => by cases h⟩, fun j l h => ⟨.inl h, fun j' l' h' => by have h : k = some (j, l) := h; rw [h] at h'; cases h'; exact upto_refl F l, fun _ h => by cases h⟩⟩
  | cons r rs ih =>
    intro i k
    simp only [leastFrom_cons]
    obtain ⟨a1, a2⟩ := ih (i + 1) (if r.over = false ∧ winsB F k r.next = true then some (i, r.next) else k)
    refine ⟨fun h => ?_, fun j l h => ?_⟩
    · obtain ⟨b1, b2⟩ := a1 h
      by_cases hc : r.over = false ∧ winsB F k r.next = true
      · rw [if_pos hc] at b1; cases b1
      · rw [if_neg hc] at b1
        subst b1
        refine ⟨rfl, fun x hx => ?_⟩
        rcases List.mem_cons.1 hx with rfl | hx
        · simpa [winsB] using hc
        · exact b2 x hx
    · obtain ⟨b1, b2, b3⟩ := a2 j l h
      by_cases hc : r.over = false ∧ winsB F k r.next = true
      · rw [if_pos hc] at b1 b2
        have hl : upto F l r.next := b2 _ _ rfl
        refine ⟨?_, fun j' l' e => ?_, fun x hx ho => ?_⟩
        · rcases b1 with b1 | ⟨m, r', e, hm, h1, h2⟩
          · cases b1; exact .inr ⟨0, r, rfl, rfl, hc.1, rfl⟩
          · exact .inr ⟨m + 1, r', by omega, hm, h1, h2⟩
        · subst e
          exact upto_trans hl (upto_of hc.2)
        · rcases List.mem_cons.1 hx with rfl | hx
          · exact hl
          · exact b3 x hx ho
      · rw [if_neg hc] at b1 b2
        refine ⟨?_, b2, fun x hx ho => ?_⟩
        · rcases b1 with b1 | ⟨m, r', e, hm, h1, h2⟩
          · exact .inl b1
          · exact .inr ⟨m + 1, r', by omega, hm, h1, h2⟩
        · rcases List.mem_cons.1 hx with rfl | hx
          · cases k with
            | none => exact absurd ⟨ho, rfl⟩ hc
            | some p =>
              obtain ⟨j', l'⟩ := p
              have h3 : aheadB F x.next l' = false := by
                simp only [ho, true_and] at hc
                simpa [winsB] using hc
              exact upto_trans (b2 _ _ rfl) h3
          · exact b3 x hx ho
theorem least_none {rs : List Rn} (h : leastOf F rs = none) : ∀ r ∈ rs, r.over = true := ((leastFrom_is rs 0 none).1 h).2
theorem least_some {rs : List Rn} {k : Nat} {l : List UInt8} (h : leastOf F rs = some (k, l)) : ∃ r, rs[k]? = some r ∧ r.over = false ∧ r.next = l ∧ ∀ r' ∈ rs, r'.over = false → upto F l r'.next := by
  obtain ⟨h1, -, h3⟩ := (leastFrom_is rs 0 none).2 k l h
  rcases h1 with h1 | ⟨m, r, e, hm, k1, k2⟩
  · cases h1
  · obtain rfl : m = k := by omega
    exact ⟨r, hm, k1, k2, h3⟩
theorem fileAt_set {T : List (List UInt8 × Bool)} {no no' : Int} (x : List UInt8 × Bool) (h1 : 1 ≤ no) (h : no' ≠ no) : fileAt (T.set (no - 1).toNat x) no' = fileAt T no' := by
  unfold fileAt
  by_cases h2 : 1 ≤ no'
  · rw [if_pos h2, if_pos h2, List.getElem?_set_ne (by omega)]
  · rw [if_neg h2, if_neg h2]
theorem fileAt_set_self {T : List (List UInt8 × Bool)} {no : Int} {t : List UInt8} (h : fileAt T no = some t) (x : List UInt8) : fileAt (T.set (no - 1).toNat (x, true)) no = some x ∧ fileAt (T.set (no - 1).toNat (x, false)) no = none ∧ 1 ≤ no ∧ (no - 1).toNat < T.length := by
  obtain ⟨k, e, hk⟩ : ∃ k : Nat, no = (k : Int) + 1 ∧ T[k]? = some (t, true) := by
    rcases fileAt_cases T no with ⟨k, t', e, hk, hf⟩ | hf
    · rw [hf] at h; cases h; exact ⟨k, e, hk⟩
    · rw [hf] at h; cases h
  have hlt := (List.getElem?_eq_some_iff.1 hk).1
  have e2 : (no - 1).toNat = k := by omega
  rw [e2]
  refine ⟨?_, ?_, by omega, hlt⟩
  · rw [e, fileAt_some (t := x)]; simp [hlt]
  · rw [e, fileAt_none (t := x)]; simp [hlt]
theorem fileAt_new (T : List (List UInt8 × Bool)) (x : List UInt8) : fileAt (T ++ [(x, true)]) ((T.length : Int) + 1) = some x := fileAt_some (by simp)
theorem fileAt_old {T : List (List UInt8 × Bool)} {no : Int} {t : List UInt8} (x : List UInt8 × Bool) (h : fileAt T no = some t) : fileAt (T ++ [x]) no = some t ∧ no ≠ (T.length : Int) + 1 := by
  rcases fileAt_cases T no with ⟨k, t', e, hk, hf⟩ | hf
  · rw [hf] at h
    cases h
    have hlt := (List.getElem?_eq_some_iff.1 hk).1
    refine ⟨?_, by omega⟩
    rw [e]
    exact fileAt_some (by rw [List.getElem?_append_left hlt]; exact hk)
  · rw [hf] at h; cases h
theorem write_on {s : DSt} {no : Int} {t : List UInt8} (h : fileAt s.T no = some t) {l : List UInt8} (hl : l.length ≤ 64) : writeE S s no (l ++ [10]) = cntE S s ∧ (cntE S s ≠ 0 → writeS S s no (l ++ [10]) = cntS S s) ∧
    (cntE S s = 0 → writeS S s no (l ++ [10]) = { cntS S s with T := s.T.set (no - 1).toNat (t ++ (l ++ [10]), true) }) := by
  have hn : ¬ ((fileAt s.T no).isNone = true ∨ (l ++ [10]).length < 1 ∨ 1024 < (l ++ [10]).length) := by rw [h]; simp; omega
  refine ⟨by unfold writeE; rw [if_neg hn], fun h0 => by unfold writeS; rw [if_neg hn, if_neg h0], fun h0 => ?_⟩
  unfold writeS
  rw [if_neg hn, if_pos h0, h]
  rfl
theorem remove_on {s : DSt} {no : Int} {t : List UInt8} (h : fileAt s.T no = some t) : removeE S s no = cntE S s ∧ (cntE S s ≠ 0 → removeS S s no = cntS S s) ∧
    (cntE S s = 0 → removeS S s no = { cntS S s with T := s.T.set (no - 1).toNat (t, false) }) := by
  have hn : ¬ ((fileAt s.T no).isNone = true) := by rw [h]; simp
  refine ⟨by unfold removeE; rw [if_neg hn], fun h0 => by unfold removeS; rw [if_neg hn, if_neg h0], fun h0 => ?_⟩
  unfold removeS
  rw [if_neg hn, if_pos h0, h]
  rfl
end

end Go.Proofs.YtpgigpajpcianaaGreatDoor

namespace Go.Proofs.YtpgigpajpcianaaGreatDoor
open Go.RowKit

def lsum (Ls : List Lines) : Nat := (Ls.map List.length).sum
def wsum (Ls : List Lines) : Nat := (Ls.map weightL).sum
theorem sum_set {Ls : List Lines} (f : Lines → Nat) {k : Nat} {L : Lines} (h : Ls[k]? = some L) (M : Lines) : ((Ls.set k M).map f).sum + f L = (Ls.map f).sum + f M := by
  induction Ls generalizing k with
  | nil => simp at h
  | cons x r ih =>
    cases k with
    | zero =>
      have h : x = L := by simpa using h
      subst h
      simp
      omega
    | succ k =>
      have := ih (k := k) (by simpa using h)
      simp only [List.set_cons_succ, List.map_cons, List.sum_cons] at this ⊢
      omega
theorem lsum_le_wsum (Ls : List Lines) : lsum Ls ≤ wsum Ls := by
  unfold lsum wsum
  induction Ls with
  | nil => simp
  | cons L r ih =>
    have := weightL_length L
    simp only [List.map_cons, List.sum_cons]
    omega
theorem lsum_at {Ls : List Lines} {k : Nat} {L : Lines} (h : Ls[k]? = some L) : L.length ≤ lsum Ls := by
  have := sum_set List.length h []
  unfold lsum
  simp only [List.length_nil, Nat.add_zero] at this
  omega
structure MS (no : Int) (d : DSt) (rs : List Rn) (Ls : List Lines) (t : List UInt8) : Prop where
  len : rs.length = Ls.length
  reads : ∀ (k : Nat) (r : Rn) (L : Lines), rs[k]? = some r → Ls[k]? = some L → Reads d.T r L
  fine : ∀ L ∈ Ls, FineL L
  apart : ∀ r ∈ rs, r.no ≠ no
  target : fileAt d.T no = some t
section
variable {S : Script} {F : Bool}
theorem least_head {T : List (List UInt8 × Bool)} {rs : List Rn} {Ls : List Lines} (hl : rs.length = Ls.length) (hr : ∀ (k : Nat) (r : Rn) (L : Lines), rs[k]? = some r → Ls[k]? = some L → Reads T r L) {k : Nat} {l : List UInt8} (h : leastOf F rs = some (k, l)) :
    ∃ r L, rs[k]? = some r ∧ Ls[k]? = some (l :: L) ∧ Behind T r L ∧ ∀ M ∈ Ls, ∀ m M', M = m :: M' → upto F l m := by
  obtain ⟨r, h1, h2, h3, h4⟩ := least_some h
  have hk : k < Ls.length := by rw [← hl]; exact (List.getElem?_eq_some_iff.1 h1).1
  have hL := List.getElem?_eq_getElem hk
  have hrd := hr k r _ h1 hL
  cases hLs : Ls[k] with
  | nil => rw [hLs] at hrd; have : r.over = true := hrd; rw [h2] at this; cases this
  | cons x L =>
    rw [hLs] at hrd hL
    obtain ⟨a1, a2, a3⟩ := hrd
    rw [a2] at h3
    subst h3
    refine ⟨r, L, h1, hL, a3, fun M hM m M' e => ?_⟩
    subst e
    obtain ⟨j, hj⟩ := List.mem_iff_getElem?.1 hM
    have hjl : j < rs.length := by rw [hl]; exact (List.getElem?_eq_some_iff.1 hj).1
    have hrj := List.getElem?_eq_getElem hjl
    obtain ⟨b1, b2, -⟩ := hr j _ _ hrj hj
    rw [← b2]
    exact h4 _ (List.mem_of_getElem? hrj) b1
theorem least_all {T : List (List UInt8 × Bool)} {rs : List Rn} {Ls : List Lines} (hl : rs.length = Ls.length) (hr : ∀ (k : Nat) (r : Rn) (L : Lines), rs[k]? = some r → Ls[k]? = some L → Reads T r L) (h : leastOf F rs = none) : ∀ L ∈ Ls, L = [] := fun L hL => by
  obtain ⟨j, hj⟩ := List.mem_iff_getElem?.1 hL
  have hjl : j < rs.length := by rw [hl]; exact (List.getElem?_eq_some_iff.1 hj).1
  have hrj := List.getElem?_eq_getElem hjl
  have h1 := hr j _ _ hrj hj
  cases L with
  | nil => rfl
  | cons l L => have := least_none h _ (List.mem_of_getElem? hrj); rw [h1.1] at this; cases this
theorem readAt_on {d : DSt} {rs : List Rn} {Ls : List Lines} (hl : rs.length = Ls.length) (hr : ∀ (k : Nat) (r : Rn) (L : Lines), rs[k]? = some r → Ls[k]? = some L → Reads d.T r L) {k : Nat} {r : Rn} {l : List UInt8} {L : Lines} (h1 : rs[k]? = some r) (h2 : Ls[k]? = some (l :: L)) (h3 : Behind d.T r L) :
    (readAt S d rs k).1 = cntS S d ∧ (readAt S d rs k).2.2 = cntE S d ∧ (cntE S d = 0 → (readAt S d rs k).2.1.length = (Ls.set k L).length ∧ (∀ (j : Nat) (r : Rn) (M : Lines), (readAt S d rs k).2.1[j]? = some r → (Ls.set k L)[j]? = some M → Reads d.T r M) ∧ (readAt S d rs k).2.1.map (·.no) = rs.map (·.no)) := by
  obtain ⟨a1, a2, a3⟩ := read_on (S := S) h3
  have e : readAt S d rs k = ((readR S d r).1, rs.set k (readR S d r).2.1, (readR S d r).2.2) := by unfold readAt; rw [h1]
  rw [e]
  refine ⟨a1, a2, fun h0 => ?_⟩
  obtain ⟨b1, b2⟩ := a3 h0
  refine ⟨by simpa using hl, fun j r' M hj hM => ?_, ?_⟩
  · by_cases hjk : j = k
    · subst hjk
      rw [List.getElem?_set_self (List.getElem?_eq_some_iff.1 h1).1] at hj
      rw [List.getElem?_set_self (List.getElem?_eq_some_iff.1 h2).1] at hM
      cases hj
      cases hM
      exact b1
    · rw [List.getElem?_set_ne (fun e => hjk e.symm)] at hj hM
      exact hr j r' M hj hM
  · refine List.ext_getElem? fun j => ?_
    rw [List.getElem?_map, List.getElem?_map]
    by_cases hjk : j = k
    · subst hjk
      rw [List.getElem?_set_self (List.getElem?_eq_some_iff.1 h1).1, h1]
      simp [b2]
    · rw [List.getElem?_set_ne (fun e => hjk e.symm)]
theorem ms_write {no : Int} {d : DSt} {rs : List Rn} {Ls : List Lines} {t : List UInt8} (h : MS no d rs Ls t) {k : Nat} {l : List UInt8} (hk : leastOf F rs = some (k, l)) :
    l.length ≤ 64 ∧ writeE S d no (l ++ [10]) = cntE S d ∧ (cntE S d ≠ 0 → writeS S d no (l ++ [10]) = cntS S d) ∧ (cntE S d = 0 → MS no (writeS S d no (l ++ [10])) rs Ls (t ++ (l ++ [10])) ∧ (writeS S d no (l ++ [10])).n = d.n + 1 ∧ (writeS S d no (l ++ [10])).T = d.T.set (no - 1).toNat (t ++ (l ++ [10]), true)) := by
  obtain ⟨r, L, h1, h2, h3, -⟩ := least_head h.len h.reads hk
  have hl := h.fine _ (List.mem_of_getElem? h2) l List.mem_cons_self
  obtain ⟨a1, a2, a3⟩ := write_on (S := S) h.target hl.1
  obtain ⟨c1, c2, c3, c4⟩ := fileAt_set_self h.target (t ++ (l ++ [10]))
  refine ⟨hl.1, a1, a2, fun h0 => ?_⟩
  rw [a3 h0]
  refine ⟨⟨h.len, fun j r' M hj hM => (h.reads j r' M hj hM).same (fileAt_set _ c3 (h.apart r' (List.mem_of_getElem? hj))), h.fine, h.apart, c1⟩, rfl, rfl⟩
theorem ms_read {no : Int} {d : DSt} {rs : List Rn} {Ls : List Lines} {t : List UInt8} (h : MS no d rs Ls t) {k : Nat} {l : List UInt8} (hk : leastOf F rs = some (k, l)) :
    ∃ r L, rs[k]? = some r ∧ Ls[k]? = some (l :: L) ∧ (readAt S d rs k).1 = cntS S d ∧ (readAt S d rs k).2.2 = cntE S d ∧ (cntE S d = 0 → MS no (cntS S d) (readAt S d rs k).2.1 (Ls.set k L) t ∧ (readAt S d rs k).2.1.map (·.no) = rs.map (·.no)) := by
  obtain ⟨r, L, h1, h2, h3, -⟩ := least_head h.len h.reads hk
  obtain ⟨a1, a2, a3⟩ := readAt_on (S := S) h.len h.reads h1 h2 h3
  refine ⟨r, L, h1, h2, a1, a2, fun h0 => ?_⟩
  obtain ⟨b1, b2, b3⟩ := a3 h0
  refine ⟨⟨b1, b2, fun M hM => ?_, fun r' hr' => ?_, h.target⟩, b3⟩
  · rcases List.mem_or_eq_of_mem_set hM with hM | rfl
    · exact h.fine M hM
    · exact (h.fine _ (List.mem_of_getElem? h2)).tail
  · obtain ⟨j, hj⟩ := List.mem_iff_getElem?.1 hr'
    have e := congrArg (fun l => l[j]?) b3
    simp only [List.getElem?_map, hj, Option.map_some] at e
    cases hrj : rs[j]? with
    | none => rw [hrj] at e; cases e
    | some x =>
      rw [hrj] at e
      simp only [Option.map_some, Option.some.injEq] at e
      rw [e]
      exact h.apart x (List.mem_of_getElem? hrj)
theorem mergeGo_succ (no : Int) (f : Nat) (d : DSt) (rs : List Rn) : mergeGo S F no (f + 1) d rs = match leastOf F rs with
    | none => (d, rs, 0)
    | some (k, l) => if writeE S d no (l ++ [10]) ≠ 0 then (writeS S d no (l ++ [10]), rs, writeE S d no (l ++ [10]))
      else if (readAt S (writeS S d no (l ++ [10])) rs k).2.2 ≠ 0 then readAt S (writeS S d no (l ++ [10])) rs k
      else mergeGo S F no f (readAt S (writeS S d no (l ++ [10])) rs k).1 (readAt S (writeS S d no (l ++ [10])) rs k).2.1 := rfl
theorem sum_tail {Ls : List Lines} {k : Nat} {l : List UInt8} {L : Lines} (h : Ls[k]? = some (l :: L)) : lsum (Ls.set k L) + 1 = lsum Ls ∧ wsum (Ls.set k L) + (l.length + 1) = wsum Ls := by
  have h1 := sum_set List.length h L
  have h2 := sum_set weightL h L
  rw [weightL_cons] at h2
  unfold lsum wsum
  simp only [List.length_cons] at h1
  omega
theorem flat_tail {Ls : List Lines} {k : Nat} {l : List UInt8} {L : Lines} (h : Ls[k]? = some (l :: L)) : (l :: (Ls.set k L).flatten).Perm Ls.flatten := by
  induction Ls generalizing k with
  | nil => simp at h
  | cons x r ih =>
    cases k with
    | zero =>
      have h : x = l :: L := by simpa using h
      subst h
      simp
    | succ k =>
      have := ih (k := k) (by simpa using h)
      simp only [List.set_cons_succ, List.flatten_cons]
      exact List.perm_middle.symm.trans (this.append_left x)
theorem mergeGo_is (no : Int) : ∀ (f : Nat) (d : DSt) (rs : List Rn) (Ls : List Lines) (t : List UInt8), MS no d rs Ls t → lsum Ls ≤ f →
    (mergeGo S F no f d rs).1.n ≤ d.n + 2 * lsum Ls ∧ (mergeGo S F no f d rs).1.T.length = d.T.length ∧ ((mergeGo S F no f d rs).2.2 = 0 ∨ ((mergeGo S F no f d rs).2.2 = 25 ∧ S ≠ [])) ∧
    (∀ B, (∀ x ∈ d.T, x.1.length ≤ B) → t.length + wsum Ls ≤ B → ∀ x ∈ (mergeGo S F no f d rs).1.T, x.1.length ≤ B) ∧
    ((mergeGo S F no f d rs).2.2 = 0 → ∃ W : Lines, W.Perm Ls.flatten ∧ FineL W ∧ ((∀ L ∈ Ls, SortedL F L) → SortedL F W) ∧ fileAt (mergeGo S F no f d rs).1.T no = some (t ++ joinL W) ∧ (∀ no', no' ≠ no → fileAt (mergeGo S F no f d rs).1.T no' = fileAt d.T no') ∧ (mergeGo S F no f d rs).2.1.map (·.no) = rs.map (·.no))
  | f, d, rs, Ls, t, h, hf => by
    have hnone : leastOf F rs = none → ∃ W : Lines, W.Perm Ls.flatten ∧ FineL W ∧ ((∀ L ∈ Ls, SortedL F L) → SortedL F W) ∧ fileAt d.T no = some (t ++ joinL W) ∧ (∀ no', no' ≠ no → fileAt d.T no' = fileAt d.T no') ∧ rs.map (·.no) = rs.map (·.no) := fun e => by
      have hz := least_all h.len h.reads e
      have : Ls.flatten = [] := List.flatten_eq_nil_iff.2 hz
      exact ⟨[], by rw [this], FineL.nil, fun _ => List.Pairwise.nil, by simpa [joinL] using h.target, fun _ _ => rfl, rfl⟩
    have hzero : ∀ q : DSt × List Rn × Int, q = (d, rs, 0) → leastOf F rs = none → q.1.n ≤ d.n + 2 * lsum Ls ∧ q.1.T.length = d.T.length ∧ (q.2.2 = 0 ∨ (q.2.2 = 25 ∧ S ≠ [])) ∧ (∀ B, (∀ x ∈ d.T, x.1.length ≤ B) → t.length + wsum Ls ≤ B → ∀ x ∈ q.1.T, x.1.length ≤ B) ∧
        (q.2.2 = 0 → ∃ W : Lines, W.Perm Ls.flatten ∧ FineL W ∧ ((∀ L ∈ Ls, SortedL F L) → SortedL F W) ∧ fileAt q.1.T no = some (t ++ joinL W) ∧ (∀ no', no' ≠ no → fileAt q.1.T no' = fileAt d.T no') ∧ q.2.1.map (·.no) = rs.map (·.no)) := fun q e1 e2 => by
      subst e1
      exact ⟨Nat.le_add_right _ _, rfl, .inl rfl, fun B hB _ => hB, fun _ => hnone e2⟩
    have hS : ∀ d : DSt, cntE S d ≠ 0 → cntE S d = 25 ∧ S ≠ [] := fun d h0 => ⟨by rcases cntE_cases S d with e | e; exact absurd e h0; exact e, fun e => by rw [e] at h0; exact h0 (cntE_none d)⟩
    cases f with
    | zero =>
      refine hzero _ rfl ?_
      cases hl : leastOf F rs with
      | none => rfl
      | some kl =>
        obtain ⟨k, l⟩ := kl
        obtain ⟨r, L, -, h2, -⟩ := least_head h.len h.reads hl
        have := lsum_at h2
        simp at this
        omega
    | succ f =>
      cases hl : leastOf F rs with
      | none => exact hzero _ (by rw [mergeGo_succ, hl]) hl
      | some kl =>
        obtain ⟨k, l⟩ := kl
        obtain ⟨w0, w1, w2, w3⟩ := ms_write (S := S) h hl
        have hst : ∀ (x : DSt × List Rn × Int), mergeGo S F no (f + 1) d rs = x → x = mergeGo S F no (f + 1) d rs := fun x e => e.symm
        rw [mergeGo_succ, hl]
        simp only
        by_cases h0 : cntE S d = 0
        · rw [w1, if_neg (by simpa using h0)]
          obtain ⟨m1, m2, m3⟩ := w3 h0
          obtain ⟨r, L, r1, r2, r3, r4, r5⟩ := ms_read (S := S) m1 hl
          obtain ⟨s1, s2⟩ := sum_tail r2
          have htl : (t ++ (l ++ [10])).length = t.length + (l.length + 1) := by simp
          have hset : ∀ B, (∀ x ∈ d.T, x.1.length ≤ B) → t.length + wsum Ls ≤ B → ∀ x ∈ (writeS S d no (l ++ [10])).T, x.1.length ≤ B := fun B hB hw x hx => by
            rw [m3] at hx
            rcases List.mem_or_eq_of_mem_set hx with hx | rfl
            · exact hB x hx
            · show (t ++ (l ++ [10])).length ≤ B
              omega
          by_cases h1 : cntE S (writeS S d no (l ++ [10])) = 0
          · rw [r4, if_neg (by simpa using h1)]
            obtain ⟨n1, n2⟩ := r5 h1
            rw [r3]
            obtain ⟨i1, i2, i3, i4, i5⟩ := mergeGo_is no f _ _ _ _ n1 (by omega)
            refine ⟨?_, ?_, i3, fun B hB hw => i4 B (hset B hB hw) (by omega), fun he => ?_⟩
            · have : (cntS S (writeS S d no (l ++ [10]))).n = d.n + 2 := by show (writeS S d no (l ++ [10])).n + 1 = _; omega
              omega
            · rw [i2]
              show (writeS S d no (l ++ [10])).T.length = _
              rw [m3, List.length_set]
            · obtain ⟨W, p1, p2, p3, p4, p5, p6⟩ := i5 he
              refine ⟨l :: W, (p1.cons l).trans (flat_tail r2), fun x hx => ?_, fun hs => ?_, ?_, fun no' hno => ?_, p6.trans n2⟩
              · rcases List.mem_cons.1 hx with rfl | hx
                · exact h.fine _ (List.mem_of_getElem? r2) x List.mem_cons_self
                · exact p2 x hx
              · have hs2 : ∀ M ∈ Ls.set k L, SortedL F M := fun M hM => by
                  rcases List.mem_or_eq_of_mem_set hM with hM | rfl
                  · exact hs M hM
                  · exact (List.pairwise_cons.1 (hs _ (List.mem_of_getElem? r2))).2
                refine List.pairwise_cons.2 ⟨fun x hx => ?_, p3 hs2⟩
                obtain ⟨-, -, -, -, -, hmin⟩ := least_head h.len h.reads hl
                obtain ⟨M, hM, hxM⟩ := List.mem_flatten.1 (p1.mem_iff.1 hx)
                rcases List.mem_or_eq_of_mem_set hM with hM | rfl
                · cases M with
                  | nil => cases hxM
                  | cons m M' =>
                    have h1 := hmin _ hM m M' rfl
                    rcases List.mem_cons.1 hxM with rfl | hxM
                    · exact h1
                    · exact upto_trans h1 ((List.pairwise_cons.1 (hs _ hM)).1 x hxM)
                · exact (List.pairwise_cons.1 (hs _ (List.mem_of_getElem? r2))).1 x hxM
              · rw [p4, joinSp_cons]
                simp
              · rw [p5 no' hno]
                show fileAt (writeS S d no (l ++ [10])).T no' = _
                rw [m3]
                exact fileAt_set _ (fileAt_set_self h.target []).2.2.1 hno
          · obtain ⟨e1, e2⟩ := hS _ h1
            rw [r4, if_pos h1]
            refine ⟨?_, ?_, .inr ⟨by rw [r4]; exact e1, e2⟩, fun B hB hw x hx => ?_, fun he => ?_⟩
            · rw [r3]
              show (writeS S d no (l ++ [10])).n + 1 ≤ _
              omega
            · rw [r3]
              show (writeS S d no (l ++ [10])).T.length = _
              rw [m3, List.length_set]
            · rw [r3] at hx
              exact hset B hB hw x hx
            · rw [r4] at he
              exact absurd he h1
        · obtain ⟨e1, e2⟩ := hS _ h0
          rw [w1, if_pos h0, w2 h0]
          refine ⟨?_, rfl, .inr ⟨e1, e2⟩, fun B hB _ => hB, fun he => absurd he h0⟩
          show d.n + 1 ≤ _
          obtain ⟨r, L, -, h2, -⟩ := least_head h.len h.reads hl
          have := lsum_at h2
          simp at this
          omega
end

end Go.Proofs.YtpgigpajpcianaaGreatDoor

namespace Go.Proofs.YtpgigpajpcianaaGreatDoor
open Go.RowKit

structure RunsOk (F : Bool) (d : DSt) (rs : List Rn) (Ms : List Lines) : Prop where
  len : rs.length = Ms.length
  file : ∀ (k : Nat) (r : Rn) (M : Lines), rs[k]? = some r → Ms[k]? = some M → r = fresh r.no ∧ fileAt d.T r.no = some (joinL M) ∧ M ≠ [] ∧ FineL M ∧ SortedL F M
  nodup : (rs.map (·.no)).Nodup
def Only (d : DSt) (nos : List Int) : Prop := ∀ no, fileAt d.T no ≠ none → no ∈ nos
section
variable {S : Script} {F : Bool}
theorem RunsOk.at_ {d : DSt} {rs : List Rn} {Ms : List Lines} (h : RunsOk F d rs Ms) {k : Nat} {r : Rn} (hk : rs[k]? = some r) : ∃ M, Ms[k]? = some M ∧ r = fresh r.no ∧ fileAt d.T r.no = some (joinL M) ∧ M ≠ [] ∧ FineL M ∧ SortedL F M := by
  have h1 : k < Ms.length := by rw [← h.len]; exact (List.getElem?_eq_some_iff.1 hk).1
  exact ⟨Ms[k], List.getElem?_eq_getElem h1, h.file k r _ hk (List.getElem?_eq_getElem h1)⟩
theorem RunsOk.mem {d : DSt} {rs : List Rn} {Ms : List Lines} (h : RunsOk F d rs Ms) {r : Rn} (hr : r ∈ rs) : ∃ M, M ∈ Ms ∧ r = fresh r.no ∧ fileAt d.T r.no = some (joinL M) ∧ M ≠ [] ∧ FineL M ∧ SortedL F M := by
  obtain ⟨k, hk⟩ := List.mem_iff_getElem?.1 hr
  obtain ⟨M, h1, h2⟩ := h.at_ hk
  exact ⟨M, List.mem_of_getElem? h1, h2⟩
theorem RunsOk.sub {d d' : DSt} {rs : List Rn} {Ms : List Lines} (h : RunsOk F d rs Ms) (hf : ∀ r ∈ rs, fileAt d'.T r.no = fileAt d.T r.no) : RunsOk F d' rs Ms :=
  ⟨h.len, fun k r M h1 h2 => by obtain ⟨a, b, c⟩ := h.file k r M h1 h2; exact ⟨a, (hf r (List.mem_of_getElem? h1)).trans b, c⟩, h.nodup⟩
theorem RunsOk.app {d : DSt} {rs rs' : List Rn} {Ms Ms' : List Lines} (h : RunsOk F d rs Ms) (h' : RunsOk F d rs' Ms') (hd : ∀ r ∈ rs, ∀ r' ∈ rs', r.no ≠ r'.no) : RunsOk F d (rs ++ rs') (Ms ++ Ms') := by
  refine ⟨by rw [List.length_append, List.length_append, h.len, h'.len], fun k r M h1 h2 => ?_, ?_⟩
  · by_cases hk : k < rs.length
    · rw [List.getElem?_append_left hk] at h1
      rw [List.getElem?_append_left (by rw [← h.len]; exact hk)] at h2
      exact h.file k r M h1 h2
    · rw [List.getElem?_append_right (by omega)] at h1
      rw [List.getElem?_append_right (by rw [← h.len]; omega), ← h.len] at h2
      exact h'.file _ r M h1 h2
  · rw [List.map_append]
    refine List.nodup_append.2 ⟨h.nodup, h'.nodup, fun a ha b hb => ?_⟩
    obtain ⟨r, hr, rfl⟩ := List.mem_map.1 ha
    obtain ⟨r', hr', rfl⟩ := List.mem_map.1 hb
    exact hd r hr r' hr'
theorem RunsOk.left {d : DSt} {rs rs' : List Rn} {Ms : List Lines} (h : RunsOk F d (rs ++ rs') Ms) : RunsOk F d rs (Ms.take rs.length) := by
  have hl := h.len
  rw [List.length_append] at hl
  refine ⟨by rw [List.length_take]; omega, fun k r M h1 h2 => ?_, ?_⟩
  · have hk := (List.getElem?_eq_some_iff.1 h1).1
    refine h.file k r M (by rw [List.getElem?_append_left hk]; exact h1) ?_
    rw [List.getElem?_take, if_pos hk] at h2
    exact h2
  · have := h.nodup
    rw [List.map_append] at this
    exact (List.nodup_append.1 this).1
theorem RunsOk.right {d : DSt} {rs rs' : List Rn} {Ms : List Lines} (h : RunsOk F d (rs ++ rs') Ms) : RunsOk F d rs' (Ms.drop rs.length) := by
  have hl := h.len
  rw [List.length_append] at hl
  refine ⟨by rw [List.length_drop]; omega, fun k r M h1 h2 => ?_, ?_⟩
  · refine h.file (rs.length + k) r M (by rw [List.getElem?_append_right (by omega)]; simpa using h1) ?_
    rw [List.getElem?_drop] at h2
    exact h2
  · have := h.nodup
    rw [List.map_append] at this
    exact (List.nodup_append.1 this).2.1
theorem RunsOk.apart {d : DSt} {rs rs' : List Rn} {Ms : List Lines} (h : RunsOk F d (rs ++ rs') Ms) : ∀ r ∈ rs, ∀ r' ∈ rs', r.no ≠ r'.no := fun r hr r' hr' => by
  have := h.nodup
  rw [List.map_append] at this
  exact (List.nodup_append.1 this).2.2 _ (List.mem_map.2 ⟨r, hr, rfl⟩) _ (List.mem_map.2 ⟨r', hr', rfl⟩)
theorem fileAt_range {T : List (List UInt8 × Bool)} {no : Int} {t : List UInt8} (h : fileAt T no = some t) : 1 ≤ no ∧ no ≤ T.length := by
  have := (fileAt_set_self h []).2.2
  omega
theorem readAll_is : ∀ (rs : List Rn) (d : DSt) (Ls : List Lines), rs.length = Ls.length → (∀ (k : Nat) (r : Rn) (L : Lines), rs[k]? = some r → Ls[k]? = some L → Behind d.T r L) →
    (readAll S d rs).1.T = d.T ∧ (readAll S d rs).1.n ≤ d.n + rs.length ∧ ((readAll S d rs).2.2 = 0 ∨ ((readAll S d rs).2.2 = 25 ∧ S ≠ [])) ∧
    ((readAll S d rs).2.2 = 0 → (readAll S d rs).2.1.length = Ls.length ∧ (∀ (k : Nat) (r : Rn) (L : Lines), (readAll S d rs).2.1[k]? = some r → Ls[k]? = some L → Reads d.T r L) ∧ (readAll S d rs).2.1.map (·.no) = rs.map (·.no))
  | [], d, Ls, hl, hr => by
    refine ⟨rfl, Nat.le_refl _, .inl rfl, fun _ => ⟨hl, fun k r L h1 _ => ?_, rfl⟩⟩
    have h1 : ([] : List Rn)[k]? = some r := h1
    simp at h1
  | r :: rs, d, [], hl, hr => by simp at hl
  | r :: rs, d, L :: Ls, hl, hr => by
    obtain ⟨a1, a2, a3⟩ := read_on (S := S) (hr 0 r L rfl rfl)
    have e : readAll S d (r :: rs) = if (readR S d r).2.2 ≠ 0 then ((readR S d r).1, r :: rs, (readR S d r).2.2) else ((readAll S (readR S d r).1 rs).1, (readR S d r).2.1 :: (readAll S (readR S d r).1 rs).2.1, (readAll S (readR S d r).1 rs).2.2) := rfl
    rw [e, a1, a2]
    by_cases h0 : cntE S d = 0
    · rw [if_neg (by simpa using h0)]
      obtain ⟨b1, b2⟩ := a3 h0
      obtain ⟨c1, c2, c3, c4⟩ := readAll_is rs (cntS S d) Ls (by simpa using hl) (fun k r' M h1 h2 => hr (k + 1) r' M h1 h2)
      refine ⟨c1, ?_, c3, fun he => ?_⟩
      · have : (cntS S d).n = d.n + 1 := rfl
        rw [List.length_cons]
        show (readAll S (cntS S d) rs).1.n ≤ _
        omega
      · obtain ⟨d1, d2, d3⟩ := c4 he
        refine ⟨by simpa using d1, fun k r' M h1 h2 => ?_, by simp [b2, d3]⟩
        cases k with
        | zero =>
          have h1 : (readR S d r).2.1 = r' := by simpa using h1
          have h2 : L = M := by simpa using h2
          subst h1 h2
          exact b1
        | succ k => exact d2 k r' M (by simpa using h1) (by simpa using h2)
    · rw [if_pos h0]
      refine ⟨rfl, ?_, .inr ⟨by rcases cntE_cases S d with e | e; exact absurd e h0; exact e, fun e => by rw [e] at h0; exact h0 (cntE_none d)⟩, fun he => absurd he h0⟩
      show d.n + 1 ≤ _
      simp
theorem RunsOk.behind {d : DSt} {rs : List Rn} {Ms : List Lines} (h : RunsOk F d rs Ms) : ∀ (k : Nat) (r : Rn) (L : Lines), rs[k]? = some r → Ms[k]? = some L → Behind d.T r L := fun k r L h1 h2 => by
  obtain ⟨a, b, c, e, -⟩ := h.file k r L h1 h2
  refine ⟨joinL L, [], b, rfl, ?_, e⟩
  rw [a]
  rfl
theorem removeAll_is : ∀ (rs : List Rn) (d : DSt), (∀ r ∈ rs, fileAt d.T r.no ≠ none) → (rs.map (·.no)).Nodup →
    (removeAll S d rs).1.n ≤ d.n + rs.length ∧ (removeAll S d rs).1.T.length = d.T.length ∧ ((removeAll S d rs).2 = 0 ∨ ((removeAll S d rs).2 = 25 ∧ S ≠ [])) ∧ (∀ B, (∀ x ∈ d.T, x.1.length ≤ B) → ∀ x ∈ (removeAll S d rs).1.T, x.1.length ≤ B) ∧
    (∀ no, no ∉ rs.map (·.no) → fileAt (removeAll S d rs).1.T no = fileAt d.T no) ∧ ((removeAll S d rs).2 = 0 → ∀ r ∈ rs, fileAt (removeAll S d rs).1.T r.no = none)
  | [], d, _, _ => ⟨Nat.le_refl _, rfl, .inl rfl, fun _ h => h, fun _ _ => rfl, fun _ _ h => by cases h⟩
  | r :: rs, d, hr, hn => by
    obtain ⟨t, ht⟩ : ∃ t, fileAt d.T r.no = some t := by
      cases h : fileAt d.T r.no with
      | none => exact absurd h (hr r List.mem_cons_self)
      | some t => exact ⟨t, rfl⟩
    obtain ⟨a1, a2, a3⟩ := remove_on (S := S) ht
    obtain ⟨c1, c2, c3, c4⟩ := fileAt_set_self ht t
    have e : removeAll S d (r :: rs) = if removeE S d r.no ≠ 0 then (removeS S d r.no, removeE S d r.no) else removeAll S (removeS S d r.no) rs := rfl
    rw [e, a1]
    have hn' := List.nodup_cons.1 (show (r.no :: rs.map (·.no)).Nodup from hn)
    by_cases h0 : cntE S d = 0
    · rw [if_neg (by simpa using h0), a3 h0]
      have hoth : ∀ no, no ≠ r.no → fileAt (d.T.set (r.no - 1).toNat (t, false)) no = fileAt d.T no := fun no h => fileAt_set _ c3 h
      obtain ⟨b1, b2, b3, b4, b5, b6⟩ := removeAll_is rs { cntS S d with T := d.T.set (r.no - 1).toNat (t, false) } (fun x hx => by
        show fileAt (d.T.set (r.no - 1).toNat (t, false)) x.no ≠ none
        rw [hoth _ (fun e => hn'.1 (by rw [← e]; exact List.mem_map.2 ⟨x, hx, rfl⟩))]
        exact hr x (List.mem_cons_of_mem _ hx)) hn'.2
      refine ⟨?_, ?_, b3, fun B hB => b4 B fun x hx => ?_, fun no hno => ?_, fun he x hx => ?_⟩
      · have : ({ cntS S d with T := d.T.set (r.no - 1).toNat (t, false) } : DSt).n = d.n + 1 := rfl
        rw [List.length_cons]
        omega
      · rw [b2]
        show (d.T.set (r.no - 1).toNat (t, false)).length = _
        rw [List.length_set]
      · rcases List.mem_or_eq_of_mem_set (show x ∈ d.T.set (r.no - 1).toNat (t, false) from hx) with hx | rfl
        · exact hB x hx
        · obtain ⟨k, hk⟩ : ∃ k, d.T[k]? = some (t, true) := by
            rcases fileAt_cases d.T r.no with ⟨k, t', e, hk, hf⟩ | hf
            · rw [hf] at ht; cases ht; exact ⟨k, hk⟩
            · rw [hf] at ht; cases ht
          exact hB (t, true) (List.mem_of_getElem? hk)
      · have h1 : no ≠ r.no ∧ no ∉ rs.map (·.no) := by simpa using hno
        rw [b5 no h1.2]
        exact hoth no h1.1
      · rcases List.mem_cons.1 hx with rfl | hx
        · rw [b5 _ hn'.1]
          exact c2
        · exact b6 he x hx
    · rw [if_pos h0, a2 h0]
      refine ⟨?_, rfl, .inr ⟨by rcases cntE_cases S d with e | e; exact absurd e h0; exact e, fun e => by rw [e] at h0; exact h0 (cntE_none d)⟩, fun B hB => hB, fun no _ => rfl, fun he => absurd he h0⟩
      show d.n + 1 ≤ _
      simp
theorem create_is (S : Script) (d : DSt) : (createE S d = 0 ∧ createS S d = { cntS S d with T := d.T ++ [([], true)] } ∧ createN S d = (d.T.length : Int) + 1 ∧ d.T.length < 64) ∨ (createE S d = 17 ∧ createS S d = d ∧ 64 ≤ d.T.length) ∨ (createE S d = 25 ∧ createS S d = cntS S d ∧ S ≠ []) := by
  unfold createN createE createS
  by_cases h1 : 64 ≤ d.T.length
  · rw [if_pos h1, if_pos h1]
    exact .inr (.inl ⟨rfl, rfl, h1⟩)
  · rw [if_neg h1, if_neg h1]
    by_cases h0 : cntE S d = 0
    · rw [h0, if_pos rfl, if_pos rfl]
      exact .inl ⟨rfl, rfl, rfl, by omega⟩
    · rw [if_neg h0]
      exact .inr (.inr ⟨by rcases cntE_cases S d with e | e; exact absurd e h0; exact e, rfl, fun e => by rw [e] at h0; exact h0 (cntE_none d)⟩)
theorem wsum_flat (Ls : List Lines) : wsum Ls = weightL Ls.flatten := by
  induction Ls with
  | nil => rfl
  | cons L r ih =>
    rw [List.flatten_cons, weightL_append, ← ih]
    simp [wsum]
theorem lsum_flat (Ls : List Lines) : lsum Ls = Ls.flatten.length := by
  unfold lsum
  rw [List.length_flatten]
structure MergedR (S : Script) (F : Bool) (d : DSt) (rs : List Rn) (Ms : List Lines) (q : DSt × Option Rn × Int) : Prop where
  n : q.1.n ≤ d.n + 1 + 2 * rs.length + 2 * lsum Ms
  T : q.1.T.length ≤ 64
  B : ∀ B, (∀ x ∈ d.T, x.1.length ≤ B) → wsum Ms ≤ B → ∀ x ∈ q.1.T, x.1.length ≤ B
  e : q.2.2 = 0 ∨ q.2.2 = 17 ∨ (q.2.2 = 25 ∧ S ≠ [])
  ok : q.2.2 = 0 → ∃ r W, q.2.1 = some r ∧ RunsOk F q.1 [r] [W] ∧ W.Perm Ms.flatten ∧ (∀ no, no ∉ rs.map (·.no) → fileAt d.T no ≠ none → fileAt q.1.T no = fileAt d.T no ∧ no ≠ r.no) ∧ (∀ no, fileAt q.1.T no ≠ none → no = r.no ∨ (no ∉ rs.map (·.no) ∧ fileAt d.T no ≠ none))
theorem mergeR_one (d : DSt) (r : Rn) : mergeR S F d [r] = (d, some r, 0) := rfl
theorem mergeR_many (d : DSt) (rs : List Rn) (h : rs.length ≠ 1) : mergeR S F d rs = if createE S d ≠ 0 then (createS S d, none, createE S d)
    else if (readAll S (createS S d) rs).2.2 ≠ 0 then ((readAll S (createS S d) rs).1, none, (readAll S (createS S d) rs).2.2)
    else if (mergeGo S F (createN S d) fuelM (readAll S (createS S d) rs).1 (readAll S (createS S d) rs).2.1).2.2 ≠ 0 then
      ((mergeGo S F (createN S d) fuelM (readAll S (createS S d) rs).1 (readAll S (createS S d) rs).2.1).1, none, (mergeGo S F (createN S d) fuelM (readAll S (createS S d) rs).1 (readAll S (createS S d) rs).2.1).2.2)
    else if (removeAll S (mergeGo S F (createN S d) fuelM (readAll S (createS S d) rs).1 (readAll S (createS S d) rs).2.1).1 rs).2 ≠ 0 then
      ((removeAll S (mergeGo S F (createN S d) fuelM (readAll S (createS S d) rs).1 (readAll S (createS S d) rs).2.1).1 rs).1, none, (removeAll S (mergeGo S F (createN S d) fuelM (readAll S (createS S d) rs).1 (readAll S (createS S d) rs).2.1).1 rs).2)
    else ((removeAll S (mergeGo S F (createN S d) fuelM (readAll S (createS S d) rs).1 (readAll S (createS S d) rs).2.1).1 rs).1, some (fresh (createN S d)), 0) := by
  match rs, h with
  | [], _ => rfl
  | [r], h => exact absurd rfl h
  | r :: r' :: rs, _ => rfl
theorem merge_ms {d : DSt} {rs : List Rn} {Ms : List Lines} (h : RunsOk F d rs Ms) (hc : createE S d = 0) (h0 : (readAll S (createS S d) rs).2.2 = 0) :
    MS (createN S d) (readAll S (createS S d) rs).1 (readAll S (createS S d) rs).2.1 Ms [] := by
  rcases create_is S d with ⟨c1, c2, c3, c4⟩ | ⟨c1, -⟩ | ⟨c1, -⟩
  · have hb : ∀ (k : Nat) (r : Rn) (L : Lines), rs[k]? = some r → Ms[k]? = some L → Behind (createS S d).T r L := fun k r L h1 h2 => by
      obtain ⟨a, b, c, e, -⟩ := h.file k r L h1 h2
      refine ⟨joinL L, [], ?_, rfl, by rw [a]; rfl, e⟩
      rw [c2]
      exact (fileAt_old _ b).1
    obtain ⟨b1, b2, b3, b4⟩ := readAll_is (S := S) rs (createS S d) Ms h.len hb
    obtain ⟨e1, e2, e3⟩ := b4 h0
    refine ⟨e1, fun k r L k1 k2 => by rw [b1]; exact e2 k r L k1 k2, fun L hL => ?_, fun r hr => ?_, ?_⟩
    · obtain ⟨k, hk⟩ := List.mem_iff_getElem?.1 hL
      have hkl : k < rs.length := by rw [h.len]; exact (List.getElem?_eq_some_iff.1 hk).1
      exact (h.file k _ L (List.getElem?_eq_getElem hkl) hk).2.2.2.1
    · have hm : r.no ∈ rs.map (·.no) := by rw [← e3]; exact List.mem_map.2 ⟨r, hr, rfl⟩
      obtain ⟨x, hx, hxe⟩ := List.mem_map.1 hm
      obtain ⟨M, -, -, hf, -⟩ := h.mem hx
      rw [c3, ← hxe]
      exact (fileAt_old ([], true) hf).2
    · rw [b1, c2, c3]
      exact fileAt_new d.T []
  · rw [c1] at hc; cases hc
  · rw [c1] at hc; cases hc
theorem mergeR_is {d : DSt} {rs : List Rn} {Ms : List Lines} (h : RunsOk F d rs Ms) (hT : d.T.length ≤ 64) (hn : rs ≠ []) (hf : lsum Ms ≤ fuelM) : MergedR S F d rs Ms (mergeR S F d rs) := by
  by_cases h1 : rs.length = 1
  · obtain ⟨r, rfl⟩ := List.length_eq_one_iff.1 h1
    obtain ⟨M, rfl⟩ := List.length_eq_one_iff.1 (h.len.symm.trans h1)
    rw [mergeR_one]
    refine ⟨by show d.n ≤ _; omega, hT, fun B hB _ => hB, .inl rfl, fun _ => ⟨r, M, rfl, h, by simp, fun no hno hx => ⟨rfl, fun e => hno (by simp [e])⟩, fun no hno => ?_⟩⟩
    by_cases e : no = r.no
    · exact .inl e
    · exact .inr ⟨by simpa using e, hno⟩
  · rw [mergeR_many d rs h1]
    rcases create_is S d with ⟨c1, c2, c3, c4⟩ | ⟨c1, c2, c3⟩ | ⟨c1, c2, c3⟩
    · rw [if_neg (by rw [c1]; simp)]
      have hb : ∀ (k : Nat) (r : Rn) (L : Lines), rs[k]? = some r → Ms[k]? = some L → Behind (createS S d).T r L := fun k r L h1 h2 => by
        obtain ⟨a, b, c, e, -⟩ := h.file k r L h1 h2
        refine ⟨joinL L, [], ?_, rfl, by rw [a]; rfl, e⟩
        rw [c2]
        exact (fileAt_old _ b).1
      obtain ⟨b1, b2, b3, b4⟩ := readAll_is (S := S) rs (createS S d) Ms h.len hb
      have hcn : (createS S d).n = d.n + 1 := by rw [c2]; rfl
      have hcT : (createS S d).T = d.T ++ [([], true)] := by rw [c2]
      have hcl : (createS S d).T.length = d.T.length + 1 := by rw [hcT]; simp
      have hcB : ∀ B, (∀ x ∈ d.T, x.1.length ≤ B) → ∀ x ∈ (createS S d).T, x.1.length ≤ B := fun B hB x hx => by
        rw [hcT] at hx
        rcases List.mem_append.1 hx with hx | hx
        · exact hB x hx
        · rw [List.mem_singleton.1 hx]; exact Nat.zero_le _
      by_cases h0 : (readAll S (createS S d) rs).2.2 = 0
      · rw [if_neg (by simpa using h0)]
        have hms := merge_ms h c1 h0
        obtain ⟨e1, e2, e3⟩ := b4 h0
        obtain ⟨g1, g2, g3, g4, g5⟩ := mergeGo_is (S := S) (F := F) (createN S d) fuelM _ _ _ _ hms hf
        generalize hq : mergeGo S F (createN S d) fuelM (readAll S (createS S d) rs).1 (readAll S (createS S d) rs).2.1 = q at g1 g2 g3 g4 g5 ⊢
        have gB : ∀ B, (∀ x ∈ d.T, x.1.length ≤ B) → wsum Ms ≤ B → ∀ x ∈ q.1.T, x.1.length ≤ B := fun B hB hw => g4 B (by rw [b1]; exact hcB B hB) (by simpa using hw)
        by_cases h2 : q.2.2 = 0
        · rw [if_neg (by simpa using h2)]
          obtain ⟨W, w1, w2, w3, w4, w5, w6⟩ := g5 h2
          have hrm : ∀ r ∈ rs, fileAt q.1.T r.no ≠ none ∧ r.no ≠ createN S d := fun r hr => by
            obtain ⟨M, -, -, hf, -⟩ := h.mem hr
            obtain ⟨o1, o2⟩ := fileAt_old ([], true) hf
            rw [w5 r.no (by rw [c3]; exact o2), b1, hcT, o1]
            exact ⟨by simp, by rw [c3]; exact o2⟩
          obtain ⟨m1, m2, m3, m4, m5, m6⟩ := removeAll_is (S := S) rs q.1 (fun r hr => (hrm r hr).1) h.nodup
          have hN : createN S d ∉ rs.map (·.no) := fun e => by
            obtain ⟨x, hx, hxe⟩ := List.mem_map.1 e
            exact (hrm x hx).2 hxe
          by_cases h3 : (removeAll S q.1 rs).2 = 0
          · rw [if_neg (by simpa using h3)]
            refine ⟨?_, ?_, fun B hB hw => m4 B (gB B hB hw), .inl rfl, fun _ => ⟨fresh (createN S d), W, rfl, ⟨rfl, fun k r M k1 k2 => ?_, by simp⟩, w1, fun no hno hx => ?_, fun no hno => ?_⟩⟩
            · show (removeAll S q.1 rs).1.n ≤ _
              omega
            · show (removeAll S q.1 rs).1.T.length ≤ _
              rw [m2, g2, b1, hcl]
              omega
            · cases k with
              | zero =>
                have k1 : fresh (createN S d) = r := by simpa using k1
                have k2 : W = M := by simpa using k2
                subst k1 k2
                refine ⟨rfl, ?_, fun e => ?_, w2, w3 fun L hL => ?_⟩
                · show fileAt (removeAll S q.1 rs).1.T (createN S d) = _
                  rw [m5 _ hN, w4]
                  rfl
                · subst e
                  cases rs with
                  | nil => exact hn rfl
                  | cons r0 rs0 =>
                    obtain ⟨M, hM, -, -, hne, -⟩ := h.mem (r := r0) List.mem_cons_self
                    have hz : Ms.flatten = [] := List.nil_perm.1 w1
                    exact hne (List.flatten_eq_nil_iff.1 hz M hM)
                · obtain ⟨k, hk⟩ := List.mem_iff_getElem?.1 hL
                  have hkl : k < rs.length := by rw [h.len]; exact (List.getElem?_eq_some_iff.1 hk).1
                  exact (h.file k _ L (List.getElem?_eq_getElem hkl) hk).2.2.2.2
              | succ k => simp at k1
            · obtain ⟨t, ht⟩ : ∃ t, fileAt d.T no = some t := by
                cases hx2 : fileAt d.T no with
                | none => exact absurd hx2 hx
                | some t => exact ⟨t, rfl⟩
              obtain ⟨o1, o2⟩ := fileAt_old ([], true) ht
              have hne : no ≠ createN S d := by rw [c3]; exact o2
              refine ⟨?_, hne⟩
              show fileAt (removeAll S q.1 rs).1.T no = _
              rw [m5 no hno, w5 no hne, b1, hcT, o1, ht]
            · have hno : fileAt (removeAll S q.1 rs).1.T no ≠ none := hno
              by_cases e : no = createN S d
              · exact .inl e
              · by_cases e2 : no ∈ rs.map (·.no)
                · obtain ⟨x, hx, rfl⟩ := List.mem_map.1 e2
                  exact absurd (m6 h3 x hx) hno
                · refine .inr ⟨e2, fun e3 => ?_⟩
                  rw [m5 no e2, w5 no e, b1, hcT] at hno
                  refine hno ?_
                  cases hx : fileAt (d.T ++ [([], true)]) no with
                  | none => rfl
                  | some t =>
                    exfalso
                    rcases fileAt_cases (d.T ++ [([], true)]) no with ⟨k, t', ek, hk, hf2⟩ | hf2
                    · by_cases hkl : k < d.T.length
                      · rw [List.getElem?_append_left hkl] at hk
                        have := fileAt_some hk
                        rw [← ek, e3] at this
                        cases this
                      · have h5 := (List.getElem?_eq_some_iff.1 hk).1
                        simp at h5
                        exact e (by rw [c3]; omega)
                    · rw [hf2] at hx; cases hx
          · rw [if_pos h3]
            refine ⟨?_, ?_, fun B hB hw => m4 B (gB B hB hw), ?_, fun he => absurd he h3⟩
            · show (removeAll S q.1 rs).1.n ≤ _
              omega
            · show (removeAll S q.1 rs).1.T.length ≤ _
              rw [m2, g2, b1, hcl]
              omega
            · rcases m3 with e | e
              · exact absurd e h3
              · exact .inr (.inr e)
        · rw [if_pos h2]
          refine ⟨?_, ?_, gB, ?_, fun he => absurd he h2⟩
          · show q.1.n ≤ _
            omega
          · show q.1.T.length ≤ _
            rw [g2, b1, hcl]
            omega
          · rcases g3 with e | e
            · exact absurd e h2
            · exact .inr (.inr e)
      · rw [if_pos h0]
        refine ⟨?_, ?_, fun B hB _ => ?_, ?_, fun he => absurd he h0⟩
        · show (readAll S (createS S d) rs).1.n ≤ _
          omega
        · show (readAll S (createS S d) rs).1.T.length ≤ _
          rw [b1, hcl]
          omega
        · show ∀ x ∈ (readAll S (createS S d) rs).1.T, x.1.length ≤ B
          rw [b1]
          exact hcB B hB
        · rcases b3 with e | e
          · exact absurd e h0
          · exact .inr (.inr e)
    · rw [if_pos (by rw [c1]; decide), c1, c2]
      exact ⟨by show d.n ≤ _; omega, hT, fun B hB _ => hB, .inr (.inl rfl), fun he => by cases he⟩
    · rw [if_pos (by rw [c1]; decide), c1, c2]
      exact ⟨by show d.n + 1 ≤ _; omega, hT, fun B hB _ => hB, .inr (.inr ⟨rfl, c3⟩), fun he => by cases he⟩
end

end Go.Proofs.YtpgigpajpcianaaGreatDoor

namespace Go.Proofs.YtpgigpajpcianaaGreatDoor
open Go.RowKit

structure RdOk (F : Bool) (x : SpD) (Ms : List Lines) : Prop where
  ok : RunsOk F x.d x.rs Ms
  only : Only x.d (x.rs.map (·.no))
  T : x.d.T.length = x.rs.length
  T64 : x.d.T.length ≤ 64
  n : x.d.n ≤ 257 * x.rs.length
  t : ∀ t ∈ x.d.T, t.1.length ≤ 256
  w : ∀ M ∈ Ms, weightL M ≤ 256
  fine : FineL x.run
  wr : weightL x.run ≤ 256
  some : x.rs ≠ [] → x.run ≠ []
structure SmallD (a b : Nat) (d : DSt) : Prop where
  n : d.n ≤ a
  T : d.T.length ≤ 64
  t : ∀ t ∈ d.T, t.1.length ≤ b
theorem SmallD.small {a b : Nat} {d : DSt} (h : SmallD a b d) (ha : a ≤ 1000000) (hb : b ≤ 1000000) : Small d := ⟨Nat.le_trans h.n ha, h.T, fun t ht => Nat.le_trans (h.t t ht) hb⟩
theorem SmallD.mono {a b a' b' : Nat} {d : DSt} (h : SmallD a b d) (ha : a ≤ a') (hb : b ≤ b') : SmallD a' b' d := ⟨Nat.le_trans h.n ha, h.T, fun t ht => Nat.le_trans (h.t t ht) hb⟩
section
variable {S : Script} {F : Bool}
theorem err25 {d : DSt} (h : cntE S d ≠ 0) : cntE S d = 25 ∧ S ≠ [] := ⟨by rcases cntE_cases S d with e | e; exact absurd e h; exact e, fun e => by rw [e] at h; exact h (cntE_none d)⟩
theorem writeAll_cons (no : Int) (d : DSt) (l : List UInt8) (L : Lines) : writeAll S no d (l :: L) = if writeE S d no (l ++ [10]) ≠ 0 then (writeS S d no (l ++ [10]), writeE S d no (l ++ [10])) else writeAll S no (writeS S d no (l ++ [10])) L := rfl
theorem writeAll_is (no : Int) : ∀ (L : Lines) (d : DSt) (t : List UInt8), FineL L → fileAt d.T no = some t →
    (writeAll S no d L).1.n ≤ d.n + L.length ∧ (writeAll S no d L).1.T.length = d.T.length ∧ ((writeAll S no d L).2 = 0 ∨ ((writeAll S no d L).2 = 25 ∧ S ≠ [])) ∧
    (∀ B, (∀ x ∈ d.T, x.1.length ≤ B) → t.length + weightL L ≤ B → ∀ x ∈ (writeAll S no d L).1.T, x.1.length ≤ B) ∧
    ((writeAll S no d L).2 = 0 → fileAt (writeAll S no d L).1.T no = some (t ++ joinL L) ∧ ∀ no', no' ≠ no → fileAt (writeAll S no d L).1.T no' = fileAt d.T no')
  | [], d, t, _, h => ⟨Nat.le_refl _, rfl, .inl rfl, fun B hB _ => hB, fun _ => ⟨by simpa [writeAll, joinL] using h, fun _ _ => rfl⟩⟩
  | l :: L, d, t, hf, h => by
    have hl := hf l List.mem_cons_self
    obtain ⟨a1, a2, a3⟩ := write_on (S := S) h hl.1
    obtain ⟨c1, c2, c3, c4⟩ := fileAt_set_self h (t ++ (l ++ [10]))
    rw [writeAll_cons, a1]
    by_cases h0 : cntE S d = 0
    · rw [if_neg (by simpa using h0), a3 h0]
      obtain ⟨b1, b2, b3, b4, b5⟩ := writeAll_is no L { cntS S d with T := d.T.set (no - 1).toNat (t ++ (l ++ [10]), true) } (t ++ (l ++ [10])) hf.tail c1
      refine ⟨?_, ?_, b3, fun B hB hw => b4 B (fun x hx => ?_) (by rw [weightL_cons] at hw; simp; omega), fun he => ?_⟩
      · have : ({ cntS S d with T := d.T.set (no - 1).toNat (t ++ (l ++ [10]), true) } : DSt).n = d.n + 1 := rfl
        rw [List.length_cons]
        omega
      · rw [b2]
        show (d.T.set _ _).length = _
        rw [List.length_set]
      · rcases List.mem_or_eq_of_mem_set (show x ∈ d.T.set (no - 1).toNat (t ++ (l ++ [10]), true) from hx) with hx | rfl
        · exact hB x hx
        · rw [weightL_cons] at hw
          show (t ++ (l ++ [10])).length ≤ B
          simp
          omega
      · obtain ⟨d1, d2⟩ := b5 he
        refine ⟨by rw [d1, joinSp_cons]; simp, fun no' hno => ?_⟩
        rw [d2 no' hno]
        exact fileAt_set _ c3 hno
    · rw [if_pos h0, a2 h0]
      obtain ⟨e1, e2⟩ := err25 h0
      exact ⟨by show d.n + 1 ≤ _; simp, rfl, .inr ⟨e1, e2⟩, fun B hB _ => hB, fun he => absurd he h0⟩
theorem spill_is {x : SpD} {Ms : List Lines} (h : RdOk F x Ms) (hne : x.run ≠ []) : SmallD 16700 256 (spillD S F x).1.d ∧ ((spillD S F x).2 = 0 ∨ (spillD S F x).2 = 17 ∨ ((spillD S F x).2 = 25 ∧ S ≠ [])) ∧
    ((spillD S F x).2 = 0 → (spillD S F x).1.run = [] ∧ (spillD S F x).1.rs = x.rs ++ [fresh (createN S x.d)] ∧ RunsOk F (spillD S F x).1.d (spillD S F x).1.rs (Ms ++ [sortL F x.run]) ∧ Only (spillD S F x).1.d ((spillD S F x).1.rs.map (·.no)) ∧ (spillD S F x).1.d.T.length = (spillD S F x).1.rs.length ∧ (spillD S F x).1.d.n ≤ 257 * (spillD S F x).1.rs.length ∧ (∀ M ∈ Ms ++ [sortL F x.run], weightL M ≤ 256)) := by
  have hT := h.T
  have hT64 := h.T64
  have hn := h.n
  have hwl := weightL_length x.run
  have hwr := h.wr
  unfold spillD
  rcases create_is S x.d with ⟨c1, c2, c3, c4⟩ | ⟨c1, c2, c3⟩ | ⟨c1, c2, c3⟩
  · rw [if_neg (by rw [c1]; simp)]
    have hf0 : fileAt (createS S x.d).T (createN S x.d) = some [] := by rw [c2, c3]; exact fileAt_new _ _
    have hsf : FineL (sortL F x.run) := h.fine.perm (sortL_perm F x.run).symm
    have hsw : weightL (sortL F x.run) = weightL x.run := weightL_perm (sortL_perm F x.run)
    have hsl : (sortL F x.run).length = x.run.length := sortL_length F x.run
    obtain ⟨w1, w2, w3, w4, w5⟩ := writeAll_is (S := S) (createN S x.d) (sortL F x.run) (createS S x.d) [] hsf hf0
    have hcn : (createS S x.d).n = x.d.n + 1 := by rw [c2]; rfl
    have hcT : (createS S x.d).T = x.d.T ++ [([], true)] := by rw [c2]
    have hcl : (createS S x.d).T.length = x.d.T.length + 1 := by rw [hcT]; simp
    have hB := w4 256 (fun y hy => by
      rw [hcT] at hy
      rcases List.mem_append.1 hy with hy | hy
      · exact h.t y hy
      · rw [List.mem_singleton.1 hy]; exact Nat.zero_le _) (by simp; omega)
    by_cases h0 : (writeAll S (createN S x.d) (createS S x.d) (sortL F x.run)).2 = 0
    · rw [if_neg (by simpa using h0)]
      obtain ⟨v1, v2⟩ := w5 h0
      refine ⟨⟨by show (writeAll S (createN S x.d) (createS S x.d) (sortL F x.run)).1.n ≤ _; omega, by show (writeAll S (createN S x.d) (createS S x.d) (sortL F x.run)).1.T.length ≤ _; omega, hB⟩, .inl rfl, fun _ => ⟨rfl, rfl, ?_, fun no hno => ?_, ?_, ?_, fun M hM => ?_⟩⟩
      · have hold : ∀ r ∈ x.rs, fileAt (writeAll S (createN S x.d) (createS S x.d) (sortL F x.run)).1.T r.no = fileAt x.d.T r.no ∧ r.no ≠ createN S x.d := fun r hr => by
          obtain ⟨M, -, -, hf, -⟩ := h.ok.mem hr
          obtain ⟨o1, o2⟩ := fileAt_old ([], true) hf
          have hne2 : r.no ≠ createN S x.d := by rw [c3]; exact o2
          exact ⟨by rw [v2 _ hne2, hcT, o1, hf], hne2⟩
        refine RunsOk.app (h.ok.sub fun r hr => (hold r hr).1) ⟨rfl, fun k r M k1 k2 => ?_, by simp⟩ (fun r hr r' hr' => ?_)
        · cases k with
          | zero =>
            have k1 : fresh (createN S x.d) = r := by simpa using k1
            have k2 : sortL F x.run = M := by simpa using k2
            subst k1 k2
            refine ⟨rfl, ?_, fun e => hne (List.nil_perm.1 (e ▸ (sortL_perm F x.run))), hsf, sortL_sorted F _⟩
            show fileAt (writeAll S (createN S x.d) (createS S x.d) (sortL F x.run)).1.T (createN S x.d) = _
            rw [v1]
            rfl
          | succ k => simp at k1
        · rw [List.mem_singleton.1 hr']
          exact (hold r hr).2
      · rw [List.map_append]
        by_cases e : no = createN S x.d
        · exact List.mem_append_right _ (by simp [e, fresh])
        · refine List.mem_append_left _ (h.only no fun e3 => hno ?_)
          show fileAt (writeAll S (createN S x.d) (createS S x.d) (sortL F x.run)).1.T no = none
          rw [v2 no e, hcT]
          cases hx : fileAt (x.d.T ++ [([], true)]) no with
          | none => rfl
          | some t =>
            exfalso
            rcases fileAt_cases (x.d.T ++ [([], true)]) no with ⟨k, t', ek, hk, hf2⟩ | hf2
            · by_cases hkl : k < x.d.T.length
              · rw [List.getElem?_append_left hkl] at hk
                have := fileAt_some hk
                rw [← ek, e3] at this
                cases this
              · have h5 := (List.getElem?_eq_some_iff.1 hk).1
                simp at h5
                exact e (by rw [c3]; omega)
            · rw [hf2] at hx; cases hx
      · show (writeAll S (createN S x.d) (createS S x.d) (sortL F x.run)).1.T.length = (x.rs ++ [fresh (createN S x.d)]).length
        rw [w2, hcl, List.length_append, hT]
        rfl
      · show (writeAll S (createN S x.d) (createS S x.d) (sortL F x.run)).1.n ≤ 257 * (x.rs ++ [fresh (createN S x.d)]).length
        rw [List.length_append]
        simp only [List.length_cons, List.length_nil]
        omega
      · rcases List.mem_append.1 hM with hM | hM
        · exact h.w M hM
        · rw [List.mem_singleton.1 hM, hsw]; exact h.wr
    · rw [if_pos h0]
      refine ⟨⟨by show (writeAll S (createN S x.d) (createS S x.d) (sortL F x.run)).1.n ≤ _; omega, by show (writeAll S (createN S x.d) (createS S x.d) (sortL F x.run)).1.T.length ≤ _; omega, hB⟩, ?_, fun he => absurd he h0⟩
      rcases w3 with e | e
      · exact absurd e h0
      · exact .inr (.inr e)
  · rw [if_pos (by rw [c1]; decide), c1, c2]
    exact ⟨⟨by show x.d.n ≤ _; omega, h.T64, h.t⟩, .inr (.inl rfl), fun he => by cases he⟩
  · rw [if_pos (by rw [c1]; decide), c1, c2]
    exact ⟨⟨by show x.d.n + 1 ≤ _; omega, h.T64, h.t⟩, .inr (.inr ⟨rfl, c3⟩), fun he => by cases he⟩
theorem RdOk.smallD {x : SpD} {Ms : List Lines} (h : RdOk F x Ms) : SmallD 16700 256 x.d := ⟨by have := h.n; have := h.T; have := h.T64; omega, h.T64, h.t⟩
theorem take_is {x : SpD} {Ms : List Lines} (h : RdOk F x Ms) {l : List UInt8} (hl : l.length ≤ 64) (h10 : (10 : UInt8) ∉ l) : SmallD 16700 256 (takeD S F x l).1.d ∧ ((takeD S F x l).2 = 0 ∨ (takeD S F x l).2 = 17 ∨ ((takeD S F x l).2 = 25 ∧ S ≠ [])) ∧
    ((takeD S F x l).2 = 0 → ∃ Ms', RdOk F (takeD S F x l).1 Ms' ∧ (Ms'.flatten ++ (takeD S F x l).1.run).Perm (Ms.flatten ++ x.run ++ [l])) := by
  unfold takeD
  by_cases hw : 256 < weightL x.run + l.length + 1
  · rw [if_pos hw]
    have hne : x.run ≠ [] := fun e => by rw [e, weightL_nil] at hw; omega
    obtain ⟨a1, a2, a3⟩ := spill_is (S := S) h hne
    by_cases h0 : (spillD S F x).2 = 0
    · rw [if_neg (by simpa using h0)]
      obtain ⟨b1, b2, b3, b4, b5, b6, b7⟩ := a3 h0
      refine ⟨a1, .inl rfl, fun _ => ⟨Ms ++ [sortL F x.run], ⟨b3, b4, b5, a1.T, b6, a1.t, b7, ?_, ?_, fun _ => by simp⟩, ?_⟩⟩
      · show FineL ((spillD S F x).1.run ++ [l])
        rw [b1]
        exact FineL.one hl h10
      · show weightL ((spillD S F x).1.run ++ [l]) ≤ 256
        rw [b1]
        simp [weightL]
        omega
      · show ((Ms ++ [sortL F x.run]).flatten ++ ((spillD S F x).1.run ++ [l])).Perm _
        rw [b1]
        simp only [List.flatten_append, List.flatten_cons, List.flatten_nil, List.append_nil, List.nil_append]
        exact ((sortL_perm F x.run).append_left _).append_right _
    · rw [if_pos h0]
      exact ⟨a1, a2, fun he => absurd he h0⟩
  · rw [if_neg hw]
    refine ⟨h.smallD, .inl rfl, fun _ => ⟨Ms, ⟨h.ok, h.only, h.T, h.T64, h.n, h.t, h.w, h.fine.append (FineL.one hl h10), ?_, fun _ => by simp⟩, by simp⟩⟩
    show weightL (x.run ++ [l]) ≤ 256
    rw [weightL_append]
    simp [weightL] at hw ⊢
    omega
theorem takesD_cons (x : SpD) (l : List UInt8) (L : Lines) : takesD S F x (l :: L) = if (takeD S F x l).2 ≠ 0 then takeD S F x l else takesD S F (takeD S F x l).1 L := rfl
theorem takes_is : ∀ (L : Lines) (x : SpD) (Ms : List Lines), RdOk F x Ms → FineL L → SmallD 16700 256 (takesD S F x L).1.d ∧ ((takesD S F x L).2 = 0 ∨ (takesD S F x L).2 = 17 ∨ ((takesD S F x L).2 = 25 ∧ S ≠ [])) ∧
    ((takesD S F x L).2 = 0 → ∃ Ms', RdOk F (takesD S F x L).1 Ms' ∧ (Ms'.flatten ++ (takesD S F x L).1.run).Perm (Ms.flatten ++ x.run ++ L))
  | [], x, Ms, h, _ => ⟨h.smallD, .inl rfl, fun _ => ⟨Ms, h, by simp [takesD]⟩⟩
  | l :: L, x, Ms, h, hf => by
    have hl := hf l List.mem_cons_self
    obtain ⟨a1, a2, a3⟩ := take_is (S := S) h hl.1 hl.2
    rw [takesD_cons]
    by_cases h0 : (takeD S F x l).2 = 0
    · rw [if_neg (by simpa using h0)]
      obtain ⟨Ms1, b1, b2⟩ := a3 h0
      obtain ⟨c1, c2, c3⟩ := takes_is L _ Ms1 b1 hf.tail
      refine ⟨c1, c2, fun he => ?_⟩
      obtain ⟨Ms2, d1, d2⟩ := c3 he
      refine ⟨Ms2, d1, d2.trans ?_⟩
      have := b2.append_right L
      simpa using this
    · rw [if_pos h0]
      exact ⟨a1, a2, fun he => absurd he h0⟩
theorem takesD_append : ∀ (L M : Lines) (x : SpD), takesD S F x (L ++ M) = if (takesD S F x L).2 ≠ 0 then takesD S F x L else takesD S F (takesD S F x L).1 M
  | [], M, x => by simp [takesD]
  | l :: L, M, x => by
    rw [List.cons_append, takesD_cons, takesD_cons]
    by_cases h0 : (takeD S F x l).2 = 0
    · simp only [h0, ne_eq, not_true_eq_false, if_false]
      exact takesD_append L M _
    · simp only [h0, ne_eq, not_false_eq_true, if_true]
theorem rdOk_start : RdOk F (x0 dst0) [] := ⟨⟨rfl, (fun k r M h => by have h : ([] : List Rn)[k]? = some r := h; simp at h), List.nodup_nil⟩, fun no h => by
  exfalso
  refine h ?_
  unfold fileAt
  split
  · show (match ([] : List (List UInt8 × Bool))[(no - 1).toNat]? with | some (t, true) => some t | _ => none) = none
    simp
  · rfl, rfl, by decide, Nat.zero_le _, (fun t h => by cases h), (fun M h => by cases h), FineL.nil, by decide, fun h => absurd rfl h⟩
end

end Go.Proofs.YtpgigpajpcianaaGreatDoor

namespace Go.Proofs.YtpgigpajpcianaaGreatDoor
open Go.RowKit

theorem chunks3_flat {α : Type} : ∀ (n : Nat) (l : List α), l.length ≤ n → (chunks3 l).flatten = l
  | _, [], _ => rfl
  | _, [_], _ => rfl
  | _, [_, _], _ => rfl
  | n, a :: b :: c :: r, h => by
    show ([a, b, c] :: chunks3 r).flatten = _
    rw [List.flatten_cons, chunks3_flat (n - 1) r (by simp at h; omega)]
    rfl
theorem chunks3_each {α : Type} : ∀ (n : Nat) (l : List α), l.length ≤ n → ∀ c ∈ chunks3 l, c ≠ [] ∧ c.length ≤ 3
  | _, [], _, c, h => by cases h
  | _, [_], _, c, h => by rw [List.mem_singleton.1 h]; simp
  | _, [_, _], _, c, h => by rw [List.mem_singleton.1 h]; simp
  | n, a :: b :: c :: r, h, d, hd => by
    rcases List.mem_cons.1 hd with e | e
    · rw [e]; simp
    · exact chunks3_each (n - 1) r (by simp at h; omega) d e
theorem chunks3_len {α : Type} : ∀ (n : Nat) (l : List α), l.length ≤ n → 3 * (chunks3 l).length ≤ l.length + 2 ∧ l.length ≤ 3 * (chunks3 l).length
  | _, [], _ => by simp [chunks3]
  | _, [_], _ => by simp [chunks3]
  | _, [_, _], _ => by simp [chunks3]
  | n, a :: b :: c :: r, h => by
    have := chunks3_len (n - 1) r (by simp at h; omega)
    show 3 * ([a, b, c] :: chunks3 r).length ≤ _ ∧ _ ≤ 3 * ([a, b, c] :: chunks3 r).length
    simp only [List.length_cons]
    omega
theorem chunks3_drop {α : Type} : ∀ (k : Nat) (l : List α), 3 * k < l.length → (chunks3 l).drop k = ((l.drop (3 * k)).take 3) :: chunks3 (l.drop (3 * (k + 1))) ∧ (chunks3 l).drop (k + 1) = chunks3 (l.drop (3 * (k + 1)))
  | 0, [], h => by simp at h
  | 0, [_], _ => by simp [chunks3]
  | 0, [_, _], _ => by simp [chunks3]
  | 0, a :: b :: c :: r, _ => by simp [chunks3]
  | k + 1, [], h => by simp at h
  | k + 1, [_], h => by simp at h
  | k + 1, [_, _], h => by simp at h; omega
  | k + 1, a :: b :: c :: r, h => by
    have := chunks3_drop k r (by simp at h; omega)
    have e1 : (a :: b :: c :: r).drop (3 * (k + 1)) = r.drop (3 * k) := by rw [show 3 * (k + 1) = 3 * k + 3 by omega]; rfl
    have e2 : (a :: b :: c :: r).drop (3 * (k + 1 + 1)) = r.drop (3 * (k + 1)) := by rw [show 3 * (k + 1 + 1) = 3 * (k + 1) + 3 by omega]; rfl
    rw [e1, e2]
    exact this
section
variable {S : Script} {F : Bool}
theorem lsum_append (A B : List Lines) : lsum (A ++ B) = lsum A + lsum B := by simp [lsum]
theorem wsum_append (A B : List Lines) : wsum (A ++ B) = wsum A + wsum B := by simp [wsum]
theorem lsum_perm {A B : List Lines} (h : A.flatten.Perm B.flatten) : lsum A = lsum B := by rw [lsum_flat, lsum_flat, h.length_eq]
theorem wsum_perm {A B : List Lines} (h : A.flatten.Perm B.flatten) : wsum A = wsum B := by rw [wsum_flat, wsum_flat, weightL_perm h]
structure PassedR (S : Script) (F : Bool) (d : DSt) (done : List Rn) (Md Ms : List Lines) (cs : List (List Rn)) (q : DSt × List Rn × Int) : Prop where
  n : q.1.n ≤ d.n + 7 * cs.length + 2 * lsum Ms
  T : q.1.T.length ≤ 64
  B : ∀ B, (∀ x ∈ d.T, x.1.length ≤ B) → wsum Ms ≤ B → ∀ x ∈ q.1.T, x.1.length ≤ B
  e : q.2.2 = 0 ∨ q.2.2 = 17 ∨ (q.2.2 = 25 ∧ S ≠ [])
  ok : q.2.2 = 0 → ∃ Ws, RunsOk F q.1 (done ++ q.2.1) (Md ++ Ws) ∧ q.2.1.length = cs.length ∧ Ws.length = cs.length ∧ Ws.flatten.Perm Ms.flatten ∧ Only q.1 ((done ++ q.2.1).map (·.no))
theorem passGo_cons (d : DSt) (c : List Rn) (cs : List (List Rn)) : passGo S F d (c :: cs) = if (mergeR S F d c).2.2 ≠ 0 then ((mergeR S F d c).1, [], (mergeR S F d c).2.2)
    else ((passGo S F (mergeR S F d c).1 cs).1, (mergeR S F d c).2.1.getD (fresh 0) :: (passGo S F (mergeR S F d c).1 cs).2.1, (passGo S F (mergeR S F d c).1 cs).2.2) := rfl
theorem chunk_is {d : DSt} {done : List Rn} {Md Ms : List Lines} {c : List Rn} {cs : List (List Rn)} (h : RunsOk F d (done ++ (c ++ cs.flatten)) (Md ++ Ms)) (hd : done.length = Md.length) (ho : Only d ((done ++ (c ++ cs.flatten)).map (·.no))) (hT : d.T.length ≤ 64) (hc : c ≠ []) (hf : lsum Ms ≤ fuelM) :
    MergedR S F d c (Ms.take c.length) (mergeR S F d c) ∧ ((mergeR S F d c).2.2 = 0 → ∃ r W, (mergeR S F d c).2.1 = some r ∧ W.Perm (Ms.take c.length).flatten ∧ RunsOk F (mergeR S F d c).1 ((done ++ [r]) ++ cs.flatten) ((Md ++ [W]) ++ Ms.drop c.length) ∧ Only (mergeR S F d c).1 (((done ++ [r]) ++ cs.flatten).map (·.no))) := by
  have h1 := h.right
  rw [hd, List.drop_left] at h1
  have hdone := h.left
  rw [hd, List.take_left] at hdone
  have hcR := h1.left
  have hrest := h1.right
  have hlt : lsum (Ms.take c.length) ≤ fuelM := by
    have e := lsum_append (Ms.take c.length) (Ms.drop c.length)
    rw [List.take_append_drop] at e
    omega
  have hm := mergeR_is (S := S) hcR hT hc hlt
  refine ⟨hm, fun h0 => ?_⟩
  obtain ⟨r, W, m1, m2, m3, m4, m5⟩ := hm.ok h0
  have a1 := h.apart
  have a2 := h1.apart
  have hthere : ∀ {rs : List Rn} {M : List Lines}, RunsOk F d rs M → ∀ r' ∈ rs, fileAt d.T r'.no ≠ none := fun hx r' hr' e => by
    obtain ⟨M, -, -, hf2, -⟩ := hx.mem hr'
    rw [hf2] at e; cases e
  have hdn : ∀ r' ∈ done, r'.no ∉ c.map (·.no) := fun r' hr' e => by
    obtain ⟨r2, hr2, e2⟩ := List.mem_map.1 e
    exact a1 r' hr' r2 (List.mem_append_left _ hr2) e2.symm
  have hrn : ∀ r' ∈ cs.flatten, r'.no ∉ c.map (·.no) := fun r' hr' e => by
    obtain ⟨r2, hr2, e2⟩ := List.mem_map.1 e
    exact a2 r2 hr2 r' hr' e2
  have k1 := hdone.sub (d' := (mergeR S F d c).1) (fun r' hr' => (m4 r'.no (hdn r' hr') (hthere hdone r' hr')).1)
  have k2 := hrest.sub (d' := (mergeR S F d c).1) (fun r' hr' => (m4 r'.no (hrn r' hr') (hthere hrest r' hr')).1)
  refine ⟨r, W, m1, by simpa using m3, (k1.app m2 (fun r' hr' r2 hr2 => by rw [List.mem_singleton.1 hr2]; exact (m4 r'.no (hdn r' hr') (hthere hdone r' hr')).2)).app k2 (fun r' hr' r2 hr2 => ?_), fun no hno => ?_⟩
  · rcases List.mem_append.1 hr' with hr' | hr'
    · exact a1 r' hr' r2 (List.mem_append_right _ hr2)
    · rw [List.mem_singleton.1 hr']
      exact fun e => (m4 r2.no (hrn r2 hr2) (hthere hrest r2 hr2)).2 e.symm
  · rcases m5 no hno with e | ⟨e, e2⟩
    · simp [e]
    · have := ho no e2
      simp only [List.map_append, List.mem_append] at this ⊢
      rcases this with e3 | e3 | e3
      · exact .inl (.inl e3)
      · exact absurd e3 e
      · exact .inr e3
theorem passGo_is : ∀ (cs : List (List Rn)) (d : DSt) (done : List Rn) (Md Ms : List Lines), RunsOk F d (done ++ cs.flatten) (Md ++ Ms) → done.length = Md.length → Only d ((done ++ cs.flatten).map (·.no)) → d.T.length ≤ 64 → (∀ c ∈ cs, c ≠ [] ∧ c.length ≤ 3) → lsum Ms ≤ fuelM →
    PassedR S F d done Md Ms cs (passGo S F d cs)
  | [], d, done, Md, Ms, h, hd, ho, hT, _, _ => by
    have hl := h.len
    simp at hl
    have : Ms = [] := List.eq_nil_of_length_eq_zero (by omega)
    subst this
    refine ⟨by show d.n ≤ _; omega, hT, fun B hB _ => hB, .inl rfl, fun _ => ⟨[], ?_, rfl, rfl, .refl _, ?_⟩⟩
    · simpa [passGo] using h
    · simpa [passGo] using ho
  | c :: cs, d, done, Md, Ms, h, hd, ho, hT, hc, hf => by
    rw [List.flatten_cons] at h ho
    obtain ⟨c1, c2⟩ := hc c List.mem_cons_self
    obtain ⟨hm, hok⟩ := chunk_is (S := S) h hd ho hT c1 hf
    have e := lsum_append (Ms.take c.length) (Ms.drop c.length)
    have e2 := wsum_append (Ms.take c.length) (Ms.drop c.length)
    rw [List.take_append_drop] at e e2
    have hn1 := hm.n
    rw [passGo_cons]
    by_cases h0 : (mergeR S F d c).2.2 = 0
    · rw [if_neg (by simpa using h0)]
      obtain ⟨r, W, m1, m2, m3, m4⟩ := hok h0
      have hi := passGo_is cs (mergeR S F d c).1 (done ++ [r]) (Md ++ [W]) (Ms.drop c.length) m3 (by simp [hd]) m4 hm.T (fun c hc' => hc c (List.mem_cons_of_mem _ hc')) (by omega)
      refine ⟨?_, hi.T, fun B hB hw => hi.B B (hm.B B hB (by omega)) (by omega), hi.e, fun he => ?_⟩
      · have := hi.n
        show (passGo S F (mergeR S F d c).1 cs).1.n ≤ _
        rw [List.length_cons]
        omega
      · obtain ⟨Ws, n1, n2, n3, n4, n5⟩ := hi.ok he
        rw [m1]
        refine ⟨W :: Ws, ?_, by simpa using n2, by simpa using n3, ?_, ?_⟩
        · simpa using n1
        · rw [List.flatten_cons]
          have : Ms.flatten = (Ms.take c.length).flatten ++ (Ms.drop c.length).flatten := by rw [← List.flatten_append, List.take_append_drop]
          rw [this]
          exact m2.append n4
        · simpa using n5
    · rw [if_pos h0]
      refine ⟨?_, hm.T, fun B hB hw => hm.B B hB (by omega), hm.e, fun he => absurd he h0⟩
      show (mergeR S F d c).1.n ≤ _
      rw [List.length_cons]
      omega
structure PassesR (S : Script) (F : Bool) (d : DSt) (rs : List Rn) (Ms : List Lines) (f : Nat) (q : DSt × List Rn × Int) : Prop where
  n : q.1.n ≤ d.n + f * (567 + 2 * lsum Ms)
  T : q.1.T.length ≤ 64
  B : ∀ B, (∀ x ∈ d.T, x.1.length ≤ B) → wsum Ms ≤ B → ∀ x ∈ q.1.T, x.1.length ≤ B
  e : q.2.2 = 0 ∨ q.2.2 = 17 ∨ (q.2.2 = 25 ∧ S ≠ [])
  ok : q.2.2 = 0 → ∃ Ws, RunsOk F q.1 q.2.1 Ws ∧ q.2.1.length ≤ 3 ∧ Ws.flatten.Perm Ms.flatten ∧ Only q.1 (q.2.1.map (·.no)) ∧ (rs ≠ [] → q.2.1 ≠ [])
theorem passesGo_succ (f : Nat) (d : DSt) (rs : List Rn) : passesGo S F (f + 1) d rs = if rs.length ≤ 3 then (d, rs, 0)
    else if (passGo S F d (chunks3 rs)).2.2 ≠ 0 then passGo S F d (chunks3 rs)
    else passesGo S F f (passGo S F d (chunks3 rs)).1 (passGo S F d (chunks3 rs)).2.1 := rfl
theorem pass_is {d : DSt} {rs : List Rn} {Ms : List Lines} (h : RunsOk F d rs Ms) (ho : Only d (rs.map (·.no))) (hT : d.T.length ≤ 64) (hf : lsum Ms ≤ fuelM) : PassedR S F d [] [] Ms (chunks3 rs) (passGo S F d (chunks3 rs)) :=
  passGo_is (chunks3 rs) d [] [] Ms (by rw [chunks3_flat rs.length rs (Nat.le_refl _)]; exact h) rfl (by rw [chunks3_flat rs.length rs (Nat.le_refl _)]; exact ho) hT (chunks3_each rs.length rs (Nat.le_refl _)) hf
theorem passesGo_is : ∀ (f : Nat) (d : DSt) (rs : List Rn) (Ms : List Lines), RunsOk F d rs Ms → Only d (rs.map (·.no)) → d.T.length ≤ 64 → lsum Ms ≤ fuelM → rs.length ≤ 3 ^ (f + 1) → rs.length ≤ 81 → PassesR S F d rs Ms f (passesGo S F f d rs)
  | 0, d, rs, Ms, h, ho, hT, _, hl, _ => ⟨by show d.n ≤ _; omega, hT, fun B hB _ => hB, .inl rfl, fun _ => ⟨Ms, h, by show rs.length ≤ 3; simpa using hl, .refl _, ho, id⟩⟩
  | f + 1, d, rs, Ms, h, ho, hT, hf, hl, h81 => by
    rw [passesGo_succ]
    by_cases h3 : rs.length ≤ 3
    · rw [if_pos h3]
      exact ⟨by show d.n ≤ _; omega, hT, fun B hB _ => hB, .inl rfl, fun _ => ⟨Ms, h, h3, .refl _, ho, id⟩⟩
    · rw [if_neg h3]
      have hp := pass_is (S := S) h ho hT hf
      have hcl := chunks3_len rs.length rs (Nat.le_refl _)
      have hn := hp.n
      have hmul : (f + 1) * (567 + 2 * lsum Ms) = f * (567 + 2 * lsum Ms) + (567 + 2 * lsum Ms) := Nat.succ_mul _ _
      by_cases h0 : (passGo S F d (chunks3 rs)).2.2 = 0
      · rw [if_neg (by simpa using h0)]
        obtain ⟨Ws, n1, n2, n3, n4, n5⟩ := hp.ok h0
        simp only [List.nil_append] at n1 n5
        have hpow : 3 ^ (f + 1 + 1) = 3 * 3 ^ (f + 1) := by rw [Nat.pow_succ]; omega
        have hi := passesGo_is f _ _ Ws n1 n5 hp.T (by rw [lsum_perm n4]; exact hf) (by omega) (by omega)
        have hin := hi.n
        rw [lsum_perm n4] at hin
        refine ⟨by omega, hi.T, fun B hB hw => hi.B B (hp.B B hB hw) (by rw [wsum_perm n4]; exact hw), hi.e, fun he => ?_⟩
        obtain ⟨Vs, p1, p2, p3, p4, p5⟩ := hi.ok he
        refine ⟨Vs, p1, p2, p3.trans n4, p4, fun _ => p5 (fun e => ?_)⟩
        rw [e] at n2
        simp at n2
        omega
      · rw [if_pos h0]
        exact ⟨by omega, hp.T, hp.B, hp.e, fun he => absurd he h0⟩
end

end Go.Proofs.YtpgigpajpcianaaGreatDoor
