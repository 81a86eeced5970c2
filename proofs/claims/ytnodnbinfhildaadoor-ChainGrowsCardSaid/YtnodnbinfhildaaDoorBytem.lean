/- Plainly: a machine that hands on what comes, bytes as bytes: of what it answers all that counts is what comes out of each port. -/
import Derived.Test.YtnodnbinfhildaaDoorDone
namespace Go.Proofs.YtnodnbinfhildaaDoor

/-- Two ways to say the same answers. -/
structure Alike {S : Type} (M M' : Mach S) : Prop where
  need : ∀ s, M.need s = M'.need s
  held : ∀ s, M.held s = M'.held s
  feed : ∀ s x, (M.feed s x).1 = (M'.feed s x).1 ∧ (M.feed s x).2.2 = (M'.feed s x).2.2 ∧ ∀ f, putOuts f (M.feed s x).2.1 = putOuts f (M'.feed s x).2.1
  fin : ∀ s, (M.fin s).1 = (M'.fin s).1 ∧ (M.fin s).2.2 = (M'.fin s).2.2 ∧ ∀ f, putOuts f (M.fin s).2.1 = putOuts f (M'.fin s).2.1
  more : ∀ s, (M.more s).1 = (M'.more s).1 ∧ (M.more s).2.2 = (M'.more s).2.2 ∧ ∀ f, putOuts f (M.more s).2.1 = putOuts f (M'.more s).2.1
section
variable {S : Type} {M M' : Mach S} (hA : Alike M M')
include hA
theorem alike_after (x : DS S) {r r' : S × Outs × Int} (h : r.1 = r'.1 ∧ r.2.2 = r'.2.2 ∧ ∀ f, putOuts f r.2.1 = putOuts f r'.2.1) : after M x r = after M' x r' := by
  obtain ⟨h1, h2, h3⟩ := h
  unfold after
  rw [h1, h2, h3, hA.need, hA.held]
theorem alike_step (ins : List Strm) (cuts : List Int) (n : Nat) (x : DS S) : step M ins cuts n x = step M' ins cuts n x := by
  unfold step
  rw [alike_after hA x (hA.more x.s)]
  split
  · rfl
  · cases ins[x.got.need.toNat]? with
    | none => rfl
    | some i =>
      simp only
      rw [alike_after hA _ (hA.feed _ _), alike_after hA _ (hA.fin _)]
theorem alike_drive (ins : List Strm) (cuts : List Int) : ∀ (f n : Nat) (x : DS S), drive M ins cuts f n x = drive M' ins cuts f n x
  | 0, n, x => rfl
  | f + 1, n, x => by
    rw [drive, drive, alike_step hA]
    split
    · cases step M' ins cuts n x with
      | none => rfl
      | some y => exact alike_drive ins cuts f (n + 1) y
    · rfl
theorem alike_start (s : S) : start M s = start M' s := by
  unfold start
  rw [hA.need]
end

theorem putOuts_other (f : Nat → List UInt8) (o : Outs) (j : Nat) (h : ∀ t ∈ o, t.1 ≠ j) : putOuts f o j = f j := by
  induction o generalizing f with
  | nil => rfl
  | cons t o ih =>
    have hne : ¬ j = t.1 := fun e => h t (List.mem_cons_self ..) e.symm
    show putOuts (fun i => if i = t.1 then f i ++ t.2 else f i) o j = _
    rw [ih _ (fun t ht => h t (List.mem_cons_of_mem _ ht)), if_neg hne]
/-- Bytes, one by one. -/
theorem putOuts_each (k : Nat) (x : List UInt8) : ∀ f, putOuts f (x.map fun b => (k, [b])) = fun j => if j = k then f j ++ x else f j := by
  induction x with
  | nil => intro f; funext j; simp [putOuts]
  | cons b x ih =>
    intro f
    show putOuts (fun i => if i = k then f i ++ [b] else f i) (x.map fun b => (k, [b])) = _
    rw [ih]
    funext j
    by_cases h : j = k <;> simp [h]
theorem putOuts_single (k : Nat) (x : List UInt8) : ∀ f, putOuts f (if x = [] then [] else [(k, x)]) = fun j => if j = k then f j ++ x else f j := by
  intro f
  funext j
  by_cases h : x = []
  · subst h
    by_cases hj : j = k <;> simp [putOuts, hj]
  · by_cases hj : j = k <;> simp [putOuts, h, hj]

end Go.Proofs.YtnodnbinfhildaaDoor
