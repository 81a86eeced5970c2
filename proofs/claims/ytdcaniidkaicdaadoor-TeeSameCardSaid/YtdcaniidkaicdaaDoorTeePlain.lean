/- Plainly: tee. -/
import Derived.Test.YtdcaniidkaicdaaDoorBytem
import Derived.Test.YtdcaniidkaicdaaDoorTellBytes
import Derived.Test.YtdcaniidkaicdaaDoorRB
namespace Go.Proofs.YtdcaniidkaicdaaDoor

/-- All to each output. -/
def teeO (N : Nat) (x : List UInt8) : Outs := (List.range N).flatMap fun k => bytesO k x
theorem teeO_succ (k : Nat) (x : List UInt8) : teeO (k + 1) x = teeO k x ++ bytesO k x := by
  unfold teeO
  rw [List.range_succ, List.flatMap_append, List.flatMap_singleton]
theorem putOuts_tee (N : Nat) (x : List UInt8) (f : Nat → List UInt8) : putOuts f (teeO N x) = fun j => if j < N then f j ++ x else f j := by
  induction N with
  | zero => funext j; simp [teeO, putOuts]
  | succ k ih =>
    rw [teeO_succ, putOuts_append, ih]
    show putOuts _ (if x = [] then [] else [(k, x)]) = _
    rw [putOuts_single]
    funext j
    by_cases h1 : j = k
    · subst h1; simp
    · by_cases h2 : j < k
      · rw [if_neg h1, if_pos h2, if_pos (by omega)]
      · rw [if_neg h1, if_neg h2, if_neg (by omega)]
theorem putOuts_teeEach (N : Nat) (x : List UInt8) : ∀ f, putOuts f (x.flatMap fun b => teeO N [b]) = fun j => if j < N then f j ++ x else f j := by
  induction x with
  | nil => intro f; funext j; simp [putOuts]
  | cons b x ih =>
    intro f
    rw [List.flatMap_cons, putOuts_append, ih, putOuts_tee]
    funext j
    by_cases h : j < N <;> simp [h]
theorem teeO_mem {N : Nat} {x : List UInt8} {t : Nat × List UInt8} (h : t ∈ teeO N x) : t.1 < N ∧ t.2 = x ∧ x ≠ [] := by
  obtain ⟨k, hk, ht⟩ := List.mem_flatMap.1 h
  have hk := List.mem_range.1 hk
  unfold bytesO at ht
  split at ht
  · cases ht
  · rename_i hx
    rw [List.mem_singleton.1 ht]
    exact ⟨hk, rfl, hx⟩
theorem teeO_le (N : Nat) (x : List UInt8) : (teeO N x).length ≤ N ∧ outSum (teeO N x) ≤ N * x.length := by
  induction N with
  | zero => simp [teeO, outSum]
  | succ k ih =>
    obtain ⟨h1, h2⟩ := ih
    rw [teeO_succ]
    unfold bytesO
    split
    · rw [List.append_nil]
      exact ⟨by omega, Nat.le_trans h2 (Nat.mul_le_mul_right _ (by omega))⟩
    · rw [outSum_snoc, List.length_append, List.length_singleton, Nat.add_mul, Nat.one_mul]
      exact ⟨by omega, by simp only; omega⟩
theorem teeO_ok {N : Nat} {x : List UInt8} (h4 : N ≤ 4) (hx : x.length ≤ 32) : OutsOk (teeO N x) ∧ (teeO N x).length ≤ 1000000 := by
  obtain ⟨h1, h2⟩ := teeO_le N x
  have h3 : N * x.length ≤ 4 * 32 := Nat.mul_le_mul h4 hx
  exact ⟨⟨fun t ht => by have := (teeO_mem ht).1; omega, fun t ht => by obtain ⟨-, e, h⟩ := teeO_mem ht; rw [e]; exact h, by omega⟩, by omega⟩

def teeMach (N : Nat) : Mach Bool where
  need s := if s then 0 else -1
  held _ := 0
  feed s x := (s, teeO N x, 0)
  fin _ := (false, [], 0)
  more s := (s, [], 0)
/-- The same, byte by byte. -/
def teeEach (N : Nat) : Mach Bool where
  need s := if s then 0 else -1
  held _ := 0
  feed s x := (s, x.flatMap fun b => teeO N [b], 0)
  fin _ := (false, [], 0)
  more s := (s, [], 0)
theorem tee_alike (N : Nat) : Alike (teeMach N) (teeEach N) where
  need _ := rfl
  held _ := rfl
  feed _ x := ⟨rfl, rfl, fun f => (putOuts_tee N x f).trans (putOuts_teeEach N x f).symm⟩
  fin _ := ⟨rfl, rfl, fun _ => rfl⟩
  more _ := ⟨rfl, rfl, fun _ => rfl⟩
theorem tee_one (N : Nat) : One (teeEach N) where
  nil s _ := rfl
  app s x y h := by
    have h1 : (teeEach N).need ((teeEach N).feed s x).1 = 0 ∧ ((teeEach N).feed s x).2.2 = 0 := ⟨h, rfl⟩
    rw [if_pos h1]
    show (s, (x ++ y).flatMap (fun b => teeO N [b]), (0 : Int)) = (s, x.flatMap (fun b => teeO N [b]) ++ y.flatMap (fun b => teeO N [b]), 0)
    rw [List.flatMap_append]
  fed s x h := .inl h

/-- It has at most four outputs. -/
def teeFin (N : Nat) (_ _ : List UInt8) (i : Strm) : Fin := ⟨fun j => if j < min N 4 then i.bytes else [], if i.ended then -1 else 0, 0⟩
theorem tee_final (N : Nat) (x : List UInt8) (e : Bool) : finalM (teeEach N) 0 true x e = (!e, x.flatMap (fun b => teeO N [b]), 0) := by
  unfold finalM
  cases e with
  | true =>
    rw [if_pos ⟨rfl, rfl, rfl⟩]
    show moreAll (teeEach N) 0 (false, x.flatMap (fun b => teeO N [b]) ++ [], (0 : Int)) = _
    rw [List.append_nil]
    rfl
  | false => rw [if_neg (fun h => by cases h.2.2)]; rfl
theorem tee_driven_to (N : Nat) (A B : List UInt8) (i : Strm) (cuts : List Int) (hl : i.bytes.length ≤ 4000) :
    (drive (teeMach (min N 4)) [i] cuts 100000 0 (start (teeMach (min N 4)) true)).got.outs = (teeFin N A B i).outs ∧ (drive (teeMach (min N 4)) [i] cuts 100000 0 (start (teeMach (min N 4)) true)).got.need = (teeFin N A B i).need ∧
    (drive (teeMach (min N 4)) [i] cuts 100000 0 (start (teeMach (min N 4)) true)).got.err = (teeFin N A B i).err := by
  obtain ⟨M, hM⟩ : ∃ M, M = min N 4 := ⟨_, rfl⟩
  unfold teeFin
  rw [← hM]
  rw [alike_drive (tee_alike M), alike_start (tee_alike M)]
  obtain ⟨h1, h2, h3⟩ := drive_one (teeEach M) (tee_one M) i cuts 0 100000 0 (start (teeEach M) true) rfl rfl rfl (Nat.zero_le _) rfl (by show i.bytes.length - 0 + 2 + 0 ≤ 100000; omega) (fun _ => by
    show Done (teeEach M) (finalM (teeEach M) 0 true (i.bytes.drop 0) true)
    rw [tee_final]
    exact .inl rfl)
  have hf : finalM (teeEach M) 0 (start (teeEach M) true).s (i.bytes.drop ((start (teeEach M) true).got.taken 0)) i.ended = (!i.ended, i.bytes.flatMap (fun b => teeO M [b]), 0) := tee_final M i.bytes i.ended
  rw [hf] at h1 h2 h3
  refine ⟨?_, ?_, h2⟩
  · rw [h1]
    simp only
    rw [putOuts_teeEach]
    funext j
    simp [start]
  · rw [h3]
    show (if (!i.ended) = true then (0 : Int) else -1) = if i.ended then -1 else 0
    cases i.ended <;> rfl
theorem tee_kept (N : Nat) (ins : List Strm) (cuts : List Int) : (drive (teeMach N) ins cuts 100000 0 (start (teeMach N) true)).got.held ≤ 0 :=
  (drive_inv (teeMach N) (fun _ => True) 0 (fun _ _ => Int.le_refl 0) (fun _ _ _ => trivial) (fun _ _ => trivial) (fun _ _ => trivial) ins cuts 100000 0 (start (teeMach N) true) trivial (Int.le_refl 0)).2

end Go.Proofs.YtdcaniidkaicdaaDoor
