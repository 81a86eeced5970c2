/- Plainly: count. -/
import Derived.Test.YtlflhjgfegflfaaDoorDone
import Derived.Test.YtlflhjgfegflfaaDoorRB
import Derived.Test.YtlflhjgfegflfaaDoorItoag
import Derived.Lib.Bytealg
namespace Go.Proofs.YtlflhjgfegflfaaDoor
open Go.RowKit

/-- Does it still read; how many ends of lines have come, and how many bytes: its counters go round, these don't. -/
structure CS where
  live : Bool
  lines : Nat
  all : Nat
def ends (x : List UInt8) : Nat := Lib.countByte x 10
theorem ends_append (x y : List UInt8) : ends (x ++ y) = ends x + ends y := List.count_append
theorem ends_le (x : List UInt8) : ends x ≤ x.length := List.count_le_length
theorem ends_snoc {x : List UInt8} {k : Nat} {c : UInt8} (h : x[k]? = some c) : ends (x.take (k + 1)) = ends (x.take k) + if c = 10 then 1 else 0 := by
  obtain ⟨hk, rfl⟩ := List.getElem?_eq_some_iff.1 h
  rw [List.take_succ_eq_append_getElem hk, ends_append]
  congr 1
  by_cases h : x[k] = 10
  · rw [if_pos h, h]; rfl
  · rw [if_neg h]
    simp [ends, Lib.countByte, h]
theorem count_wrap (a : Int) (n : Nat) : wrap64 (wrap64 a + n) = wrap64 (a + n) := by
  unfold wrap64
  omega
theorem wrap64_small {n : Nat} (h : n ≤ 1000000) : wrap64 (n : Int) = n := by
  unfold wrap64
  omega
theorem wrap64_range (n : Int) : -9223372036854775808 ≤ wrap64 n ∧ wrap64 n ≤ 9223372036854775807 := by
  unfold wrap64
  omega
/-! What is told hangs on the library's table of the powers of ten, which no row lists: it is whatever it is. -/
variable [Inhabited TabBox]
def tabNow : List Int := (default : TabBox).tab
abbrev TabNow (w : World) : Prop := TabAt tabNow w
def countT (k m : Int) : List UInt8 := itoaG tabNow k ++ 32 :: itoaG tabNow m
def countO (s : CS) : Outs := [(0, countT (wrap64 s.lines) (wrap64 s.all) ++ [10])]
def countMach : Mach CS where
  need s := if s.live then 0 else -1
  held _ := 0
  feed s x := (⟨s.live, s.lines + ends x, s.all + x.length⟩, [], 0)
  fin s := (⟨false, s.lines, s.all⟩, countO s, 0)
  more s := (s, [], 0)
def countS : CS := ⟨true, 0, 0⟩
theorem count_one : One countMach where
  nil s _ := rfl
  app s x y h := by
    have h1 : countMach.need (countMach.feed s x).1 = 0 ∧ (countMach.feed s x).2.2 = 0 := ⟨h, rfl⟩
    rw [if_pos h1]
    show ((⟨s.live, s.lines + ends (x ++ y), s.all + (x ++ y).length⟩ : CS), ([] : Outs), (0 : Int)) = (⟨s.live, s.lines + ends x + ends y, s.all + x.length + y.length⟩, [], 0)
    rw [ends_append, List.length_append, Nat.add_assoc, Nat.add_assoc]
  fed s x h := .inl h

theorem countT_len (k m : Int) (h0 : -9223372036854775808 ≤ k ∧ k ≤ 9223372036854775807) (h1 : -9223372036854775808 ≤ m ∧ m ≤ 9223372036854775807) : (countT k m).length ≤ 43 := by
  have a := itoaG_len tabNow k h0.1 h0.2
  have b := itoaG_len tabNow m h1.1 h1.2
  simp only [countT, List.length_append, List.length_cons]
  omega
theorem countO_ok (s : CS) : OutsOk (countO s) := by
  have := countT_len (wrap64 s.lines) (wrap64 s.all) (wrap64_range _) (wrap64_range _)
  exact ⟨fun t ht => by rw [List.mem_singleton.1 ht]; exact Nat.zero_le _, fun t ht => by rw [List.mem_singleton.1 ht]; simp, by simp only [countO, outSum, List.map_cons, List.map_nil, List.sum_cons, List.sum_nil, List.length_append, List.length_cons, List.length_nil]; omega⟩

/-- The line that tells of these bytes. -/
def countL (x : List UInt8) : List UInt8 := countT (ends x) x.length ++ [10]
def countFin (_ : Nat) (_ _ : List UInt8) (i : Strm) : Fin := ⟨fun j => if j = 0 ∧ i.ended = true then countL i.bytes else [], if i.ended then -1 else 0, 0⟩
theorem countO_small {x : List UInt8} (h : x.length ≤ 4000) (b : Bool) : countO ⟨b, ends x, x.length⟩ = [(0, countL x)] := by
  have := ends_le x
  simp only [countO, countL]
  rw [wrap64_small (by omega), wrap64_small (by omega)]
theorem count_final (x : List UInt8) (e : Bool) (h : x.length ≤ 4000) : finalM countMach 0 countS x e = (⟨!e, ends x, x.length⟩, if e then [(0, countL x)] else [], 0) := by
  have hf : countMach.feed countS x = (⟨true, ends x, x.length⟩, [], 0) := by
    show ((⟨true, 0 + ends x, 0 + x.length⟩ : CS), ([] : Outs), (0 : Int)) = _
    rw [Nat.zero_add, Nat.zero_add]
  unfold finalM
  rw [hf]
  cases e with
  | true =>
    rw [if_pos ⟨rfl, rfl, rfl⟩]
    show ((⟨false, ends x, x.length⟩ : CS), [] ++ countO ⟨true, ends x, x.length⟩, (0 : Int)) = _
    rw [countO_small h]
    rfl
  | false => rw [if_neg (fun h => by cases h.2.2)]; rfl
theorem count_driven_to (i : Strm) (cuts : List Int) (hl : i.bytes.length ≤ 4000) :
    (drive countMach [i] cuts 100000 0 (start countMach countS)).got.outs = (countFin 0 [] [] i).outs ∧ (drive countMach [i] cuts 100000 0 (start countMach countS)).got.need = (countFin 0 [] [] i).need ∧
    (drive countMach [i] cuts 100000 0 (start countMach countS)).got.err = (countFin 0 [] [] i).err := by
  obtain ⟨h1, h2, h3⟩ := drive_one countMach count_one i cuts 0 100000 0 (start countMach countS) rfl rfl rfl (Nat.zero_le _) rfl (by show i.bytes.length - 0 + 2 + 0 ≤ 100000; omega) (fun _ => by
    show Done countMach (finalM countMach 0 countS (i.bytes.drop 0) true)
    rw [List.drop_zero, count_final _ _ hl]
    exact .inl rfl)
  have hf : finalM countMach 0 (start countMach countS).s (i.bytes.drop ((start countMach countS).got.taken 0)) i.ended = (⟨!i.ended, ends i.bytes, i.bytes.length⟩, if i.ended then [(0, countL i.bytes)] else [], 0) := count_final i.bytes i.ended hl
  rw [hf] at h1 h2 h3
  refine ⟨?_, ?_, h2⟩
  · rw [h1]
    funext j
    cases he : i.ended
    · simp [start, countFin, he, putOuts]
    · by_cases hj : j = 0 <;> simp [start, countFin, he, putOuts, hj]
  · rw [h3]
    show (if (!i.ended) = true then (0 : Int) else -1) = if i.ended then -1 else 0
    cases i.ended <;> rfl
theorem count_kept (ins : List Strm) (cuts : List Int) : (drive countMach ins cuts 100000 0 (start countMach countS)).got.held ≤ 0 :=
  (drive_inv countMach (fun _ => True) 0 (fun _ _ => Int.le_refl 0) (fun _ _ _ => trivial) (fun _ _ => trivial) (fun _ _ => trivial) ins cuts 100000 0 (start countMach countS) trivial (Int.le_refl 0)).2

end Go.Proofs.YtlflhjgfegflfaaDoor
