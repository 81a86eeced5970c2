/- What the small functions do: within, one, ports, holdsTooMuch, Equal, long. -/
import Derived.Test.YthedfcdcocimbaaDoorPmodel
namespace Go.Proofs.YthedfcdcocimbaaDoor.Pm
open Go.RowKit

set_option maxRecDepth 100000 in
set_option maxHeartbeats 400000 in
theorem within_any (n l m : Int) (w : World) : Calls Tryd.prog 57 #[.int .i64 n, .int .i64 l, .int .i64 m] w (Says w (.bool (decide (l ≤ n) && decide (n ≤ m)))) := by
  by_cases h1 : l ≤ n
  · by_cases h2 : n ≤ m
    · rw [decide_eq_true h1, decide_eq_true h2]
      go_enter Tryd.func57, Tryd.ntmps57
      go_wp2
      go_ret
      exact ⟨rfl, rfl⟩
    · rw [decide_eq_true h1, decide_eq_false h2]
      go_enter Tryd.func57, Tryd.ntmps57
      go_wp2
      go_ret
      exact ⟨rfl, rfl⟩
  · rw [decide_eq_false h1]
    go_enter Tryd.func57, Tryd.ntmps57
    go_wp2
    go_ret
    exact ⟨rfl, rfl⟩

/-- One byte, not 10. -/
def oneB (A : List UInt8) : Bool := decide (A.length = 1 ∧ A.head? ≠ some 10)

set_option maxRecDepth 100000 in
set_option maxHeartbeats 400000 in
theorem one_any (v : Value) (A : List UInt8) (w : World) (hA : IsBytes w v A) : Calls Tryd.prog 60 #[v] w (Says w (.bool (oneB A))) := by
  obtain ⟨a, cap, rfl, hle, hc⟩ := hA
  by_cases h1 : A.length = 1
  · obtain ⟨c, rfl⟩ : ∃ c, A = [c] := List.length_eq_one_iff.1 h1
    obtain ⟨gb, off, rfl, hx⟩ := hc 0 c rfl
    clear hc
    rw [Nat.add_zero] at hx
    simp only [List.length_cons, List.length_nil, Nat.zero_add]
    by_cases h2 : c = 10
    · subst h2
      rw [show oneB [10] = false by decide]
      simp only [show ((10 : UInt8).toNat : Int) = 10 from rfl] at hx
      go_enter Tryd.func60, Tryd.ntmps60
      go_wp2
      go_ret
      exact ⟨rfl, rfl⟩
    · have h3 : oneB [c] = true := by simp [oneB, h2]
      rw [h3]
      have h4 : ((c.toNat : Int) != 10) = true := by
        simp only [bne_iff_ne, ne_eq]
        intro h
        exact h2 (UInt8.toNat_inj.1 (by simpa using (show c.toNat = 10 by omega)))
      go_enter Tryd.func60, Tryd.ntmps60
      go_wp2
      go_ret
      exact ⟨rfl, rfl⟩
  · have h3 : oneB A = false := by simp [oneB, h1]
    rw [h3]
    have h4 : ((A.length : Int) == 1) = false := by simp; omega
    clear hc
    go_enter Tryd.func60, Tryd.ntmps60
    go_wp2
    go_ret
    exact ⟨rfl, rfl⟩

set_option maxRecDepth 100000 in
set_option maxHeartbeats 400000 in
theorem holdsTooMuch_any (r : Kind) (n : Int) (w : World) (hh : 0 ≤ r.holds ∧ r.holds ≤ 2048) (he : 0 ≤ r.each ∧ r.each ≤ 2048) :
    Calls Tryd.prog 66 #[.agg #[.int .i64 r.least, .int .i64 r.most, .int .i64 r.rule, .int .i64 r.ins, .int .i64 r.outs, .int .i64 r.holds, .int .i64 r.each], .int .i64 n] w (Gives w (.bool (tooMuch r n))) := by
  obtain ⟨l, m, ru, i, o, h, e⟩ := r
  simp only at hh he
  simp only [tooMuch]
  by_cases h1 : 0 < e
  · rw [decide_eq_true h1]
    have h0 : (e == 0) = false := by simp; omega
    have q1 := Int.tdiv_nonneg (a := 2048 - h) (b := e) (by omega) (by omega)
    have q2 : (2048 - h).tdiv e ≤ 2048 - h := by
      rw [Int.tdiv_eq_ediv_of_nonneg (by omega)]
      exact Int.ediv_le_self _ (by omega)
    go_enter Tryd.func66, Tryd.ntmps66
    go_wp2
    go_ret
    exact ⟨by rw [Bool.true_and]; rfl, (Below.refl _ _).alloc (Nat.le_refl _) _⟩
  · rw [decide_eq_false h1]
    go_enter Tryd.func66, Tryd.ntmps66
    go_wp2
    go_ret
    exact ⟨rfl, (Below.refl _ _).alloc (Nat.le_refl _) _⟩

/-- Bytes as a text. -/
def strV (b : List UInt8) : Value := .string ⟨b.toArray⟩
/-- A slice of bytes, made a text, an empty one too. -/
theorem conv_any {W : World} {v : Value} {bs : List UInt8} (h : IsBytes W v bs) : (convert 22 9 v).run Tryd.prog W = .ok (strV bs) W := by
  obtain ⟨a, cap, rfl, -, hc⟩ := h
  cases a with
  | none =>
    have hb : bs = [] := by
      cases bs with
      | nil => rfl
      | cons x r =>
        obtain ⟨_, _, e, _⟩ := hc 0 x rfl
        cases e
    subst hb
    exact run_convert_bytes_nil (P := Tryd.prog) (w := W) 22 5 Tryd.underlying22 Tryd.underlying5 0 cap 9 Tryd.underlying9
  | some ad =>
    exact run_convert_bytes_back (P := Tryd.prog) W 22 9 5 ad cap bs Tryd.underlying22 Tryd.underlying5 Tryd.underlying9 (fun j hj => by
      obtain ⟨gb, off, e, h⟩ := hc j bs[j] (by simp [hj])
      cases e
      rw [Addr.add_mid]
      exact h)
theorem strV_eq (A B : List UInt8) : ((⟨A.toArray⟩ : ByteArray).toList == (⟨B.toArray⟩ : ByteArray).toList) = decide (A = B) := by
  rw [ByteArray.toList_eq, ByteArray.toList_eq]
  by_cases h : A = B
  · subst h; simp
  · rw [decide_eq_false h]
    simpa using h

end Go.Proofs.YthedfcdcocimbaaDoor.Pm
