/- Plainly: uniq. -/
import Derived.Test.YtmmhpjhmobhdiaaDoorLinesx
import Derived.Test.YtmmhpjhmobhdiaaDoorRB
import Derived.Lib.ItoaLen
namespace Go.Proofs.YtmmhpjhmobhdiaaDoor
open Go.RowKit

/-- Of the group that is begun: how many of its lines have come, and the line. -/
abbrev US := Int × List UInt8
/-- A group, told with how many they were. -/
def cntO (u : US) : Outs := if u.1 = 0 then [] else [(0, (Lib.itoa u.1 ++ 32 :: u.2) ++ [10])]
/-- Is the line one of the group? -/
def alike (u : US) (x : List UInt8) : Bool := decide (u.1 ≠ 0) && decide (x = u.2)
def uniqT (c : Bool) : Teller US := fun u x =>
  (if alike u x = true then (wrap64 (u.1 + 1), u.2) else (1, x), if alike u x = true then [] else if c = true then cntO u else [(0, x ++ [10])], false)
def uniqEnd (c : Bool) (u : US) : US × Outs := (if c = true then (if u.1 = 0 then u else (0, [])) else (0, []), if c = true then cntO u else [])
def uniqDrop (_ : US) : US := (0, [])
def uniqHeld (s : LS US) : Int := ((s.b.length + s.u.2.length : Nat) : Int)
def uniqMach (c : Bool) : Mach (LS US) := linesX (uniqT c) (uniqEnd c) uniqDrop uniqHeld
def uniqS : LS US := ⟨true, false, [], (0, [])⟩

theorem i64_wrap (n : Int) : -9223372036854775808 ≤ wrap64 n ∧ wrap64 n ≤ 9223372036854775807 := by
  unfold wrap64
  omega
theorem i64_id {n : Int} (h0 : -9223372036854775808 ≤ n) (h1 : n ≤ 9223372036854775807) : wrap64 n = n := by
  unfold wrap64
  omega

/-! What is kept is not too much. -/
def UOk (u : US) : Prop := u.2.length ≤ 64 ∧ -9223372036854775808 ≤ u.1 ∧ u.1 ≤ 9223372036854775807
theorem uOk_none : UOk (0, []) := ⟨by simp, by decide, by decide⟩
theorem uOk_tell {c : Bool} {u : US} {x : List UInt8} (h : UOk u) (hx : x.length ≤ 64) : UOk (uniqT c u x).1 := by
  simp only [uniqT]
  split
  · exact ⟨h.1, i64_wrap _⟩
  · exact ⟨hx, by simp, by simp⟩
theorem uOk_fin {c : Bool} {u : US} (h : UOk u) : UOk (uniqEnd c u).1 := by
  simp only [uniqEnd]
  repeat' split
  · exact h
  · exact uOk_none
  · exact uOk_none
theorem uOk_feed {c : Bool} : ∀ (x : List UInt8) (s : LS US), s.b.length ≤ 64 → UOk s.u → UOk (feedB (uniqT c) x s).1.u
  | [], s, _, h => h
  | d :: r, s, hb, h => by
    by_cases hl : s.live = true
    · by_cases hc : d = 10
      · subst hc
        rw [feedB_end (uniqT c) r s hl]
        exact uOk_feed r _ (by simp) (uOk_tell (c := c) h hb)
      · by_cases h64 : s.b.length = 64
        · rw [feedB_long (uniqT c) d r s hl hc h64]; exact h
        · rw [feedB_put (uniqT c) d r s hl hc h64]
          exact uOk_feed r _ (by simp; omega) h
    · rw [feedB_dead (uniqT c) _ s (by simpa using hl)]
      exact h
theorem uOk_feedL {c : Bool} (x : List UInt8) (s : LS US) (hb : s.b.length ≤ 64) (h : UOk s.u) : UOk (feedL (uniqT c) uniqDrop x s).1.u := by
  simp only [feedL]
  split
  · exact uOk_none
  · exact uOk_feed x s hb h

theorem uOk_end (c : Bool) (s : LS US) (hb : s.b.length ≤ 64) (h : UOk s.u) : UOk (endL (uniqT c) (uniqEnd c) s).1.u := by
  unfold endL endB
  split
  · exact uOk_fin (c := c) h
  · exact uOk_fin (c := c) (uOk_tell (c := c) h hb)

/-! Its answers are small. -/
theorem cntO_outs {u : US} (h : UOk u) : LineOuts (cntO u) (u.2.length + 23) := by
  unfold cntO
  split
  · exact LineOuts.nil _
  · have := Lib.itoa_length_le u.1 h.2.1 h.2.2
    exact (LineOuts.one _).mono (by simp; omega)
theorem uniq_len (c : Bool) (u : US) (x : List UInt8) : (uniqT c u x).2.1.length ≤ 40 := by
  simp only [uniqT, cntO]
  repeat' split
  all_goals simp
theorem uniq_fin_len (c : Bool) (u : US) : (uniqEnd c u).2.length ≤ 40 := by
  simp only [uniqEnd, cntO]
  repeat' split
  all_goals simp
theorem uniq_feedOuts (c : Bool) : ∀ (x : List UInt8) (s : LS US), s.b.length ≤ 64 → UOk s.u → LineOuts (feedB (uniqT c) x s).2.1 (s.u.2.length + 2 * s.b.length + 25 * x.length)
  | [], s, _, h => LineOuts.nil _
  | d :: r, s, hb, h => by
    by_cases hl : s.live = true
    · by_cases hc : d = 10
      · subst hc
        rw [feedB_end (uniqT c) r s hl]
        have ih := uniq_feedOuts c r ⟨!(uniqT c s.u s.b).2.2, s.fail, [], (uniqT c s.u s.b).1⟩ (by simp) (uOk_tell (c := c) h hb)
        generalize feedB (uniqT c) r ⟨!(uniqT c s.u s.b).2.2, s.fail, [], (uniqT c s.u s.b).1⟩ = z at ih ⊢
        simp only [uniqT] at ih ⊢
        by_cases ha : alike s.u s.b = true
        · simp only [if_pos ha, List.nil_append, List.length_nil] at ih ⊢
          exact ih.mono (by simp only [List.length_cons]; omega)
        · simp only [if_neg ha, List.length_nil] at ih ⊢
          cases c
          · refine ((LineOuts.one s.b).append ih).mono ?_
            simp only [List.length_cons]
            omega
          · refine ((cntO_outs h).append ih).mono ?_
            simp only [List.length_cons]
            omega
      · by_cases h64 : s.b.length = 64
        · rw [feedB_long (uniqT c) d r s hl hc h64]; exact LineOuts.nil _
        · rw [feedB_put (uniqT c) d r s hl hc h64]
          exact (uniq_feedOuts c r ⟨true, s.fail, s.b ++ [d], s.u⟩ (by simp; omega) h).mono (by simp; omega)
    · rw [feedB_dead (uniqT c) _ s (by simpa using hl)]
      exact LineOuts.nil _
theorem uniq_tellOuts (c : Bool) {u : US} {x : List UInt8} (h : UOk u) (hx : x.length ≤ 64) : LineOuts (uniqT c u x).2.1 87 := by
  have h1 := h.1
  simp only [uniqT]
  split
  · exact LineOuts.nil _
  · split
    · exact (cntO_outs h).mono (by omega)
    · exact (LineOuts.one x).mono (by omega)
theorem uniq_finOuts (c : Bool) {u : US} (h : UOk u) : LineOuts (uniqEnd c u).2 87 := by
  have h1 := h.1
  simp only [uniqEnd]
  split
  · exact (cntO_outs h).mono (by omega)
  · exact LineOuts.nil _
theorem uniq_endOuts (c : Bool) (s : LS US) (hb : s.b.length ≤ 64) (h : UOk s.u) : LineOuts (endL (uniqT c) (uniqEnd c) s).2.1 256 := by
  unfold endL endB
  split
  · exact (uniq_finOuts c h).mono (by omega)
  · exact ((uniq_tellOuts c h hb).append (uniq_finOuts c (uOk_tell (c := c) h hb))).mono (by omega)
theorem uniq_goes_on (c : Bool) (u : US) (x : List UInt8) : (uniqT c u x).2.2 = false := rfl

end Go.Proofs.YtmmhpjhmobhdiaaDoor
