/- A disk: what count does. -/
import Derived.Test.YtpengkkbmenkpaaFsmem
namespace Go.Proofs.Ytpengkkbmenkpaa
open Go.RowKit

section
variable {base g : Nat} {own : Nat → Nat} {S : Script} {s : DSt} {bf : Nat} {mf : Option Nat} {F : List (Nat × Value)} {w : World}
/-- The disk's cells are put anew; what lies elsewhere stays. -/
theorem Disk.put (h : Disk base g own S s bf mf F w) {w' : World} (n : Nat) (id : Int) (hg : w'.heap[g]? = some (.cells #[.map mf, .int .i64 s.T.length, .map (some bf), .int .i64 n, .int .i64 id] 55 (0, 0)))
    (hf : Frame (· = g) w w') : Disk base g own S { s with n := n, id := id } bf mf F w' where
  heap := hg
  fails := h.fails.frame hf (fun e => by have := h.of; rw [e, h.og] at this; cases this)
  none := h.none
  files b hb := ⟨(h.files b hb).1.frame hf (fun e => by have := (h.files b hb).2; rw [e, h.og] at this; cases this), (h.files b hb).2⟩
  len := h.len
  file k t b v h1 h2 := by
    obtain ⟨f1, f2, f3, f4⟩ := h.file k t b v h1 h2
    have ho := h.og
    exact ⟨hf.heap f1 (fun e => by rw [e, ho] at f3; omega), hf.owns f2 (fun r hr e => by have := f4 r hr; rw [e, ho] at this; omega), f3, f4⟩
  og := h.og
  of := h.of
  bnd k hk := ⟨(h.bnd k hk).1, Nat.lt_of_lt_of_le (h.bnd k hk).2 hf.size⟩

theorem cntS_some {i : Int} (hi : failAt S s.n = some i) : cntS S s = { s with n := s.n + 1, id := i } := by simp [cntS, hi]
theorem cntS_none (hi : failAt S s.n = none) : cntS S s = { s with n := s.n + 1, id := s.id } := by simp [cntS, hi]

set_option maxRecDepth 100000 in
set_option maxHeartbeats 1000000 in
theorem count_any (h : Disk base g own S s bf mf F w) (hn : s.n ≤ 1000000) :
    Calls Try.prog 26 #[.pointer (some ⟨g, 0, none⟩)] w fun e w' => e = .returned (.int .i64 (cntE S s)) ∧ Disk base g own S (cntS S s) bf mf F w' ∧ Frame (· = g) w w' := by
  have HH := Lib.hid h
  have c2 := h.c2
  have c3 := h.c3
  have f3 := h.froz 3
  have f4 := h.froz 4
  have c4 := h.c4
  have hI : I64 (s.n : Int) := ⟨by omega, by omega⟩
  have hl := look_int (w := w.drew) (h.fails.same rfl) hI
  have hz := h.heap
  unfold cntE
  cases hi : failAt S s.n with
  | none =>
    rw [hi] at hl
    rw [cntS_none hi]
    simp only [Option.getD_none, Option.isSome_none, Bool.false_eq_true, if_false] at hl ⊢
    have HZ := Lib.hid hz
    clear h hi hI hz
    go_enter Try.func26, Try.ntmps26
    go_wp2_with fail
    go_region
    go_wp2_with fail
    go_ret
    have h1 := setCell_row HZ.out 3 (.int .i64 ((s.n : Int) + 1))
    have hf : Frame (· = g) w (w.setCell ⟨g, 3, none⟩ (.int .i64 ((s.n : Int) + 1))).drew := (Frame.cell w ⟨g, 3, none⟩ _).drew
    exact ⟨rfl, HH.out.put (s.n + 1) s.id h1 hf, hf⟩
  | some i =>
    rw [hi] at hl
    rw [cntS_some hi]
    simp only [Option.getD_some, Option.isSome_some, if_true] at hl ⊢
    have HZ := Lib.hid hz
    clear h hi hI hz
    go_enter Try.func26, Try.ntmps26
    go_wp2_with fail
    go_region
    go_wp2_with fail
    go_ret
    have h1 := setCell_row (setCell_row HZ.out 3 (.int .i64 ((s.n : Int) + 1))) 4 (.int .i64 i)
    have hf : Frame (· = g) w ((w.setCell ⟨g, 3, none⟩ (.int .i64 ((s.n : Int) + 1))).setCell ⟨g, 4, none⟩ (.int .i64 i)).drew := ((Frame.cell w ⟨g, 3, none⟩ _).trans (Frame.cell _ ⟨g, 4, none⟩ _)).drew
    exact ⟨rfl, HH.out.put (s.n + 1) i h1 hf, hf⟩
end
end Go.Proofs.Ytpengkkbmenkpaa
