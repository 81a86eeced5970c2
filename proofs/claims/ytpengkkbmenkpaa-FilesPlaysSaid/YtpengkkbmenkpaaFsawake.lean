/- The law's awake: the chapter's first example. -/
import Derived.Test.YtpengkkbmenkpaaFsnew
import Derived.Test.YtpengkkbmenkpaaFscreate
import Derived.Test.YtpengkkbmenkpaaFsread
import Derived.Test.YtpengkkbmenkpaaFsremove
namespace Go.Proofs.Ytpengkkbmenkpaa
open Go.RowKit

/-- What Create does, whatever comes. -/
theorem create_any {base g : Nat} {own : Nat → Nat} {S : Script} {s : DSt} {w : World} (h : DiskAt base g own S s w) (hs : Small s) :
    Calls Try.prog 16 #[.pointer (some ⟨g, 0, none⟩)] w fun e w' => e = .returned (.tuple #[.int .i64 (createN S s), .int .i64 (createE S s)]) ∧ DiskLeft base g own S (createS S s) w w' := by
  obtain ⟨bf, mf, F, h⟩ := h
  unfold createN createE createS
  by_cases hm : 64 ≤ s.T.length
  · rw [if_pos hm, if_pos hm, if_neg (by decide)]
    refine (create_many h hm).mono ?_
    rintro e w' ⟨rfl, rfl⟩
    exact ⟨rfl, h.left (Below.refl _ _)⟩
  · rw [if_neg hm, if_neg hm]
    by_cases he : cntE S s = 0
    · rw [if_pos he, if_pos he, he]
      exact create_yes h hs hm he
    · rw [if_neg he, if_neg he]
      refine (create_fail h hs hm he).mono ?_
      rintro e w' ⟨rfl, hd, hf⟩
      exact ⟨rfl, own, ⟨_, _, _, hd⟩, fun _ _ => rfl, hf.mono (fun x _ e => by have e' : x = g := e; subst e'; show own x ≠ 0; rw [h.og]; omega)⟩

/-- Bytes in a block of their own. -/
theorem bytes_new (w : World) (bs : List UInt8) (m : Nat × Nat) : IsBytes (· = w.heap.size) (w.alloc (.cells (bytesL bs).toArray 5 m)) (.slice (some ⟨w.heap.size, 0, none⟩) bs.length bs.length) bs :=
  ⟨_, _, rfl, Nat.le_refl _, fun j c hj => ⟨_, _, rfl, rfl, by rw [cell_of_row _ _ _ _ _ _ (heap_alloc_last w _)]; simp [bytesL, hj]⟩⟩
theorem script_new (w : World) (c i : Int) : IsScript (· = w.heap.size) (w.alloc (.cells #[.int .i64 c, .int .i64 i] 51)) (.slice (some ⟨w.heap.size, 0, none⟩) 1 1) [(c, i)] := by
  refine ⟨_, _, rfl, fun j f hj => ⟨_, _, rfl, rfl, ?_⟩⟩
  match j, hj with
  | 0, hj =>
    cases hj
    exact ⟨by rw [cell_of_row _ _ _ _ _ _ (heap_alloc_last w _)]; rfl, by rw [cell_of_row _ _ _ _ _ _ (heap_alloc_last w _)]; rfl⟩
theorem DiskLeft.below {base g : Nat} {own : Nat → Nat} {S : Script} {s s' : DSt} {w w' w0 : World} (hl : DiskLeft base g own S s' w w') (h : DiskAt base g own S s w) (hb : Below w0.heap.size w0 w) (hw : w0.heap.size ≤ base) : Below w0.heap.size w0 w' := by
  obtain ⟨_, _, _, hf⟩ := hl
  exact hb.trans (hf.below hb.size (fun k hk => Nat.le_trans hw (h.bnd k hk).1))

/-! The example, plainly. -/
def exS : Script := [(2, 9)]
def exA : List UInt8 := [97, 98]
def exC : List UInt8 := [99]
def ex1 : DSt := createS exS dst0
def ex2 : DSt := writeS exS ex1 1 exA
def ex3 : DSt := writeS exS ex2 1 exC
def ex4 : DSt := readS exS ex3 1 0 9
theorem ex_create : createN exS dst0 = 1 ∧ createE exS dst0 = 0 := by decide
theorem ex_write : writeE exS ex1 1 exA = 0 := by decide
theorem ex_fails : writeE exS ex2 1 exC = 25 := by decide
theorem ex_read : readE exS ex3 1 0 9 = 0 := by decide
theorem ex_bytes : readB exS ex3 1 0 9 = exA := by decide
theorem ex_told : ex4.n = 4 ∧ ex4.id = 9 := by decide
theorem one64 : I64 1 := ⟨by decide, by decide⟩
theorem small_0 : Small dst0 := made_0.small (by decide)
theorem small_1 : Small ex1 := ⟨by decide, by decide, by decide⟩
theorem small_2 : Small ex2 := ⟨by decide, by decide, by decide⟩
theorem small_3 : Small ex3 := ⟨by decide, by decide, by decide⟩

set_option maxRecDepth 100000 in
set_option maxHeartbeats 2000000 in
theorem awake_any (w : World) : Calls Try.prog 7 #[] w fun e w' => e = .returned (.bool true) ∧ Below w.heap.size w w' := by
  have HS := Lib.hid (show IsScript (· = w.heap.size) (w.alloc (.cells #[.int .i64 2, .int .i64 9] 51)) (.slice (some ⟨w.heap.size, 0, none⟩) 1 1) exS from script_new w 2 9)
  have HB0 := Lib.hid (show Below w.heap.size w (w.alloc (.cells #[.int .i64 2, .int .i64 9] 51)) from (Below.refl _ _).alloc (Nat.le_refl _) _)
  go_enter Try.func7, Try.ntmps7
  go_wp2_with fail
  refine (new_any _ exS _ HS.out (by decide) (by intro f hf; rw [List.mem_singleton.1 hf]; exact ⟨⟨by decide, by decide⟩, by decide, by decide⟩)).mono ?_
  rintro e w1 ⟨g, own, rfl, hd, hb⟩
  have hb1 := HB0.out.trans (hb.mono HB0.out.size)
  have HB1 := Lib.hid hb1
  have HD1 := Lib.hid hd
  clear hb hb1 hd HS
  go_wp2_with fail
  refine (create_any HD1.out small_0).mono ?_
  rintro e w2 ⟨rfl, hl⟩
  have hb2 := hl.below HD1.out HB1.out (by simp)
  obtain ⟨own2, hd2, -, -⟩ := hl
  change DiskAt _ g own2 exS ex1 w2 at hd2
  rw [ex_create.1, ex_create.2]
  have kc2 := Lib.run_convert_bytes_const (P := Try.prog) w2 34 5 #[.int .u8 97, .int .u8 98] 2 2 Try.underlying34 Try.underlying5
  have hb2' : Below w.heap.size w (w2.alloc (.cells (bytesL exA).toArray 5 (2, 3))) := hb2.alloc hb2.size _
  have HD2 := Lib.hid (hd2.below ((Below.refl w2.heap.size w2).alloc (Nat.le_refl _) (.cells (bytesL exA).toArray 5 (2, 3))))
  have HZ2 := Lib.hid (show ∀ k, k = w2.heap.size → own2 k = 0 from fun k hk => Classical.byContradiction fun h => by have := (hd2.bnd k h).2; omega)
  have HY2 := Lib.hid (bytes_new w2 exA (2, 3))
  have HB2 := Lib.hid hb2'
  clear hb2 hb2' hd2
  go_wp2_with fail
  clear kc2
  refine (write_any HD2.out small_1 one64 _ exA HY2.out HZ2.out).mono ?_
  rintro e w3 ⟨rfl, hl⟩
  have hb3 := hl.below HD2.out HB2.out (by simp)
  obtain ⟨own3, hd3, -, -⟩ := hl
  change DiskAt _ g own3 exS ex2 w3 at hd3
  rw [show writeE exS ex1 1 exA = 0 from ex_write]
  have kc3 := Lib.run_convert_bytes_const (P := Try.prog) w3 34 5 #[.int .u8 99] 1 1 Try.underlying34 Try.underlying5
  have hb3' : Below w.heap.size w (w3.alloc (.cells (bytesL exC).toArray 5 (1, 2))) := hb3.alloc hb3.size _
  have HD3 := Lib.hid (hd3.below ((Below.refl w3.heap.size w3).alloc (Nat.le_refl _) (.cells (bytesL exC).toArray 5 (1, 2))))
  have HZ3 := Lib.hid (show ∀ k, k = w3.heap.size → own3 k = 0 from fun k hk => Classical.byContradiction fun h => by have := (hd3.bnd k h).2; omega)
  have HY3 := Lib.hid (bytes_new w3 exC (1, 2))
  have HB3 := Lib.hid hb3'
  clear hb3 hb3' hd3
  go_wp2_with fail
  clear kc3
  refine (write_any HD3.out small_2 one64 _ exC HY3.out HZ3.out).mono ?_
  rintro e w4 ⟨rfl, hl⟩
  have hb4 := hl.below HD3.out HB3.out (by simp)
  obtain ⟨own4, hd4, -, -⟩ := hl
  change DiskAt _ g own4 exS ex3 w4 at hd4
  rw [show writeE exS ex2 1 exC = 25 from ex_fails]
  have HD4 := Lib.hid hd4
  have HB4 := Lib.hid hb4
  clear hb4 hd4
  go_wp2_with fail
  refine (read_any HD4.out small_3 one64 0 9).mono ?_
  rintro e w5 ⟨v, rfl, ho, hd5, hf5⟩
  rw [show readE exS ex3 1 0 9 = 0 from ex_read]
  change DiskAt _ g own4 exS ex4 w5 at hd5
  rw [show readB exS ex3 1 0 9 = exA from ex_bytes] at ho
  have hcv := conv_any (isBytes_of_owns ho)
  obtain ⟨va, vc, rfl⟩ := owns_slice ho
  have hb5 : Below w.heap.size w w5 := HB4.out.trans (hf5.below HB4.out.size (fun k hk => by have e' : k = g := hk; subst e'; have := HD4.out; obtain ⟨bf, mf, F, hx⟩ := this; have := (hx.bnd k (by rw [hx.og]; omega)).1; simp at this; omega))
  have hr := raw_any hd5
  have hc := calls_any hd5
  rw [ex_told.1] at hc
  rw [ex_told.2] at hr
  change (convert 34 9 (.slice va exA.length vc)).run Try.prog w5 = .ok (.string ⟨#[97, 98]⟩) w5 at hcv
  have HB5 := Lib.hid hb5
  have HR := Lib.hid hr
  have HC := Lib.hid hc
  clear hb5 hr hc hd5 hf5 ho
  go_wp2_with (first | (refine HR.out.mono ?_; rintro e w' ⟨rfl, rfl⟩) | (refine HC.out.mono ?_; rintro e w' ⟨rfl, rfl⟩))
  go_ret
  exact ⟨rfl, HB5.out⟩

end Go.Proofs.Ytpengkkbmenkpaa
