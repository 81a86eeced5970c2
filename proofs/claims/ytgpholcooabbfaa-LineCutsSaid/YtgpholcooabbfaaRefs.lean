/- What the document's splitter does: Begun, Rest, Cut. -/
import Derived.Test.YtgpholcooabbfaaReflines
namespace Go.Proofs.Ytgpholcooabbfaa
open Go.RowKit

/-- The document's splitter lies in block g: all bytes that came, how many lines are told, whether it has failed. -/
structure RSpl (g : Nat) (A : List UInt8) (told : Nat) (f : Bool) (av : Value) (w : World) : Prop where
  heap : w.heap[g]? = some (.cells #[av, .int .i64 told, .bool f] 33 (0, 0))
  own : w.ownsRow (g + 1) 5 1 av A.length (bytesL A)
theorem RSpl.c0 {g told : Nat} {A : List UInt8} {f : Bool} {av : Value} {w : World} (h : RSpl g A told f av w) : w.cell? ⟨g, 0, none⟩ = some av := by rw [cell_of_row _ _ _ _ _ _ h.heap]; rfl
theorem RSpl.c1 {g told : Nat} {A : List UInt8} {f : Bool} {av : Value} {w : World} (h : RSpl g A told f av w) : w.cell? ⟨g, 1, none⟩ = some (.int .i64 told) := by rw [cell_of_row _ _ _ _ _ _ h.heap]; rfl
theorem RSpl.c2 {g told : Nat} {A : List UInt8} {f : Bool} {av : Value} {w : World} (h : RSpl g A told f av w) : w.cell? ⟨g, 2, none⟩ = some (.bool f) := by rw [cell_of_row _ _ _ _ _ _ h.heap]; rfl
theorem RSpl.lt {g told : Nat} {A : List UInt8} {f : Bool} {av : Value} {w : World} (h : RSpl g A told f av w) : g < w.heap.size := (Array.getElem?_eq_some_iff.1 h.heap).1
theorem RSpl.frame {p : Nat → Prop} {g told : Nat} {A : List UInt8} {f : Bool} {av : Value} {w w' : World} (h : RSpl g A told f av w) (hf : Frame p w w') (hp : ¬ p g) (hq : ∀ k, av.ownBlock = some k → ¬ p k) : RSpl g A told f av w' := ⟨hf.heap h.heap hp, hf.owns h.own hq⟩
theorem RSpl.below {g told : Nat} {A : List UInt8} {f : Bool} {av : Value} {w w' : World} (h : RSpl g A told f av w) (hb : Below w.heap.size w w') : RSpl g A told f av w' := h.frame (Below.toFrame hb (fun _ => False)) (fun h => h) (fun _ _ h => h)
theorem RSpl.slice {g told : Nat} {A : List UInt8} {f : Bool} {av : Value} {w : World} (h : RSpl g A told f av w) : ∃ a cap, av = .slice a A.length cap := by
  rcases h.own.2 with ⟨rfl, h0⟩ | ⟨g, cap, cur, rfl, _⟩
  · exact ⟨_, _, by rw [h0]⟩
  · exact ⟨_, _, rfl⟩

theorem str_ne {R : List UInt8} {S : ByteArray} (h : strV R = .string S) (hne : R ≠ []) : (!S.toList.isEmpty) = true := by
  rw [strV] at h
  cases h
  rw [ByteArray.toList_eq]
  cases R with
  | nil => exact absurd rfl hne
  | cons c r => rfl

set_option maxRecDepth 100000 in
set_option maxHeartbeats 1000000 in
theorem refBegun_any (g told : Nat) (A R : List UInt8) (f : Bool) (av : Value) (w : World) (h : RSpl g A told f av w) (hsz : A.length ≤ 1000000) (hR : (cutL [] A).2.getD [] = R) :
    Calls Try.prog 16 #[.pointer (some ⟨g, 0, none⟩)] w fun e w' => e = .returned (.int .i64 R.length) ∧ Below w.heap.size w w' := by
  have h0 := h.c0
  obtain ⟨a, cap, rfl⟩ := h.slice
  have HB := Lib.hid (isBytes_of_owns h.own)
  have HR := Lib.hid hR
  clear h hR
  go_enter Try.func16, Try.ntmps16
  go_wp2_with fail
  refine (lines_any _ A w HB.out hsz).mono ?_
  rintro e w' ⟨v, rfl, _, hb⟩
  rw [HR.out]
  obtain ⟨S, hS⟩ : ∃ S : ByteArray, strV R = .string S := ⟨_, rfl⟩
  have hSz := (strCells_eq hS).2
  rw [hS]
  have HSz := Lib.hid hSz
  clear hSz hS
  go_wp2_with fail
  go_ret
  exact ⟨by rw [← HSz.out]; rfl, hb⟩

set_option maxRecDepth 100000 in
set_option maxHeartbeats 1000000 in
theorem refRest_none (g told : Nat) (A : List UInt8) (f : Bool) (av : Value) (w : World) (h : RSpl g A told f av w) (hsz : A.length ≤ 1000000) (hR : (cutL [] A).2.getD [] = []) :
    Calls Try.prog 11 #[.pointer (some ⟨g, 0, none⟩)] w fun e w' => e = .returned (.tuple #[strV [], .bool false]) ∧ RSpl g A told f av w' ∧ Frame (· = g) w w' := by
  have h0 := h.c0
  have H := Lib.hid h
  obtain ⟨a, cap, rfl⟩ := h.slice
  have HB := Lib.hid (isBytes_of_owns h.own)
  have HR := Lib.hid hR
  clear h hR
  go_enter Try.func11, Try.ntmps11
  go_wp2_with fail
  refine (lines_any _ A w HB.out hsz).mono ?_
  rintro e w' ⟨v, rfl, _, hb⟩
  rw [HR.out, strV]
  clear h0 HB
  go_wp2_with fail
  go_ret2
  exact ⟨rfl, H.out.below hb, Below.toFrame hb _⟩

set_option maxRecDepth 100000 in
set_option maxHeartbeats 1000000 in
theorem refRest_some (g told : Nat) (A R : List UInt8) (f : Bool) (av : Value) (w : World) (h : RSpl g A told f av w) (hsz : A.length ≤ 1000000) (hR : (cutL [] A).2.getD [] = R) (hne : R ≠ []) :
    Calls Try.prog 11 #[.pointer (some ⟨g, 0, none⟩)] w fun e w' => e = .returned (.tuple #[strV R, .bool true]) ∧ RSpl g [] 0 f (.slice none 0 0) w' ∧ Frame (· = g) w w' := by
  have h0 := h.c0
  have H := Lib.hid h
  obtain ⟨a, cap, rfl⟩ := h.slice
  have HB := Lib.hid (isBytes_of_owns h.own)
  have HR := Lib.hid hR
  clear h hR
  go_enter Try.func11, Try.ntmps11
  go_wp2_with fail
  refine (lines_any _ A w HB.out hsz).mono ?_
  rintro e w' ⟨v, rfl, _, hb⟩
  have h' := H.out.below hb
  have d0 := h'.c0
  have d1 := h'.c1
  have f1 := fun j => frozen_of_row _ g j _ _ h'.heap
  rw [HR.out]
  obtain ⟨S, hS⟩ : ∃ S : ByteArray, strV R = .string S := ⟨_, rfl⟩
  have q := str_ne hS hne
  rw [hS]
  have HS := Lib.hid hS
  have H' := Lib.hid h'
  clear h0 HB hS h' hne
  go_wp2_with fail
  go_ret2
  refine ⟨by rw [HS.out]; rfl, ⟨?_, World.ownsRow_nil _ _ 5 1⟩, (Below.toFrame hb _).trans ((Frame.cell _ ⟨g, 0, none⟩ _).trans (Frame.cell _ ⟨g, 1, none⟩ _))⟩
  rw [setCell_row (setCell_row H'.out.heap _ _)]
  rfl

end Go.Proofs.Ytgpholcooabbfaa
