/- What Begun, take and Rest do, of every splitter that may be. -/
import Derived.Test.YteghdepedlaneaaDoorLB
namespace Go.Proofs.YteghdepedlaneaaDoor
open Go.RowKit

/-! The splitter's type. -/
theorem Tryd.size105 : (Tryd.prog.info? 105).map (·.size) = some 66 := by kernel_rfl
theorem Tryd.built105_zero : Tryd.prog.built 105 [] = some (splA false []) := by kernel_rfl
theorem Tryd.built105_fail : Tryd.prog.built 105 [(0, .bool true)] = some (splA true []) := by kernel_rfl

/-- A splitter lies in block g, from offset o on; what lies ahead of it and behind it is as told. -/
structure Spl (g o : Nat) (T : TypeId) (pre post : List Value) (f : Bool) (b : List UInt8) (w : World) : Prop where
  heap : w.heap[g]? = some (.cells (rowA pre f b post) T (0, 0))
  off : pre.length = o
  le : b.length ≤ 64
  fail : f = true → b = []
section
variable {g o : Nat} {T : TypeId} {pre post : List Value} {f : Bool} {b : List UInt8} {w w' : World}
theorem Spl.c0 (h : Spl g o T pre post f b w) : w.cell? ⟨g, o, none⟩ = some (.bool f) := by rw [cell_of_row _ _ _ _ _ _ h.heap, ← h.off]; exact rowA_0 pre f b post h.le
theorem Spl.c1 (h : Spl g o T pre post f b w) : w.cell? ⟨g, o + 1, none⟩ = some (.int .i64 b.length) := by rw [cell_of_row _ _ _ _ _ _ h.heap, ← h.off]; exact rowA_1 pre f b post h.le
theorem Spl.frame {p : Nat → Prop} (h : Spl g o T pre post f b w) (hf : Frame p w w') (hp : ¬ p g) : Spl g o T pre post f b w' := ⟨hf.heap h.heap hp, h.off, h.le, h.fail⟩
theorem Spl.lt (h : Spl g o T pre post f b w) : g < w.heap.size := (Array.getElem?_eq_some_iff.1 h.heap).1
theorem size_rowA (hb : b.length ≤ 64) : (rowA pre f b post).size = pre.length + 66 + post.length := by simp [rowA, length_splL hb]; omega
theorem Spl.there (h : Spl g o T pre post f b w) : w.there g o 66 := there_of_row h.heap o 66 (by rw [size_rowA h.le, h.off]; omega)
theorem Spl.cells (h : Spl g o T pre post f b w) (f' : Bool) (b' : List UInt8) (hb' : b'.length ≤ 64) (hf : f' = true → b' = []) : Spl g o T pre post f' b' (w.setCells g o (splL f' b')) := by
  have := heap_setCells (splL f' b') o w g pre (splL f b) post T (0, 0) h.heap h.off (by rw [length_splL h.le, length_splL hb'])
  exact ⟨this, h.off, hb', hf⟩
end

set_option maxRecDepth 100000 in
set_option maxHeartbeats 400000 in
theorem begun_nil (w : World) : Calls Tryd.prog 99 #[.pointer none] w fun e w' => e = .returned (.int .i64 0) ∧ w' = w := by
  go_enter Tryd.func99, Tryd.ntmps99
  go_wp2
  go_ret
  exact ⟨rfl, rfl⟩

set_option maxRecDepth 100000 in
set_option maxHeartbeats 400000 in
theorem begun_any {g o : Nat} {T : TypeId} {pre post : List Value} {f : Bool} {b : List UInt8} {w : World} (h : Spl g o T pre post f b w) : Calls Tryd.prog 99 #[.pointer (some ⟨g, o, none⟩)] w fun e w' => e = .returned (.int .i64 b.length) ∧ w' = w := by
  have h1 := h.c1
  clear h
  go_enter Tryd.func99, Tryd.ntmps99
  go_wp2
  go_ret
  exact ⟨rfl, rfl⟩

/-- The call answers this value; the splitter is as told; nothing else has turned. -/
def Turns (g o : Nat) (T : TypeId) (pre post : List Value) (f : Bool) (b : List UInt8) (w : World) (v : Value) (e : Ending) (w' : World) : Prop := e = .returned v ∧ Spl g o T pre post f b w' ∧ Frame (· = g) w w'

set_option maxRecDepth 100000 in
set_option maxHeartbeats 800000 in
theorem take_any {g o : Nat} {T : TypeId} {pre post : List Value} {f : Bool} {b : List UInt8} {w : World} (h : Spl g o T pre post f b w) : Calls Tryd.prog 100 #[.pointer (some ⟨g, o, none⟩)] w (Turns g o T pre post false [] w (strV b)) := by
  have h1 := h.c1
  have hle := h.le
  have hconv := fun (n : Nat) => run_convert_bytes_back (P := Tryd.prog) (w.drewN n) 22 9 5 ⟨g, o + 2, none⟩ 64 b Tryd.underlying22 Tryd.underlying5 Tryd.underlying9 (fun j hj => by
    have : (w.drewN n).cell? ((⟨g, o + 2, none⟩ : Addr).add j) = w.cell? ((⟨g, o + 2, none⟩ : Addr).add j) := by simp
    rw [this, Addr.add_mid, cell_of_row _ _ _ _ _ _ h.heap]
    rw [← h.off]
    exact rowA_at pre f b post h.le j _ (by simp [hj]))
  have hconv0 := hconv 0
  obtain ⟨S, hS⟩ : ∃ S : ByteArray, S = ⟨b.toArray⟩ := ⟨_, rfl⟩
  rw [← hS] at hconv hconv0
  have HS := Lib.hid hS
  have H := Lib.hid h
  have g1 : (0 : Int) ≤ (b.length : Int) := by omega
  have g2 : (b.length : Int) ≤ 64 := by omega
  clear hS h
  go_enter Tryd.func100, Tryd.ntmps100
  go_wp2
  go_quiet (fail)
  have hh : Spl g o T pre post f b (w.drewN nq) := ⟨H.out.heap, H.out.off, H.out.le, H.out.fail⟩
  have HH := Lib.hid hh
  clear hh hconv hconv0
  go_wp2_with (first
    | (with_reducible refine wpList_build0 rfl 105 rfl (splA false []) Tryd.built105_zero ?_)
    | with_reducible refine wpList_store_mid rfl 105 (.tmp 15) (.tmp 14) rfl g o (splA false []) rfl rfl (by rw [size_splA (Nat.zero_le _)]; exact HH.out.there) (by rw [Tryd.size105, size_splA (Nat.zero_le _)]) (one_splA _ _) ?_)
  go_ret
  refine ⟨by rw [strV, ← HS.out]; rfl, HH.out.cells false [] (by simp) (fun _ => rfl), ?_⟩
  exact ((Frame.refl _ w).drewN nq).trans (Frame.cells g o _)

set_option maxRecDepth 100000 in
set_option maxHeartbeats 800000 in
theorem rest_nil (w : World) : Calls Tryd.prog 97 #[.pointer none] w fun e w' => e = .returned (.tuple #[strV [], .bool false]) ∧ w' = w := by
  go_enter Tryd.func97, Tryd.ntmps97
  go_wp2_with fail
  refine (begun_nil w).mono ?_
  rintro e w' ⟨rfl, rfl⟩
  go_wp2
  go_ret2
  exact ⟨rfl, rfl⟩

set_option maxRecDepth 100000 in
set_option maxHeartbeats 800000 in
theorem rest_any {g o : Nat} {T : TypeId} {pre post : List Value} {f : Bool} {b : List UInt8} {w : World} (h : Spl g o T pre post f b w) :
    Calls Tryd.prog 97 #[.pointer (some ⟨g, o, none⟩)] w (Turns g o T pre post f [] w (.tuple #[strV b, .bool (!b.isEmpty)])) := by
  have H := Lib.hid h
  clear h
  by_cases hb : b = []
  · subst hb
    go_enter Tryd.func97, Tryd.ntmps97
    go_wp2_with fail
    refine (begun_any H.out).mono ?_
    rintro e w' ⟨rfl, rfl⟩
    go_wp2
    go_ret2
    exact ⟨rfl, H.out, Frame.refl _ _⟩
  · have hl : 0 < b.length := List.length_pos_iff.2 hb
    have hf : f = false := by
      cases f
      · rfl
      · exact absurd (H.out.fail rfl) hb
    subst hf
    have g1 : ((b.length : Int) == 0) = false := by simp; omega
    have he : b.isEmpty = false := by cases b <;> simp_all
    rw [he]
    clear hb he
    go_enter Tryd.func97, Tryd.ntmps97
    go_wp2_with fail
    refine (begun_any H.out).mono ?_
    rintro e w' ⟨rfl, rfl⟩
    go_wp2_with fail
    refine (take_any H.out).mono ?_
    rintro e w2 ⟨rfl, hs, hfr⟩
    have HS := Lib.hid hs
    clear hs
    go_wp2_with fail
    go_ret2
    exact ⟨rfl, HS.out, hfr⟩

end Go.Proofs.YteghdepedlaneaaDoor
