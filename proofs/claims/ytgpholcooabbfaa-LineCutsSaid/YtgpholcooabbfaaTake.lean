/- What Begun, take and Rest do, of every splitter that may be. -/
import Derived.Test.YtgpholcooabbfaaModel
namespace Go.Proofs.Ytgpholcooabbfaa
open Go.RowKit

/-- A splitter lies in block g. -/
structure Spl (g : Nat) (f : Bool) (b : List UInt8) (w : World) : Prop where
  heap : w.heap[g]? = some (.cells (splA f b) 29 (0, 0))
  le : b.length ≤ 64
  fail : f = true → b = []
theorem Spl.c0 {g : Nat} {f : Bool} {b : List UInt8} {w : World} (h : Spl g f b w) : w.cell? ⟨g, 0, none⟩ = some (.bool f) := by rw [cell_of_row _ _ _ _ _ _ h.heap]; exact splA_0 f b
theorem Spl.c1 {g : Nat} {f : Bool} {b : List UInt8} {w : World} (h : Spl g f b w) : w.cell? ⟨g, 1, none⟩ = some (.int .i64 b.length) := by rw [cell_of_row _ _ _ _ _ _ h.heap]; exact splA_1 f b
theorem Spl.frame {p : Nat → Prop} {g : Nat} {f : Bool} {b : List UInt8} {w w' : World} (h : Spl g f b w) (hf : Frame p w w') (hp : ¬ p g) : Spl g f b w' := ⟨hf.heap h.heap hp, h.le, h.fail⟩
theorem Spl.lt {g : Nat} {f : Bool} {b : List UInt8} {w : World} (h : Spl g f b w) : g < w.heap.size := (Array.getElem?_eq_some_iff.1 h.heap).1

/-- A struct that is built of nothing, under a name of one's own. -/
theorem wpList_build0 {P : Program} {ops : Array Oper} {rest : List Oper} {o : Oper} {a : Act} {w : World} {Q : Exit → Act → World → Prop} (hgd : o.guard = none) (t : TypeId) (ho : o.op = .build t #[])
    (cells : Array Value) (hf : P.built t [] = some cells) (h : wpList P ops Q rest (a.put o.dst (.agg cells)) w) : wpList P ops Q (o :: rest) a w := by
  have hf' : P.built t ((#[] : Array (Nat × Operand)).map fun (i, x) => (i, a.eval x)).toList = some cells := by simpa using hf
  exact wpList_build hgd t _ ho (by rw [hf']; rfl) (by rw [hf']; exact h)
/-- A struct that is built of one part, under a name of one's own. -/
theorem wpList_build1 {P : Program} {ops : Array Oper} {rest : List Oper} {o : Oper} {a : Act} {w : World} {Q : Exit → Act → World → Prop} (hgd : o.guard = none) (t : TypeId) (i : Nat) (x : Operand) (ho : o.op = .build t #[(i, x)])
    (v : Value) (hx : a.eval x = v) (cells : Array Value) (hf : P.built t [(i, v)] = some cells)
    (h : wpList P ops Q rest (a.put o.dst (.agg cells)) w) : wpList P ops Q (o :: rest) a w := by
  have hf' : P.built t ((#[(i, x)] : Array (Nat × Operand)).map fun (i, x) => (i, a.eval x)).toList = some cells := by simpa [hx] using hf
  exact wpList_build hgd t _ ho (by rw [hf']; rfl) (by rw [hf']; exact h)

set_option maxRecDepth 100000 in
set_option maxHeartbeats 400000 in
theorem begun_nil (w : World) : Calls Try.prog 15 #[.pointer none] w fun e w' => e = .returned (.int .i64 0) ∧ w' = w := by
  go_enter Try.func15, Try.ntmps15
  go_wp2
  go_ret
  exact ⟨rfl, rfl⟩

set_option maxRecDepth 100000 in
set_option maxHeartbeats 400000 in
theorem begun_any (g : Nat) (f : Bool) (b : List UInt8) (w : World) (h : Spl g f b w) : Calls Try.prog 15 #[.pointer (some ⟨g, 0, none⟩)] w fun e w' => e = .returned (.int .i64 b.length) ∧ w' = w := by
  have h1 := h.c1
  clear h
  go_enter Try.func15, Try.ntmps15
  go_wp2
  go_ret
  exact ⟨rfl, rfl⟩

/-- The call answers this value; the splitter is as told; nothing else has turned. -/
def Turns (g : Nat) (f : Bool) (b : List UInt8) (w : World) (v : Value) (e : Ending) (w' : World) : Prop := e = .returned v ∧ Spl g f b w' ∧ Frame (· = g) w w'

set_option maxRecDepth 100000 in
set_option maxHeartbeats 800000 in
theorem take_any (g : Nat) (f : Bool) (b : List UInt8) (w : World) (h : Spl g f b w) : Calls Try.prog 20 #[.pointer (some ⟨g, 0, none⟩)] w (Turns g false [] w (strV b)) := by
  have h1 := h.c1
  have hle := h.le
  have hconv := fun (n : Nat) => run_convert_bytes_back (P := Try.prog) (w.drewN n) 31 9 5 ⟨g, 2, none⟩ 64 b Try.underlying31 Try.underlying5 Try.underlying9 (fun j hj => by
    have : (w.drewN n).cell? ((⟨g, 2, none⟩ : Addr).add j) = w.cell? ((⟨g, 2, none⟩ : Addr).add j) := by simp
    rw [this, Addr.add_mid, cell_of_row _ _ _ _ _ _ h.heap]
    exact splA_at f b j _ (by simp [hj]))
  have hconv0 := hconv 0
  obtain ⟨S, hS⟩ : ∃ S : ByteArray, S = ⟨b.toArray⟩ := ⟨_, rfl⟩
  rw [← hS] at hconv hconv0
  have HS := Lib.hid hS
  have H := Lib.hid h
  have g1 : (0 : Int) ≤ (b.length : Int) := by omega
  have g2 : (b.length : Int) ≤ 64 := by omega
  clear hS h
  go_enter Try.func20, Try.ntmps20
  go_wp2
  go_quiet (fail)
  have hh : (w.drewN nq).heap[g]? = some (.cells (splA f b) 29 (0, 0)) := H.out.heap
  have HH := Lib.hid hh
  clear hh hconv hconv0
  go_wp2_with (first
    | (with_reducible refine wpList_build0 rfl 29 rfl (splA false []) Try.built29_zero ?_)
    | with_reducible refine wpList_store_row rfl 29 (.tmp 15) (.tmp 14) rfl g (splA false []) rfl rfl 29 _ HH.out (by rw [Try.size29, size_splA (Nat.zero_le _)]) (by rw [size_splA hle, size_splA (Nat.zero_le _)]) (one_splA _ _) ?_)
  go_ret
  refine ⟨by rw [strV, ← HS.out]; rfl, ⟨setRow_heap _ _ _ _ _ _ HH.out, by simp, fun _ => rfl⟩, ?_⟩
  exact ((Frame.refl _ w).drewN nq).trans (Frame.row _ g _)

set_option maxRecDepth 100000 in
set_option maxHeartbeats 800000 in
theorem rest_nil (w : World) : Calls Try.prog 10 #[.pointer none] w fun e w' => e = .returned (.tuple #[strV [], .bool false]) ∧ w' = w := by
  go_enter Try.func10, Try.ntmps10
  go_wp2_with fail
  refine (begun_nil w).mono ?_
  rintro e w' ⟨rfl, rfl⟩
  go_wp2
  go_ret2
  exact ⟨rfl, rfl⟩

set_option maxRecDepth 100000 in
set_option maxHeartbeats 800000 in
theorem rest_any (g : Nat) (f : Bool) (b : List UInt8) (w : World) (h : Spl g f b w) :
    Calls Try.prog 10 #[.pointer (some ⟨g, 0, none⟩)] w (Turns g f [] w (.tuple #[strV b, .bool (!b.isEmpty)])) := by
  have H := Lib.hid h
  clear h
  by_cases hb : b = []
  · subst hb
    go_enter Try.func10, Try.ntmps10
    go_wp2_with fail
    refine (begun_any g f [] w H.out).mono ?_
    rintro e w' ⟨rfl, rfl⟩
    go_wp2
    go_ret2
    exact ⟨rfl, H.out, Frame.refl _ _⟩
  · have hl : 0 < b.length := List.length_pos_iff.2 hb
    have hf : f = false := by
      cases f
      · rfl
      · exact absurd (H.out.fail rfl) hb
    subst hf
    have g1 : ((b.length : Int) == 0) = false := by simp; omega
    have he : b.isEmpty = false := by cases b <;> simp_all
    rw [he]
    clear hb he
    go_enter Try.func10, Try.ntmps10
    go_wp2_with fail
    refine (begun_any g false b w H.out).mono ?_
    rintro e w' ⟨rfl, rfl⟩
    go_wp2_with fail
    refine (take_any g false b w' H.out).mono ?_
    rintro e w2 ⟨rfl, hs, hfr⟩
    have HS := Lib.hid hs
    clear hs
    go_wp2_with fail
    go_ret2
    exact ⟨rfl, HS.out, hfr⟩

end Go.Proofs.Ytgpholcooabbfaa
