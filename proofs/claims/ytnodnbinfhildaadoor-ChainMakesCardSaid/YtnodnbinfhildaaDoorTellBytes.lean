/- A machine of bytes: what bytes.Clone and intake.TellBytes do. -/
import Derived.Test.YtnodnbinfhildaaDoorDput
import Derived.Laws.OwnMore
import Derived.Outline
namespace Go.Proofs.YtnodnbinfhildaaDoor
open Go.RowKit

set_option maxRecDepth 100000 in
set_option maxHeartbeats 2000000 in
theorem clone_any {p : Nat → Prop} (a : Addr) (c : Nat) (bs : List UInt8) (w : World) (hB : IsBytes p w (.slice (some a) bs.length c) bs) (hl : bs.length ≤ 1000000) : Calls Tryd.prog 42 #[.slice (some a) bs.length c] w (Fresh w bs) := by
  have q22 : ∀ (w : World) (a : Option Addr) (n c n' c' : Nat), (binOp .eql 22 (.slice a n c) (.slice none n' c')).run Tryd.prog w = .ok (.bool a.isNone) w := fun w a n c n' c' => Lib.run_eql_slice_nil w _ _ a n c n' c' Tryd.underlying22
  have hown := World.ownsRow_made (base := w.heap.size) (e := 5) (size := 1) w #[] 0 (Nat.le_refl _) (Nat.zero_le _) rfl
  have hsrc := hB.below ((Below.refl w.heap.size w).alloc (Nat.le_refl _) (.cells #[] 5))
  go_enter Tryd.func42, Tryd.ntmps42
  go_wp2_with (refine wpList_append_bytes rfl (.tmp 5) (.tmp 6) rfl w.heap.size _ _ [] bs rfl hown rfl hsrc (by simp; omega) (by simp) ?_)
  intro v' w1 ho hg
  have hb : Below w.heap.size w w1 := owns_below_of hown ((Below.refl w.heap.size w).alloc (Nat.le_refl _) (.cells #[] 5)) hg
  have HO := Lib.hid ho
  have HB := Lib.hid hb
  clear ho hg hb hown hsrc
  go_wp2_with fail
  go_ret
  exact ⟨v', rfl, by simpa using HO.out, HB.out⟩

/-- What TellBytes answers. -/
def bytesO (port : Nat) (y : List UInt8) : Outs := if y = [] then [] else [(port, y)]
def TellsOut' (w : World) (L : Outs) (e : Ending) (w' : World) : Prop := ∃ v, e = .returned v ∧ OwnOuts w.heap.size w' v L ∧ Below w.heap.size w w'
set_option maxRecDepth 100000 in
set_option maxHeartbeats 1000000 in
theorem tellBytes_any {p : Nat → Prop} (port : Nat) (v : Value) (y : List UInt8) (w : World) (hB : IsBytes p w v y) (hl : y.length ≤ 1000000) :
    Calls Tryd.prog 39 #[.int .i64 port, v] w (TellsOut' w (bytesO port y)) := by
  by_cases hy : y = []
  · subst hy
    obtain ⟨a, c, rfl, -, -⟩ := hB
    go_enter Tryd.func39, Tryd.ntmps39
    go_wp2_with fail
    go_ret
    exact ⟨_, rfl, OwnOuts.nil _ _, Below.refl _ _⟩
  · have hlen : 1 ≤ y.length := List.length_pos_iff.2 hy
    have hO : bytesO port y = [(port, y)] := by rw [bytesO, if_neg hy]
    rw [hO]
    obtain ⟨a, c, rfl, -, hc⟩ := id hB
    obtain ⟨b0, r, hyr⟩ := List.exists_cons_of_ne_nil hy
    obtain ⟨gb, off, rfl, -, -⟩ := hc 0 b0 (by rw [hyr]; rfl)
    have HC := Lib.hid (clone_any _ c y w hB hl)
    have q1 : ((y.length : Int) == 0) = false := by simp; omega
    clear hc hB hO hyr hy hlen
    go_enter Tryd.func39, Tryd.ntmps39
    go_wp2_with fail
    refine HC.out.mono ?_
    rintro e w1 ⟨bv, rfl, ho, hb⟩
    obtain ⟨a, c, rfl⟩ := owns_slice ho
    have HO := Lib.hid ho
    have HB := Lib.hid hb
    clear ho hb
    go_wp2_with fail
    go_ret
    refine ⟨_, rfl, ⟨[((port, y), .slice a y.length c)], rfl, World.ownsRow_lit w1 #[.int .i64 port, .slice a y.length c] 1 HB.out.size (by decide) rfl, ?_⟩, HB.out.alloc HB.out.size _⟩
    intro t ht
    rw [List.mem_singleton.1 ht]
    have h1 := isBytes_of_owns HO.out
    refine ((h1.mono (q := fun k => w.heap.size ≤ k ∧ k < w1.heap.size) (fun k hk h => ⟨h, hk⟩)).below ((Below.refl _ _).alloc (Nat.le_refl _) _)).mono (fun k _ h => ⟨h.1, ?_⟩)
    simp [Value.ownBlock]
    omega
theorem bytesO_ok {port : Nat} {y : List UInt8} (hp : port ≤ 3) (hy : y.length ≤ 1024) : OutsOk (bytesO port y) := by
  unfold bytesO
  split
  · exact ⟨(fun t ht => by cases ht), (fun t ht => by cases ht), by decide⟩
  · rename_i hne
    exact ⟨fun t ht => by rw [List.mem_singleton.1 ht]; exact hp, fun t ht => by rw [List.mem_singleton.1 ht]; exact hne, by simp [outSum]; omega⟩

end Go.Proofs.YtnodnbinfhildaaDoor
