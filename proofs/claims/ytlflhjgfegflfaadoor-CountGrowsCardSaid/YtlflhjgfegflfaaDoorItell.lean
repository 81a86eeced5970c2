/- What intake.Tell does. -/
import Derived.Test.YtlflhjgfegflfaaDoorLjoin
import Derived.Test.YtlflhjgfegflfaaDoorDA
import Derived.Outline
import Derived.Laws.OwnMore
namespace Go.Proofs.YtlflhjgfegflfaaDoor
open Go.RowKit

def TellsOut (w : World) (L : Outs) (e : Ending) (w' : World) : Prop := ∃ v, e = .returned v ∧ OwnOuts w.heap.size w' v L ∧ Below w.heap.size w w'

set_option maxRecDepth 100000 in
set_option maxHeartbeats 1000000 in
/-- Of no lines nothing is told. -/
theorem tellLines_any (port : Nat) (v : Value) (L : Lines) (w : World) (hT : IsTexts (fun _ => True) w v L) (hl : L.length ≤ 1000000) (hx : (joinL L).length ≤ 1000000) :
    Calls Tryd.prog 86 #[.int .i64 port, v] w (TellsOut w (if L = [] then [] else [(port, joinL L)])) := by
  have HT := Lib.hid hT
  obtain ⟨la, lc, rfl, -⟩ := hT
  by_cases h0 : L = []
  · subst h0
    rw [if_pos rfl]
    simp only [List.length_nil]
    clear HT hl hx
    go_enter Tryd.func86, Tryd.ntmps86
    go_wp2_with fail
    go_ret
    exact ⟨_, rfl, OwnOuts.nil _ _, Below.refl _ _⟩
  · rw [if_neg h0]
    have q1 : ((L.length : Int) == 0) = false := by have := List.length_pos_iff.2 h0; simp; omega
    obtain ⟨y, hy⟩ : ∃ y, y = joinL L := ⟨_, rfl⟩
    rw [← hy] at hx ⊢
    have HJ := Lib.hid hy
    have HC := Lib.hid (join_any _ L w HT.out hl (by rw [← hy]; omega))
    clear hy h0 HT hl
    go_enter Tryd.func86, Tryd.ntmps86
    go_wp2_with fail
    refine HC.out.mono ?_
    rintro e w1 ⟨bv, rfl, ho, hb⟩
    rw [← HJ.out] at ho
    obtain ⟨a, c, rfl⟩ := owns_slice ho
    have HO := Lib.hid ho
    have HB := Lib.hid hb
    clear ho hb
    go_wp2_with fail
    go_ret
    refine ⟨_, rfl, ⟨[((port, y), .slice a y.length c)], rfl, World.ownsRow_lit w1 #[.int .i64 port, .slice a y.length c] 1 HB.out.size (by decide) rfl, ?_⟩, HB.out.alloc HB.out.size _⟩
    intro t ht
    rw [List.mem_singleton.1 ht]
    have h1 := isBytes_of_owns HO.out
    refine ((h1.mono (q := fun k => w.heap.size ≤ k ∧ k < w1.heap.size) (fun k hk h => ⟨h, hk⟩)).below ((Below.refl _ _).alloc (Nat.le_refl _) _)).mono (fun k _ h => ⟨h.1, ?_⟩)
    simp [Value.ownBlock]
    omega
theorem tellOut_wide (port : Nat) (v : Value) (x : List UInt8) (w : World) (hT : IsTexts (fun _ => True) w v [x]) (hx : x.length ≤ 1000) :
    Calls Tryd.prog 86 #[.int .i64 port, v] w (TellsOut w [(port, x ++ [10])]) := by
  have := tellLines_any port v [x] w hT (by simp) (by simp [joinL]; omega)
  simpa [joinL] using this
theorem tellOut_any (port : Nat) (v : Value) (x : List UInt8) (w : World) (hT : IsTexts (fun _ => True) w v [x]) (hx : x.length ≤ 64) :
    Calls Tryd.prog 86 #[.int .i64 port, v] w (TellsOut w [(port, x ++ [10])]) := tellOut_wide port v x w hT (Nat.le_trans hx (by decide))
/-- A text in memory that was just made. -/
theorem text_new (w : World) (x : List UInt8) (S : ByteArray) (hS : strV x = .string S) (m : Nat × Nat) : IsTexts (fun _ => True) (w.alloc (.cells #[.string S] 9 m)) (.slice (some ⟨w.heap.size, 0, none⟩) 1 1) [x] := by
  refine ⟨_, 1, rfl, fun j c hj => ⟨_, _, rfl, trivial, ?_⟩⟩
  match j, hj with
  | 0, hj =>
    simp at hj
    subst hj
    rw [hS, Nat.zero_add, cell_of_row _ _ _ _ _ _ (heap_alloc_last w _)]
    rfl
  | j + 1, hj => simp at hj

end Go.Proofs.YtlflhjgfegflfaaDoor
