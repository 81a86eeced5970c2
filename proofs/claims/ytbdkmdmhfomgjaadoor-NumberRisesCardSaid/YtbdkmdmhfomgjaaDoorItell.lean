/- What intake.Tell does. -/
import Derived.Test.YtbdkmdmhfomgjaaDoorLjoin
import Derived.Test.YtbdkmdmhfomgjaaDoorDA
import Derived.Outline
import Derived.Laws.OwnMore
namespace Go.Proofs.YtbdkmdmhfomgjaaDoor
open Go.RowKit

def TellsOut (w : World) (L : Outs) (e : Ending) (w' : World) : Prop := ∃ v, e = .returned v ∧ OwnOuts w.heap.size w' v L ∧ Below w.heap.size w w'

set_option maxRecDepth 100000 in
set_option maxHeartbeats 1000000 in
theorem tellOut_wide (port : Nat) (v : Value) (x : List UInt8) (w : World) (hT : IsTexts (fun _ => True) w v [x]) (hx : x.length ≤ 1000) :
    Calls Tryd.prog 43 #[.int .i64 port, v] w (TellsOut w [(port, x ++ [10])]) := by
  have HT := Lib.hid hT
  obtain ⟨y, hy⟩ : ∃ y, y = x ++ [10] := ⟨_, rfl⟩
  rw [← hy]
  have hj : joinL [x] = y := by rw [hy]; simp [joinL]
  have hyl : y.length ≤ 1001 := by rw [hy]; simp; omega
  have HJ := Lib.hid hj
  clear hT hj hy
  go_enter Tryd.func43, Tryd.ntmps43
  go_wp2_with fail
  refine (join_any v [x] w HT.out (by simp) (by rw [HJ.out]; omega)).mono ?_
  rintro e w1 ⟨bv, rfl, ho, hb⟩
  rw [HJ.out] at ho
  obtain ⟨a, c, rfl⟩ := owns_slice ho
  have HO := Lib.hid ho
  have HB := Lib.hid hb
  clear ho hb
  go_wp2_with fail
  go_ret
  refine ⟨_, rfl, ⟨[((port, y), .slice a y.length c)], rfl, World.ownsRow_lit w1 #[.int .i64 port, .slice a y.length c] 1 HB.out.size (by decide) rfl, ?_⟩, HB.out.alloc HB.out.size _⟩
  intro t ht
  rw [List.mem_singleton.1 ht]
  have h1 := isBytes_of_owns HO.out
  refine ((h1.mono (q := fun k => w.heap.size ≤ k ∧ k < w1.heap.size) (fun k hk h => ⟨h, hk⟩)).below ((Below.refl _ _).alloc (Nat.le_refl _) _)).mono (fun k _ h => ⟨h.1, ?_⟩)
  simp [Value.ownBlock]
  omega
theorem tellOut_any (port : Nat) (v : Value) (x : List UInt8) (w : World) (hT : IsTexts (fun _ => True) w v [x]) (hx : x.length ≤ 64) :
    Calls Tryd.prog 43 #[.int .i64 port, v] w (TellsOut w [(port, x ++ [10])]) := tellOut_wide port v x w hT (Nat.le_trans hx (by decide))
/-- A text in memory that was just made. -/
theorem text_new (w : World) (x : List UInt8) (S : ByteArray) (hS : strV x = .string S) (m : Nat × Nat) : IsTexts (fun _ => True) (w.alloc (.cells #[.string S] 9 m)) (.slice (some ⟨w.heap.size, 0, none⟩) 1 1) [x] := by
  refine ⟨_, 1, rfl, fun j c hj => ⟨_, _, rfl, trivial, ?_⟩⟩
  match j, hj with
  | 0, hj =>
    simp at hj
    subst hj
    rw [hS, Nat.zero_add, cell_of_row _ _ _ _ _ _ (heap_alloc_last w _)]
    rfl
  | j + 1, hj => simp at hj

end Go.Proofs.YtbdkmdmhfomgjaaDoor
