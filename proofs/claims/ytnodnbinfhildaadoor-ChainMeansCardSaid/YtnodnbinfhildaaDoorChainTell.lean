/- What chain's own call does: it tells a chunk's bytes as they are; the machine in memory. -/
import Derived.Test.YtnodnbinfhildaaDoorTellBytes
namespace Go.Proofs.YtnodnbinfhildaaDoor
open Go.RowKit

set_option maxRecDepth 100000 in
set_option maxHeartbeats 1000000 in
theorem tellAll_any {p : Nat → Prop} (v : Value) (x : List UInt8) (w : World) (hX : IsBytes p w v x) (hl : x.length ≤ 1000000) : Calls Tryd.prog 28 #[v] w (TellsOut' w (bytesO 0 x)) := by
  have HT := Lib.hid (tellBytes_any 0 v x w hX hl)
  obtain ⟨ax, cx, rfl, -, -⟩ := hX
  go_enter Tryd.func28, Tryd.ntmps28
  go_wp2_with fail
  refine HT.out.mono ?_
  rintro e w1 ⟨v1, rfl, ho, hb⟩
  have HO := Lib.hid ho
  have HB := Lib.hid hb
  clear ho hb
  go_wp2_with fail
  go_ret
  exact ⟨v1, rfl, HO.out, HB.out⟩

/-! The machine. -/
def chainRow (N : Nat) (nd : Int) : Array Value := #[.int .i64 nd, .nilFunc, .func (.func 28) #[] #[], .int .i64 ((N : Int) - 1)]
def ChainAt (N : Nat) (nd : Int) (g : Nat) (w : World) : Prop := w.heap[g]? = some (.cells (chainRow N nd) 78 (0, 0))
theorem ChainAt.below {N : Nat} {nd : Int} {g : Nat} {w w' : World} (h : ChainAt N nd g w) (hb : Below w.heap.size w w') : ChainAt N nd g w' := (hb.block g (Array.getElem?_eq_some_iff.1 h).1).trans h

end Go.Proofs.YtnodnbinfhildaaDoor
