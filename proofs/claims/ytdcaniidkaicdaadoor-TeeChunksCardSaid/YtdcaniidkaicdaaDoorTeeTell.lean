/- What tee's own call does: it tells a chunk's bytes to each output; the machine in memory. -/
import Derived.Test.YtdcaniidkaicdaaDoorTeePlain
namespace Go.Proofs.YtdcaniidkaicdaaDoor
open Go.RowKit

def teeRow (N : Nat) (nd : Int) (g : Nat) : Array Value := #[.int .i64 nd, .nilFunc, .func (.func 28) #[.pointer (some ⟨g, 0, none⟩)] #[], .int .i64 N]
def TeeAt (N : Nat) (nd : Int) (g : Nat) (w : World) : Prop := w.heap[g]? = some (.cells (teeRow N nd g) 78 (0, 0))
theorem TeeAt.below {N : Nat} {nd : Int} {g : Nat} {w w' : World} (h : TeeAt N nd g w) (hb : Below w.heap.size w w') : TeeAt N nd g w' := (hb.block g (Array.getElem?_eq_some_iff.1 h).1).trans h

set_option maxRecDepth 100000 in
set_option maxHeartbeats 2000000 in
theorem tellEach_any (N : Nat) (nd : Int) (g : Nat) (v : Value) (x : List UInt8) {p : Nat → Prop} (w : World) (h : TeeAt N nd g w) (hX : IsBytes p w v x) (hx : x.length ≤ 32) (hN : N ≤ 4) :
    Calls Tryd.prog 28 #[.pointer (some ⟨g, 0, none⟩), v] w (TellsOut' w (teeO N x)) := by
  obtain ⟨ax, cx, rfl, -, -⟩ := id hX
  have HX := Lib.hid (show ∀ W, Below w.heap.size w W → IsBytes p W (.slice ax x.length cx) x from fun W hb => hX.below hb)
  have c3 : w.cell? ⟨g, 3, none⟩ = some (.int .i64 N) := by rw [cell_of_row _ _ _ _ _ _ h]; rfl
  clear h hX
  go_enter Tryd.func28, Tryd.ntmps28
  go_wp2_with fail
  clear c3
  go_loopw [5, 11] (fun ov iv wr => ∃ (k : Nat) (u : Value), u = ov ∧ iv = .int .i64 k ∧ k ≤ N ∧ OwnOuts w.heap.size wr u (teeO k x) ∧ Below w.heap.size w wr) (fun _ i _ => N - (intOf i).toNat)
  case atStart => exact ⟨0, _, rfl, rfl, Nat.zero_le _, OwnOuts.nil _ _, Below.refl _ _⟩
  case round =>
    obtain ⟨k, u, rfl, rfl, hk, ho, hb⟩ := hrel
    have hle := (teeO_le k x).1
    obtain ⟨ua, uc, rfl⟩ := ho.slice
    have HO := Lib.hid ho
    have HB := Lib.hid hb
    have hsz := hb.size
    by_cases hlt : k < N
    · have q1 : (k : Int) < (N : Int) := by omega
      have HT := Lib.hid (tellBytes_any k (.slice ax x.length cx) x wr (HX.out _ hb) (by omega))
      clear ho hb
      go_wp2_with fail
      refine HT.out.mono ?_
      rintro e w1 ⟨v1, rfl, ho1, hb1⟩
      have hsz1 := hb1.size
      have HO0 := Lib.hid (HO.out.below hb1)
      have HLt := Lib.hid HO.out.lt
      have HO1 := Lib.hid ho1
      have hbl : (bytesO k x).length ≤ 1 := by unfold bytesO; split <;> simp
      have HBw1 := Lib.hid (HB.out.trans (hb1.mono HB.out.size))
      clear ho1 hb1
      go_wp2_with (at_builtin; refine wpList_append_outs rfl (.tmp 14) (.tmp 17) rfl (base := w.heap.size) (base2 := wr.heap.size) (v := .slice ua (teeO k x).length uc) (vs := v1) (L := teeO k x) rfl HO0.out rfl HO1.out (by omega) hsz hsz1 (fun j e => (HLt.out j e).2) ?_; intro v2 w2 ho2 hg2 _; have HO2 := Lib.hid ho2; have HG2 := Lib.hid hg2; clear ho2 hg2)
      have hb2 : Below w.heap.size w w2 := HBw1.out.grown HG2.out HBw1.out.size (fun j e => (HLt.out j e).1)
      have HB2 := Lib.hid hb2
      have HO3 := Lib.hid (show OwnOuts w.heap.size w2 v2 (teeO (k + 1) x) by rw [teeO_succ]; exact HO2.out)
      clear hb2
      go_roundw
      case rel => exact ⟨k + 1, _, rfl, by go_num, by omega, HO3.out, HB2.out⟩
      case measure => simp [intOf]; omega
    · obtain rfl : k = N := by omega
      have q1 : ¬ (k : Int) < (k : Int) := by omega
      clear ho hb
      go_wp2_with fail
      go_ret
      exact ⟨_, rfl, HO.out, HB.out⟩

end Go.Proofs.YtdcaniidkaicdaaDoor
