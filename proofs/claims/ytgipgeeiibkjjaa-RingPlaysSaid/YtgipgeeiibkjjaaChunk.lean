/- What chunk does. -/
import Derived.Test.YtgipgeeiibkjjaaClone
namespace Go.Proofs.Ytgipgeeiibkjjaa
open Go.RowKit

theorem ownsRow_base {w : World} {base base' : Nat} {e : TypeId} {size : Nat} {v : Value} {n : Nat} {xs : List Value} (h : w.ownsRow base e size v n xs) (hb : base' ≤ base) : w.ownsRow base' e size v n xs := by
  obtain ⟨h1, h2⟩ := h
  refine ⟨h1, ?_⟩
  rcases h2 with h2 | ⟨g, cap, cur, h3, h4, h5⟩
  · exact .inl h2
  · exact .inr ⟨g, cap, cur, h3, Nat.le_trans hb h4, h5⟩

theorem Fresh.down {w0 w : World} {bs : List UInt8} {e : Ending} {w' : World} (h : Fresh w bs e w') (hb : Below w0.heap.size w0 w) : Fresh w0 bs e w' := by
  obtain ⟨v, rfl, ho, hB⟩ := h
  exact ⟨v, rfl, ownsRow_base ho hb.size, hb.trans (hB.mono hb.size)⟩

theorem cellL_0 (bs : List UInt8) : (cellL bs).toArray[0]? = some (.int .i64 bs.length) := by simp [cellL]
theorem cellL_at (bs : List UInt8) (j : Nat) (x : UInt8) (h : bs[j]? = some x) : (cellL bs).toArray[1 + j]? = some (.int .u8 x.toNat) := by
  have hj : j < bs.length := (List.getElem?_eq_some_iff.1 h).1
  rw [Nat.add_comm]
  simp only [cellL, List.getElem?_toArray, List.getElem?_cons_succ]
  rw [List.getElem?_append_left (by rw [length_bytesL]; exact hj), bytesL, List.getElem?_map, h]
  rfl

set_option maxRecDepth 100000 in
set_option maxHeartbeats 400000 in
theorem chunk_any (bs : List UInt8) (w : World) (h : bs.length ≤ 32) : Calls Try.prog 27 #[.agg (cellL bs).toArray] w (Fresh w bs) := by
  have c0 := cellL_0 bs
  obtain ⟨C, hC⟩ : ∃ C, C = (cellL bs).toArray := ⟨_, rfl⟩
  rw [← hC] at c0 ⊢
  have HC := Lib.hid hC
  clear hC
  have g1 : (0 : Int) ≤ (bs.length : Int) := by omega
  have g2 : (bs.length : Int) ≤ 32 := by omega
  go_enter Try.func27, Try.ntmps27
  go_wp2_with fail
  refine (clone_any ⟨w.heap.size, 1, none⟩ bs.length 32 bs _ rfl ?_ (by omega)).mono ?_
  · intro j x hx
    rw [Addr.add_mid, cell_of_row _ _ _ C 27 (0, 0) (heap_alloc_last w _), HC.out]
    exact cellL_at bs j x hx
  · intro e w1 hF
    have hF' := hF.down ((Below.refl _ _).alloc (Nat.le_refl _) _)
    obtain ⟨v, rfl, ho, hb⟩ := hF'
    clear hF
    go_wp2_with fail
    go_ret
    exact ⟨v, rfl, ho, hb⟩

end Go.Proofs.Ytgipgeeiibkjjaa
