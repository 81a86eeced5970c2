/- What slices.Clone, chunk and Pop do. -/
import Derived.Test.YtgipgeeiibkjjaaPushes
namespace Go.Proofs.Ytgipgeeiibkjjaa
open Go.RowKit

/-- The call answers a slice of its own that holds these bytes; what lay before it lies as it lay. -/
def Fresh (w : World) (bs : List UInt8) (e : Ending) (w' : World) : Prop :=
  ∃ v, e = .returned v ∧ w'.ownsRow w.heap.size 5 1 v bs.length (bytesL bs) ∧ Below w.heap.size w w'

theorem src_alloc {w : World} {ad : Addr} {bs : List UInt8} (hB : ∀ j x, bs[j]? = some x → w.cell? (ad.add j) = some (.int .u8 x.toNat)) (o : Obj) :
    ∀ j u, (bytesL bs)[j]? = some u → (w.alloc o).cell? (ad.add j) = some u := fun j u hu => by
  obtain ⟨x, hx, rfl⟩ := bytesL_get hu
  exact cell_below ((Below.refl _ _).alloc (Nat.le_refl _) _) (hB j x hx)

theorem Try.info5 : (Try.prog.info? 5).map (fun i => (i.zero, i.size, i.bytes)) = some (some (.int .u8 0), 1, 1) := by kernel_rfl

set_option maxRecDepth 100000 in
set_option maxHeartbeats 400000 in
theorem clone_any (ad : Addr) (n cap : Nat) (bs : List UInt8) (w : World) (hn : n = bs.length) (hB : ∀ j x, bs[j]? = some x → w.cell? (ad.add j) = some (.int .u8 x.toNat)) (hs : n ≤ 1000000) :
    Calls Try.prog 30 #[.slice (some ad) n cap] w (Fresh w bs) := by
  obtain ⟨i0, hi, hz0, hz1, hz2⟩ := info_parts Try.info5
  have hnil := fun W => Lib.run_eql_slice_nil (P := Try.prog) W 42 5 (some ad) n cap 0 0 Try.underlying42
  have HN := Lib.hid hn
  clear hn
  go_enter Try.func30, Try.ntmps30
  go_wp2_with (at_builtin; refine wpList_append_own _ rfl (.tmp 5) (.tmp 6) 42 rfl w.heap.size 5 i0 (.int .u8 0) 1 1 Try.underlying42 hi hz0 hz1 hz2 rfl (by decide) _ 0 [] rfl (World.ownsRow_made w #[] 0 (Nat.le_refl _) (by decide) rfl) ad n cap (bytesL bs) rfl (by rw [length_bytesL, HN.out]; omega) (src_alloc hB _) (one_bytesL bs) (by unfold maxLen; omega) (by omega) (by simp) ?_; intro v1 w1 hown hgrow _)
  go_ret
  exact ⟨v1, rfl, by rw [← HN.out]; simpa using hown, ((Below.refl _ _).alloc (Nat.le_refl _) _).grown hgrow (by simp) (fun k e => by cases e; exact Nat.le_refl _)⟩

end Go.Proofs.Ytgipgeeiibkjjaa
