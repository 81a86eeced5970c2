/- What the law's own lines does. -/
import Derived.Test.YteghdepedlaneaaDoorDenote
import Derived.Test.YteghdepedlaneaaDoorGlaws
import Derived.Outline
import Derived.Test.YteghdepedlaneaaDoorRA
namespace Go.Proofs.YteghdepedlaneaaDoor
open Go.RowKit

theorem owns_cap {W : World} {b : Nat} {e : TypeId} {size n lc : Nat} {xs : List Value} {la : Option Addr} (h : W.ownsRow b e size (.slice la n lc) n xs) : n ≤ lc := by
  rcases h.2 with ⟨-, h2⟩ | ⟨g, cap, cur, hv, -, -, hc, -⟩
  · omega
  · injection hv
    omega
/-- The lines of an input that has ended; whether none is too long. -/
def LinesOf (w : World) (x : List UInt8) (e : Ending) (w' : World) : Prop :=
  ∃ la lc, e = .returned (.tuple #[.slice la (readL x true (0, 0, 0)).1.length lc, .bool (readL x true (0, 0, 0)).2.1]) ∧ (readL x true (0, 0, 0)).1.length ≤ lc ∧ IsTexts (w.heap.size ≤ ·) w' (.slice la (readL x true (0, 0, 0)).1.length lc) (readL x true (0, 0, 0)).1 ∧ Below w.heap.size w w'

set_option maxRecDepth 100000 in
set_option maxHeartbeats 4000000 in
theorem linesOf_any {p : Nat → Prop} (bv : Value) (x : List UInt8) (w : World) (hB : IsBytes p w bv x) (hx : x.length ≤ 2000000) : Calls Tryd.prog 24 #[bv] w (LinesOf w x) := by
  have hlines := lines_any bv x true 0 0 0 w hB hx
  unfold LinesOf
  obtain ⟨L, all, x1, x2, x3, hr⟩ : ∃ L all x1 x2 x3, readL x true (0, 0, 0) = (L, all, x1, x2, x3) := ⟨_, _, _, _, _, rfl⟩
  unfold ReadEnd at hlines
  rw [hr] at hlines ⊢
  simp only [readV] at hlines ⊢
  have HL := Lib.hid hlines
  obtain ⟨ab, cb, rfl, -, -⟩ := hB
  clear hlines hr
  go_enter Tryd.func24, Tryd.ntmps24
  go_wp2_with fail
  refine HL.out.mono ?_
  rintro e w1 ⟨lv, rfl, hown, hb1⟩
  obtain ⟨la, lc, rfl⟩ := Pm.owns_slice hown
  have hcap := owns_cap hown
  have HTx := Lib.hid (isTexts_of_owns hown)
  have HB1 := Lib.hid hb1
  have hs1 := hb1.size
  clear hown hb1
  go_upto_region 2 with fail
  have hrow := heap_alloc_last w1 (.cells #[.slice la L.length lc, .bool all, .int .i64 x1, .int .i64 x2, .int .i64 x3] 95)
  have hal : Below w1.heap.size w1 (w1.alloc (.cells #[.slice la L.length lc, .bool all, .int .i64 x1, .int .i64 x2, .int .i64 x3] 95)) := (Below.refl _ _).alloc (Nat.le_refl _) _
  change Code.wp _ _ _ _ (w1.alloc (.cells #[.slice la L.length lc, .bool all, .int .i64 x1, .int .i64 x2, .int .i64 x3] 95))
  generalize w1.alloc (.cells #[.slice la L.length lc, .bool all, .int .i64 x1, .int .i64 x2, .int .i64 x3] 95) = W2 at hrow hal ⊢
  refine region_stillG (by kernel_rfl) (by kernel_rfl) ?_
  have hrd : W2.drew.heap[w1.heap.size]? = _ := hrow
  have hbd := hal.drew
  generalize W2.drew = W3 at hrd hbd ⊢
  have k0 : W3.cell? ⟨w1.heap.size, 0, none⟩ = some (.slice la L.length lc) := by rw [cell_of_row _ _ _ _ _ _ hrd]; rfl
  have k1 : W3.cell? ⟨w1.heap.size, 1, none⟩ = some (.bool all) := by rw [cell_of_row _ _ _ _ _ _ hrd]; rfl
  have HBD := Lib.hid hbd
  clear hrow hrd hal hbd
  repeat (refine stillG_step (fun K hK => ?_); go_simp; refine hK.out _ ?_; clear hK K)
  refine stillG_nil ?_
  clear k0 k1
  go_wp2_with fail
  go_ret2
  exact ⟨la, lc, rfl, hcap, HTx.out.below HBD.out, HB1.out.trans (HBD.out.mono hs1)⟩

end Go.Proofs.YteghdepedlaneaaDoor
