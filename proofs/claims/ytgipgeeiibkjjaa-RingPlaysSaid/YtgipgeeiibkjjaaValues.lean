/- RingValues: the walk. -/
import Derived.Test.YtgipgeeiibkjjaaAwake
import Derived.Deep.RegionHeld3
import Derived.Deep.DeepCutAuto
namespace Go.Proofs.Ytgipgeeiibkjjaa
open Go.RowKit

theorem IsCalls.below {w w' : World} {v : Value} {l : List Call} (h : IsCalls w v l) (hb : Below w.heap.size w w') : IsCalls w' v l := by
  rcases h with h | ⟨b, off, cap, rfl, hc⟩
  · exact .inl h
  · exact .inr ⟨b, off, cap, rfl, hc.below hb⟩

/-- What the reading of the arguments bears. -/
structure Sized (l : List Call) : Prop where
  len : l.length ≤ 140737488355328
  each : ∀ x ∈ l, x.bytes.length ≤ 140737488355328

theorem below2 (w : World) (o1 o2 : Obj) : Below w.heap.size w ((w.alloc o1).alloc o2) := ((Below.refl _ _).alloc (Nat.le_refl _) _).alloc (by simp) _

set_option maxRecDepth 100000 in
set_option maxHeartbeats 1600000 in
theorem values_no (c : Int) (va vb : Value) (la lb : List Call) (w : World) (hc : c < 1 ∨ 8 < c) (hA : IsCalls w va la) (hB : IsCalls w vb lb) (sA : Sized la) (sB : Sized lb) :
    Calls Try.prog 5 #[.int .i64 c, va, vb] w (TrueBelow w) := by
  have hz := Try.zero30
  have HA := Lib.hid (hA.below (below2 w (.cells (ringA 0 []) 30) (.cells (ringA 0 []) 30)))
  have HB := Lib.hid (hB.below (below2 w (.cells (ringA 0 []) 30) (.cells (ringA 0 []) 30)))
  have HC := Lib.hid hc
  clear hA hB hc
  go_enter Try.func5, Try.ntmps5
  go_wp2_with fail
  refine (new_no c _ HC.out).mono ?_
  rintro e w' ⟨rfl, rfl⟩
  go_wp2_with (with_reducible refine wpList_store_at rfl 30 (.tmp 7) (.tmp 17) rfl (ringA 0 []) (ringA 0 []) 30 (w.heap.size + 1) (by simp) rfl rfl 266 Try.size30 size_zero size_zero (one_ringA _ _) ?_)
  refine (few_any va la _ HA.out sA.len sA.each).mono ?_
  rintro e w' ⟨b1, rfl, _, rfl⟩
  cases b1
  · go_wp2_with fail
    refine (awake_true _).mono ?_
    rintro e w' ⟨rfl, hb⟩
    go_wp2_with fail
    go_ret
    exact ⟨rfl, (below2 w _ _).trans (hb.mono (by simp; omega))⟩
  · go_wp2_with fail
    refine (few_any vb lb _ HB.out sB.len sB.each).mono ?_
    rintro e w' ⟨b2, rfl, _, rfl⟩
    cases b2
    all_goals
      go_wp2_with fail
      refine (awake_true _).mono ?_
      rintro e w' ⟨rfl, hb⟩
      go_wp2_with fail
      go_ret
      exact ⟨rfl, (below2 w _ _).trans (hb.mono (by simp; omega))⟩

end Go.Proofs.Ytgipgeeiibkjjaa
