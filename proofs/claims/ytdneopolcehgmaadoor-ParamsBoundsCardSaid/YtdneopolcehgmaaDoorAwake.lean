/- The chapter's examples hold: awake answers true. -/
import Derived.Test.YtdneopolcehgmaaDoorArity
namespace Go.Proofs.YtdneopolcehgmaaDoor
open Go.RowKit

theorem bytes_nil (w : World) : IsBytes w (.slice none 0 0) [] := ⟨none, 0, rfl, Nat.le_refl _, fun j c hj => by simp at hj⟩
theorem bytes_one (w : World) (c : UInt8) (m : Nat × Nat) : IsBytes (w.alloc (.cells #[.int .u8 c.toNat] 5 m)) (.slice (some ⟨w.heap.size, 0, none⟩) 1 1) [c] := by
  refine ⟨_, 1, rfl, Nat.le_refl _, fun j d hj => ⟨_, _, rfl, ?_⟩⟩
  rw [Nat.zero_add, cell_of_row _ _ _ _ _ _ (heap_alloc_last w _)]
  cases j with
  | zero => simp at hj; subst hj; rfl
  | succ j => simp at hj

theorem bound_31 : boundE 4 31 [] [] = 2048 ∧ checkE 4 31 [] [] = 0 ∧ checkE 4 32 [] [] = 12 ∧ boundE 4 32 [] [] = 0 ∧ insE 13 3 [58] [] = 3 ∧ outsE 13 3 [58] [] = 1 ∧ checkE 13 3 [58] [] = 0 ∧ checkE 0 0 [] [] = 10 := by decide

set_option maxRecDepth 100000 in
set_option maxHeartbeats 1000000 in
theorem awake_true (w : World) (hT : Tab w) : Calls Tryd.prog 8 #[] w (Gives w (.bool true)) := by
  obtain ⟨b1, b2, b3, b4, b5, b6, b7, b8⟩ := bound_31
  have B1 := Lib.hid b1
  have B2 := Lib.hid b2
  have B3 := Lib.hid b3
  have B4 := Lib.hid b4
  have B5 := Lib.hid b5
  have B6 := Lib.hid b6
  have B7 := Lib.hid b7
  have B8 := Lib.hid b8
  clear b1 b2 b3 b4 b5 b6 b7 b8
  have HT := Lib.hid (show ∀ W, Below w.heap.size w W → Tab W from fun W hb => hT.below hb)
  clear hT
  go_enter Tryd.func8, Tryd.ntmps8
  go_wp2_with fail
  refine (bound_any 4 31 (.slice none 0 0) (.slice none 0 0) [] [] w (HT.out _ (Below.refl _ _)) (bytes_nil _) (bytes_nil _)).mono ?_
  rintro e w1 ⟨rfl, hb1⟩
  rw [B1.out, B2.out]
  go_wp2_with fail
  refine (bound_any 4 32 (.slice none 0 0) (.slice none 0 0) [] [] w1 (HT.out _ hb1) (bytes_nil _) (bytes_nil _)).mono ?_
  rintro e w2 ⟨rfl, hb2'⟩
  rw [B3.out, B4.out]
  have hb2 := hb1.trans (hb2'.mono hb1.size)
  clear hb2' hb1
  have kc := Lib.run_convert_bytes_const (P := Tryd.prog) w2 22 5 #[.int .u8 58] 1 1 Tryd.underlying22 Tryd.underlying5
  go_wp2_with fail
  have hb3 : Below w.heap.size w (w2.alloc (.cells #[.int .u8 58] 5 (1, 2))) := hb2.alloc hb2.size _
  refine (arity_any 13 3 (.slice (some ⟨w2.heap.size, 0, none⟩) 1 1) (.slice none 0 0) [58] [] _ (HT.out _ hb3) (bytes_one w2 58 (1, 2)) (bytes_nil _)).mono ?_
  rintro e w3 ⟨rfl, hb4'⟩
  rw [B5.out, B6.out, B7.out]
  have hb4 := hb3.trans (hb4'.mono hb3.size)
  clear hb4' hb3 hb2 kc
  go_wp2_with fail
  refine (check_any 0 0 (.slice none 0 0) (.slice none 0 0) [] [] _ (HT.out _ hb4) (bytes_nil _) (bytes_nil _)).mono ?_
  rintro e w5 ⟨rfl, hb5'⟩
  rw [B8.out]
  have hb5 := hb4.trans (hb5'.mono hb4.size)
  clear hb5' hb4
  go_wp2_with fail
  go_ret
  exact ⟨rfl, hb5⟩

end Go.Proofs.YtdneopolcehgmaaDoor
