/- What intake.Bytes' calls do: those that are refused, End, Held. -/
import Derived.Test.YtnodnbinfhildaaDoorTellBytes
import Derived.Test.YtnodnbinfhildaaDoorIA
namespace Go.Proofs.YtnodnbinfhildaaDoor
open Go.RowKit

set_option maxRecDepth 100000 in
set_option maxHeartbeats 1000000 in
theorem inFeed_no (g : Nat) (n : Int) (port : Int) (a : Option Addr) (l c : Nat) (w : World) (hn : w.cell? ⟨g, 0, none⟩ = some (.int .i64 n)) (hE : feedE n port l ≠ 0) :
    Calls Tryd.prog 67 #[.pointer (some ⟨g, 0, none⟩), .int .i64 port, .slice a l c] w (Says w (.tuple #[.slice none 0 0, .int .i64 (feedE n port l)])) := by
  have HN := Lib.hid hn
  obtain ⟨E, hE2⟩ : ∃ E, E = feedE n port l := ⟨_, rfl⟩
  rw [← hE2] at hE ⊢
  have HE := Lib.hid hE2
  have g1 : (E != 0) = true := by simpa using hE
  clear hn hE hE2
  go_enter Tryd.func67, Tryd.ntmps67
  go_wp2_with fail
  refine (mayFeed_any port a l c HN.out).mono ?_
  rintro e w' ⟨rfl, rfl⟩
  rw [← HE.out]
  go_wp2
  go_ret2
  exact ⟨rfl, rfl⟩

set_option maxRecDepth 100000 in
set_option maxHeartbeats 1000000 in
theorem inEnd_no (g : Nat) (n : Int) (port : Int) (w : World) (hn : w.cell? ⟨g, 0, none⟩ = some (.int .i64 n)) (hE : endE n port ≠ 0) :
    Calls Tryd.prog 72 #[.pointer (some ⟨g, 0, none⟩), .int .i64 port] w (Says w (.tuple #[.slice none 0 0, .int .i64 (endE n port)])) := by
  have HN := Lib.hid hn
  obtain ⟨E, hE2⟩ : ∃ E, E = endE n port := ⟨_, rfl⟩
  rw [← hE2] at hE ⊢
  have HE := Lib.hid hE2
  have g1 : (E != 0) = true := by simpa using hE
  clear hn hE hE2
  go_enter Tryd.func72, Tryd.ntmps72
  go_wp2_with fail
  refine (mayEnd_any port HN.out).mono ?_
  rintro e w' ⟨rfl, rfl⟩
  rw [← HE.out]
  go_wp2
  go_ret2
  exact ⟨rfl, rfl⟩

set_option maxRecDepth 100000 in
set_option maxHeartbeats 1000000 in
theorem inEnd_yes (g : Nat) (n : Int) (w : World) (hn : w.cell? ⟨g, 0, none⟩ = some (.int .i64 n)) (hf : w.frozen? ⟨g, 0, none⟩ = false) (h0 : 0 ≤ n) :
    Calls Tryd.prog 72 #[.pointer (some ⟨g, 0, none⟩), .int .i64 n] w fun e w' => e = .returned (.tuple #[.slice none 0 0, .int .i64 0]) ∧ w' = w.setCell ⟨g, 0, none⟩ (.int .i64 (-1)) := by
  have HN := Lib.hid hn
  have HF := Lib.hid hf
  have HE := Lib.hid (show endE n n = 0 by unfold endE; rw [if_neg (by omega), if_neg (by omega)])
  clear hn hf h0
  go_enter Tryd.func72, Tryd.ntmps72
  go_wp2_with fail
  refine (mayEnd_any n HN.out).mono ?_
  rintro e w' ⟨rfl, rfl⟩
  rw [HE.out]
  go_wp2_with fail
  refine (stop_any HN.out HF.out).mono ?_
  rintro e w2 ⟨rfl, rfl⟩
  go_wp2_with fail
  go_ret2
  exact ⟨rfl, rfl⟩

set_option maxRecDepth 100000 in
set_option maxHeartbeats 1000000 in
theorem inHeld_any (r : Value) (w : World) : Calls Tryd.prog 68 #[r] w (Says w (.int .i64 0)) := by
  go_enter Tryd.func68, Tryd.ntmps68
  go_wp2
  go_ret
  exact ⟨rfl, rfl⟩

end Go.Proofs.YtnodnbinfhildaaDoor
