/- What TellPieces does. -/
import Derived.Test.YtpgigpajpcianaaGreatDoorIA
namespace Go.Proofs.YtpgigpajpcianaaGreatDoor
open Go.RowKit

set_option maxRecDepth 100000 in
set_option maxHeartbeats 400000 in
theorem tellPieces_any {g o : Nat} {n : Int} {w : World} (h : w.cell? ⟨g, o, none⟩ = some (.int .i64 n)) (hf : w.frozen? ⟨g, o, none⟩ = false) :
    Calls Tryz.prog 110 #[.pointer (some ⟨g, o, none⟩)] w fun e w' => e = .returned (.tuple #[]) ∧ w' = w.setCell ⟨g, o, none⟩ (.int .i64 (-2)) := by
  go_enter Tryz.func110, Tryz.ntmps110
  go_wp2
  go_returns
  exact ⟨rfl, rfl⟩

end Go.Proofs.YtpgigpajpcianaaGreatDoor
