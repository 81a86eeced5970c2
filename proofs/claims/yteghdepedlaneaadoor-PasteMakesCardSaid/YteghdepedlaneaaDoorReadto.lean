/- What the reader's Read does. -/
import Derived.Test.YteghdepedlaneaaDoorIA
namespace Go.Proofs.YteghdepedlaneaaDoor
open Go.RowKit

set_option maxRecDepth 100000 in
set_option maxHeartbeats 400000 in
theorem read_any {g o : Nat} {n : Int} {w : World} (port : Int) (h : w.cell? ⟨g, o, none⟩ = some (.int .i64 n)) (hf : w.frozen? ⟨g, o, none⟩ = false) :
    Calls Tryd.prog 52 #[.pointer (some ⟨g, o, none⟩), .int .i64 port] w fun e w' => e = .returned (.tuple #[]) ∧ w' = w.setCell ⟨g, o, none⟩ (.int .i64 port) := by
  go_enter Tryd.func52, Tryd.ntmps52
  go_wp2
  go_returns
  exact ⟨rfl, rfl⟩

end Go.Proofs.YteghdepedlaneaaDoor
