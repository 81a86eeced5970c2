/- A world for the witnesses: the table holds what its initialiser lays. -/
import Derived.Test.YtdneopolcehgmaaDoorOpen
import Derived.Test.YtdneopolcehgmaaDoorCards
import Derived.Test.YtdneopolcehgmaaDoorTie
namespace Go.Proofs.YtdneopolcehgmaaDoor
open Go.ChangeShapes Go.WideShapes Go.ChangeAt Go.RowKit Go.Deep

def tabA : Array Value := (tabL.map iv).toArray
noncomputable def laidWorld (os : Os) : World :=
  { World.holding Tryd.prog os ⟨#[], #[], []⟩ with heap := (World.holding Tryd.prog os ⟨#[], #[], []⟩).heap.modify 0 fun
      | .cells _ t frozen => .cells tabA t frozen
      | o => o }
/-- Parameters of nothing. -/
def noneV : Value := .agg #[.int .i64 0, .int .i64 0, .slice none 0 0, .slice none 0 0]

end Go.Proofs.YtdneopolcehgmaaDoor
