/- A world for the witnesses: the table holds what its initialiser lays. -/
import Derived.Test.YtldhkjdaglpplaaDoorOpen
import Derived.Test.YtldhkjdaglpplaaDoorCards
import Derived.Test.YtldhkjdaglpplaaDoorTie
import Derived.ProofKit
import Derived.SizedLaws
import Derived.Carry
import Derived.OpenShut
import Derived.Lib.SmallJoins
import Derived.Deep.DeepHandedRow
namespace Go.Proofs.YtldhkjdaglpplaaDoor
open Go.ChangeShapes Go.WideShapes Go.ChangeAt Go.RowKit Go.Deep

def tabA : Array Value := (Pm.tabL.map Pm.iv).toArray
noncomputable def laidWorld (os : Os) : World :=
  { World.holding Tryd.prog os ⟨#[], #[], []⟩ with heap := (World.holding Tryd.prog os ⟨#[], #[], []⟩).heap.modify 0 fun
      | .cells _ t frozen => .cells tabA t frozen
      | o => o }
/-- Parameters of nothing. -/
def noneV : Value := .agg #[.int .i64 0, .int .i64 0, .slice none 0 0, .slice none 0 0]
def noneD {H : Type} : DataW H := .agg [.lit (.int .i64 0), .lit (.int .i64 0), .nil, .nil]

end Go.Proofs.YtldhkjdaglpplaaDoor
