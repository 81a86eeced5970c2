/- A world for the witnesses: the table holds what its initialiser lays. -/
import Derived.Test.YtlflhjgfegflfaaDoorOpen
import Derived.Test.YtlflhjgfegflfaaDoorCards
import Derived.Test.YtlflhjgfegflfaaDoorTie
import Derived.ProofKit
import Derived.SizedLaws
import Derived.Carry
import Derived.OpenShut
import Derived.Lib.SmallJoins
import Derived.Deep.DeepHandedRow
namespace Go.Proofs.YtlflhjgfegflfaaDoor
open Go.ChangeShapes Go.WideShapes Go.ChangeAt Go.RowKit Go.Deep

/-- The values of a table, cell by cell. -/
def leavesOf : Nat → DataW Unit → List Value
  | 0, _ => []
  | n + 1, .agg l => l.flatMap (leavesOf n)
  | _, .lit l => [l.value]
  | _, _ => []
/-- A block that holds them. -/
def withLeaves (vs : List Value) : Obj → Obj
  | .cells _ t frozen => .cells vs.toArray t frozen
  | o => o
/-- A world in which each of these variables holds its table. -/
noncomputable def laidWorld (laid : List (String × DataW Unit)) (os : Os) : World :=
  { World.holding Tryd.prog os ⟨#[], #[], []⟩ with
    heap := laid.foldl (fun h x => ((Tryd.prog.globals.findIdx? (·.name == x.1)).map fun g => h.modify g (withLeaves (leavesOf 8 x.2))).getD h) (World.holding Tryd.prog os ⟨#[], #[], []⟩).heap }
/-- Parameters of nothing. -/
def noneV : Value := .agg #[.int .i64 0, .int .i64 0, .slice none 0 0, .slice none 0 0]
def noneD {H : Type} : DataW H := .agg [.lit (.int .i64 0), .lit (.int .i64 0), .nil, .nil]

end Go.Proofs.YtlflhjgfegflfaaDoor
