/- The plain model of parameters: the table of kinds, whether parameters may be, their ports, what they hold. No conditions. -/
import Derived.Test.YthedfcdcocimbaaDoorRows
import Derived.WalkKit
import Derived.WalkSpells
import Derived.WalkLawsBesides
import Derived.Deep.MidRow
import Derived.Deep.WholeRow
import Derived.Lib.Hide
import Derived.Laws.CopyOwn
import Derived.Lib.AppendStr
import Derived.Maps.AppendAt
import Derived.Laws.AppendOwnNone
import Derived.Deep.QuietTactic
import Derived.BigQuiet
import Derived.Deep.Cut
import Derived.Deep.DeepCutAuto
import Derived.Lib.SlBytesConst
import Derived.Lib.LaidTab
namespace Go.Proofs.YthedfcdcocimbaaDoor.Pm
open Go.RowKit

/-! The table. -/
structure Kind where
  least : Int
  most : Int
  rule : Int
  ins : Int
  outs : Int
  holds : Int
  each : Int
def kinds : List Kind := [⟨0, 0, 0, 0, 0, 0, 0⟩, ⟨0, 15, 0, 0, 1, 0, 0⟩, ⟨0, 15, 0, 1, 0, 0, 0⟩, ⟨0, 1000000000, 0, 1, 1, 64, 0⟩, ⟨0, 9223372036854775807, 0, 1, 1, 64, 64⟩, ⟨0, 1, 2, 1, 1, 64, 0⟩,
  ⟨0, 0, 3, 1, 1, 0, 0⟩, ⟨1, 65535, 1, 1, 1, 64, 0⟩, ⟨0, 1, 0, 1, 1, 128, 0⟩, ⟨0, 0, 0, 1, 1, 0, 0⟩, ⟨0, 1000000000, 0, 1, 1, 64, 0⟩, ⟨0, 1, 0, 1, 1, 320, 0⟩, ⟨1, 4, 0, -1, 1, 0, 0⟩,
  ⟨1, 4, 1, -1, 1, 0, 96⟩, ⟨1, 9223372036854775807, 1, 2, 1, 192, 128⟩, ⟨1, 4, 0, 1, -1, 0, 0⟩, ⟨1, 4, 0, 1, -1, 64, 0⟩]
def kindOf (k : Nat) : Kind := kinds.getD k ⟨0, 0, 0, 0, 0, 0, 0⟩
def Kind.cells (r : Kind) : List Int := [r.least, r.most, r.rule, r.ins, r.outs, r.holds, r.each]
def iv (n : Int) : Value := .int .i64 n
def tabL : List Int := kinds.flatMap Kind.cells
theorem length_tabL : tabL.length = 119 := by decide
theorem tabL_at : ∀ k : Nat, k ≤ 16 → ∀ j : Nat, j < 7 → tabL[7 * k + j]? = (kindOf k).cells[j]? := by decide

/-! What parameters are. -/
def mayBe (rule : Int) (A B : List UInt8) : Bool :=
  if rule = 1 then decide (A.length = 1 ∧ A.head? ≠ some 10 ∧ B.length = 0)
  else if rule = 2 then decide (1 ≤ A.length ∧ A.length ≤ 16 ∧ (10 : UInt8) ∉ A ∧ B.length = 0)
  else if rule = 3 then decide (1 ≤ A.length ∧ A.length ≤ 64 ∧ A.Nodup ∧ B.length ≤ A.length)
  else decide (A.length = 0 ∧ B.length = 0)
/-- N, A and B are as the row says. -/
def fits (r : Kind) (n : Int) (A B : List UInt8) : Bool := decide (r.least ≤ n) && decide (n ≤ r.most) && mayBe r.rule A B
def tooMuch (r : Kind) (n : Int) : Bool := decide (0 < r.each) && decide ((2048 - r.holds).tdiv r.each < n)
def checkE (k n : Int) (A B : List UInt8) : Int :=
  if k < 1 ∨ 16 < k then 10 else if fits (kindOf k.toNat) n A B = false then 11 else if tooMuch (kindOf k.toNat) n = true then 12 else 0
def portsE (c n : Int) : Int := if c = -1 then n else c
def insE (k n : Int) (A B : List UInt8) : Int := if checkE k n A B = 0 then portsE (kindOf k.toNat).ins n else 0
def outsE (k n : Int) (A B : List UInt8) : Int := if checkE k n A B = 0 then portsE (kindOf k.toNat).outs n else 0
def boundE (k n : Int) (A B : List UInt8) : Int := if checkE k n A B = 0 then (kindOf k.toNat).holds + (kindOf k.toNat).each * n else 0

/-! Memory. -/
/-- The value is a slice that reads as these bytes. -/
def IsBytes (w : World) (v : Value) (bs : List UInt8) : Prop :=
  ∃ a cap, v = .slice a bs.length cap ∧ bs.length ≤ cap ∧ ∀ j c, bs[j]? = some c → ∃ gb off, a = some ⟨gb, off, none⟩ ∧ w.cell? ⟨gb, off + j, none⟩ = some (.int .u8 c.toNat)
theorem Below.cell {a b : World} (h : Below a.heap.size a b) {x : Addr} {v : Value} (hx : a.cell? x = some v) : b.cell? x = some v := by
  rw [World.cell?_of_block (w := a) (h.block x.block (block_lt_of_cell hx)), hx]
theorem IsBytes.below {w w' : World} {v : Value} {bs : List UInt8} (h : IsBytes w v bs) (hb : Below w.heap.size w w') : IsBytes w' v bs := by
  obtain ⟨a, cap, rfl, hle, hc⟩ := h
  refine ⟨a, cap, rfl, hle, fun j c hj => ?_⟩
  obtain ⟨gb, off, rfl, hx⟩ := hc j c hj
  exact ⟨gb, off, rfl, Below.cell hb hx⟩
/-- The table lies in block 0. -/
def Tab (w : World) : Prop := ∀ j z, tabL[j]? = some z → w.cell? ⟨0, j, none⟩ = some (iv z)
theorem Tab.below {w w' : World} (h : Tab w) (hb : Below w.heap.size w w') : Tab w' := fun j z hj => Below.cell hb (h j z hj)
theorem Tab.at {w : World} (h : Tab w) {k : Nat} (hk : k ≤ 16) {j : Nat} (hj : j < 7) {z : Int} (hz : (kindOf k).cells[j]? = some z) : w.cell? ⟨0, 7 * k + j, none⟩ = some (.int .i64 z) := h _ _ (by rw [tabL_at k hk j hj, hz])
theorem Tab.pos {w : World} (h : Tab w) : 0 < w.heap.size := block_lt_of_cell (h 0 0 (by decide))

/-- Parameters as a value. -/
def parV (k n : Int) (va vb : Value) : Value := .agg #[.int .i64 k, .int .i64 n, va, vb]
/-- A number that an int can be. -/
def Fits (n : Int) : Prop := -9223372036854775808 ≤ n ∧ n ≤ 9223372036854775807

/-- The call answers this; of what was there nothing has turned. -/
def Gives (w : World) (v : Value) (e : Ending) (w' : World) : Prop := e = .returned v ∧ Below w.heap.size w w'
/-- The call answers this; nothing has turned at all. -/
def Says (w : World) (v : Value) (e : Ending) (w' : World) : Prop := e = .returned v ∧ w = w'

end Go.Proofs.YthedfcdcocimbaaDoor.Pm
