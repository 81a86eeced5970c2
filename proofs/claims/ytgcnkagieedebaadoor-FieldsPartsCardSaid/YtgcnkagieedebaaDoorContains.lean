/- What strings.Contains does: the shelf's contract, laid at this cut; and the document's own search. -/
import Derived.Shelf.Strings.Search3
import Derived.Shelf.Vars
import Derived.Test.YtgcnkagieedebaaDoorDdefs
import Derived.Test.YtgcnkagieedebaaDoorGheavy
namespace Go.Proofs.YtgcnkagieedebaaDoor
open Go.Shelf Go.RowKit

def lays144_ren : Go.Shelf.Ren := ⟨fun | 144 => 43 | 143 => 51 | 219 => 59 | 217 => 65 | 225 => 66 | 224 => 67 | 267 => 68 | 266 => 74 | 314 => 75 | n => n, fun | 9 => 9 | 4 => 4 | 3 => 3 | 5 => 5 | 46 => 137 | 146 => 145 | 51 => 144 | n => n, fun | 1 => 1 | n => n⟩
theorem lays144 : Go.Proofs.Lays.n144 Tryd.prog lays144_ren := {
  mixed := by kernel_rfl
  f143 := Tryd.func51.trans (congrArg some (by kernel_rfl))
  f144 := Tryd.func43.trans (congrArg some (by kernel_rfl))
  f217 := Tryd.func65.trans (congrArg some (by kernel_rfl))
  f219 := Tryd.func59.trans (congrArg some (by kernel_rfl))
  f224 := Tryd.func67.trans (congrArg some (by kernel_rfl))
  f225 := Tryd.func66.trans (congrArg some (by kernel_rfl))
  f266 := Tryd.func74.trans (congrArg some (by kernel_rfl))
  f267 := Tryd.func68.trans (congrArg some (by kernel_rfl))
  f314 := Tryd.func75.trans (congrArg some (by kernel_rfl))
  t3 := Tryd.underlying3
  a3 := Tryd.isAgg3
  z3 := Tryd.sizeOf3
  v3 := Tryd.zeroValue3
  t4 := Tryd.underlying4
  a4 := Tryd.isAgg4
  z4 := Tryd.sizeOf4
  v4 := Tryd.zeroValue4
  t5 := Tryd.underlying5
  a5 := Tryd.isAgg5
  z5 := Tryd.sizeOf5
  v5 := Tryd.zeroValue5
  t9 := Tryd.underlying9
  a9 := Tryd.isAgg9
  z9 := Tryd.sizeOf9
  v9 := Tryd.zeroValue9
  t46 := Tryd.underlying137
  a46 := Tryd.isAgg137
  z46 := Tryd.sizeOf137
  v46 := Tryd.zeroValue137
  t51 := Tryd.underlying144
  a51 := Tryd.isAgg144
  z51 := Tryd.sizeOf144
  v51 := Tryd.zeroValue144
  t146 := Tryd.underlying145
  a146 := Tryd.isAgg145
  z146 := Tryd.sizeOf145
  v146 := Tryd.zeroValue145
  g1 := by kernel_rfl }

/-- The library's variable of the machine's own widest row of bytes holds a number. -/
def MaxAt (w : World) : Prop := ∃ m, w.cell? ⟨1, 0, none⟩ = some (.int .i64 m)
theorem MaxAt.frame {p : Nat → Prop} {w w' : World} (h : MaxAt w) (hf : Frame p w w') (hp : ¬ p 1) : MaxAt w' := by
  obtain ⟨m, h⟩ := h
  exact ⟨m, hf.cell? h hp⟩
theorem MaxAt.lt {w : World} (h : MaxAt w) : 1 < w.heap.size := by
  obtain ⟨m, h⟩ := h
  exact block_lt_of_cell h
/-- What the machines ask of the world: the table of kinds, and that variable. -/
def MaxTab (w : World) : Prop := Pm.Tab w ∧ MaxAt w
theorem MaxTab.below {w w' : World} (h : MaxTab w) (hb : Below w.heap.size w w') : MaxTab w' := ⟨h.1.below hb, h.2.frame (Below.toFrame hb fun _ => False) (fun h => h)⟩

theorem maxTab_of {w : World} (hL : laidMetH Tryd.prog [("penstock/params.rows", Rows.laid_penstock_params_rows)] w) (hS : w.ShapedOpen Tryd.prog) : MaxTab w :=
  ⟨Pm.tab_of_laid hL, cell_of_shapedOpen_int (P := Tryd.prog) (g := 1) (t := 3) (zero := #[.int .i64 0]) hS (of_decide_eq_true (by kernel_rfl)) (by kernel_rfl) rfl (by kernel_rfl) (by kernel_rfl) Tryd.underlying3⟩

/-- Does a text stand in a line? -/
def hasB (x A : List UInt8) : Bool := Lib.contains x A
theorem contains_any (x A : List UInt8) (w : World) (hx : x.length ≤ 1000000) (hm : MaxAt w) :
    Calls Tryd.prog 43 #[strV x, strV A] w (Says w (.bool (hasB x A))) := by
  obtain ⟨m, hm⟩ := hm
  have h := Go.Proofs.Any.strings_Contains lays144 ⟨x.toArray⟩ ⟨A.toArray⟩ m w (by simp [ByteArray.size]; omega) hm
  exact h.mono fun e w' ⟨h1, h2⟩ => ⟨h1, h2.symm⟩

end Go.Proofs.YtgcnkagieedebaaDoor
