/- Fields is a machine that Drive may drive. -/
import Derived.Test.YtgcnkagieedebaaDoorFieldsNew
import Derived.Test.YtgcnkagieedebaaDoorRB
import Derived.Test.YtgcnkagieedebaaDoorLdriven
namespace Go.Proofs.YtgcnkagieedebaaDoor
open Go.RowKit

theorem fields_outs (N : Nat) (a : UInt8) (u : Unit) (x : List UInt8) : LineOuts (fieldsT N [a] u x).2.1 (x.length + 1) := (LineOuts.one (lineF N [a] x)).mono (by have := lineF_le N a x; omega)
theorem fields_goes (g : Nat) (w : World) :
    (method 273 75 (.pointer (some ⟨g, 0, none⟩)) "Need").run Tryd.prog w = .ok (101, .pointer (some ⟨g, 0, none⟩)) w ∧
    (method 273 75 (.pointer (some ⟨g, 0, none⟩)) "Held").run Tryd.prog w = .ok (99, .pointer (some ⟨g, 0, none⟩)) w ∧
    (method 273 75 (.pointer (some ⟨g, 0, none⟩)) "Feed").run Tryd.prog w = .ok (98, .pointer (some ⟨g, 0, none⟩)) w ∧
    (method 273 75 (.pointer (some ⟨g, 0, none⟩)) "End").run Tryd.prog w = .ok (97, .pointer (some ⟨g, 0, none⟩)) w ∧
    (method 273 75 (.pointer (some ⟨g, 0, none⟩)) "More").run Tryd.prog w = .ok (100, .pointer (some ⟨g, 0, none⟩)) w :=
  ⟨by kernel_rfl, by kernel_rfl, by kernel_rfl, by kernel_rfl, by kernel_rfl⟩
theorem fields_driven (N : Nat) (a : UInt8) (g : Nat) (hN : N ≤ 65535) : Driven (linesM (fieldsT N [a])) fieldsBase ((fieldsM N a).RepO g) 75 (.pointer (some ⟨g, 0, none⟩)) 101 99 98 97 100
    (.pointer (some ⟨g, 0, none⟩)) (.pointer (some ⟨g, 0, none⟩)) (.pointer (some ⟨g, 0, none⟩)) (.pointer (some ⟨g, 0, none⟩)) (.pointer (some ⟨g, 0, none⟩)) :=
  lines_driven (fieldsM N a) g 75 (fields_goes g) rfl (fields_tells N a g hN) (fields_enters N a) (fun u y => by show (fieldsT N [a] u y).2.1.length ≤ 40; simp [fieldsT])
    (fun s x hs hx => (lineOuts_feed _ (fields_outs N a) x s).ok (by omega)) (fun s hs => (lineOuts_end _ (fields_outs N a) s).ok (by omega))

end Go.Proofs.YtgcnkagieedebaaDoor
