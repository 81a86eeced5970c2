/- Number is a machine that Drive may drive. -/
import Derived.Test.YtmdmcmdchjlmiaaDoorNumberNew
import Derived.Test.YtmdmcmdchjlmiaaDoorLdriven
namespace Go.Proofs.YtmdmcmdchjlmiaaDoor
open Go.RowKit

theorem number_goes (g : Nat) (w : World) :
    (method 258 73 (.pointer (some ⟨g, 0, none⟩)) "Need").run Tryd.prog w = .ok (86, .pointer (some ⟨g, 0, none⟩)) w ∧
    (method 258 73 (.pointer (some ⟨g, 0, none⟩)) "Held").run Tryd.prog w = .ok (84, .pointer (some ⟨g, 0, none⟩)) w ∧
    (method 258 73 (.pointer (some ⟨g, 0, none⟩)) "Feed").run Tryd.prog w = .ok (83, .pointer (some ⟨g, 0, none⟩)) w ∧
    (method 258 73 (.pointer (some ⟨g, 0, none⟩)) "End").run Tryd.prog w = .ok (82, .pointer (some ⟨g, 0, none⟩)) w ∧
    (method 258 73 (.pointer (some ⟨g, 0, none⟩)) "More").run Tryd.prog w = .ok (85, .pointer (some ⟨g, 0, none⟩)) w :=
  ⟨by kernel_rfl, by kernel_rfl, by kernel_rfl, by kernel_rfl, by kernel_rfl⟩
theorem number_driven (g : Nat) : Driven (linesM numberT) numberBase (numberM.RepO g) 73 (.pointer (some ⟨g, 0, none⟩)) 86 84 83 82 85
    (.pointer (some ⟨g, 0, none⟩)) (.pointer (some ⟨g, 0, none⟩)) (.pointer (some ⟨g, 0, none⟩)) (.pointer (some ⟨g, 0, none⟩)) (.pointer (some ⟨g, 0, none⟩)) :=
  lines_driven numberM g 73 (number_goes g) rfl (number_tells g) number_enters (fun u y => by show (numberT u y).2.1.length ≤ 40; simp [numberT])
    (fun s x hs hx => (number_feedOuts x s).ok (by omega)) (fun s hs => (number_endOuts s).ok (by omega))

end Go.Proofs.YtmdmcmdchjlmiaaDoor
