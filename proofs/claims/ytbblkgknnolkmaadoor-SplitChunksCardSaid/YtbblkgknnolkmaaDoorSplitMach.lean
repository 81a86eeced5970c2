/- Split is a machine that Drive may drive. -/
import Derived.Test.YtbblkgknnolkmaaDoorSplitNew
import Derived.Test.YtbblkgknnolkmaaDoorLdriven
namespace Go.Proofs.YtbblkgknnolkmaaDoor
open Go.RowKit

theorem split_goes (g : Nat) (w : World) :
    (method 241 73 (.pointer (some ⟨g, 0, none⟩)) "Need").run Tryd.prog w = .ok (72, .pointer (some ⟨g, 0, none⟩)) w ∧
    (method 241 73 (.pointer (some ⟨g, 0, none⟩)) "Held").run Tryd.prog w = .ok (70, .pointer (some ⟨g, 0, none⟩)) w ∧
    (method 241 73 (.pointer (some ⟨g, 0, none⟩)) "Feed").run Tryd.prog w = .ok (69, .pointer (some ⟨g, 0, none⟩)) w ∧
    (method 241 73 (.pointer (some ⟨g, 0, none⟩)) "End").run Tryd.prog w = .ok (68, .pointer (some ⟨g, 0, none⟩)) w ∧
    (method 241 73 (.pointer (some ⟨g, 0, none⟩)) "More").run Tryd.prog w = .ok (71, .pointer (some ⟨g, 0, none⟩)) w :=
  ⟨by kernel_rfl, by kernel_rfl, by kernel_rfl, by kernel_rfl, by kernel_rfl⟩
theorem split_driven (M : Nat) (h1 : 1 ≤ M) (h4 : M ≤ 4) (g : Nat) : Driven (linesM (splitT M)) 0 ((splitM M).RepO g) 73 (.pointer (some ⟨g, 0, none⟩)) 72 70 69 68 71
    (.pointer (some ⟨g, 0, none⟩)) (.pointer (some ⟨g, 0, none⟩)) (.pointer (some ⟨g, 0, none⟩)) (.pointer (some ⟨g, 0, none⟩)) (.pointer (some ⟨g, 0, none⟩)) :=
  lines_driven (splitM M) g 73 (split_goes g) rfl (split_tells M h1 h4 g) (split_enters M) (fun u y => by show (splitT M u y).2.1.length ≤ 40; simp [splitT])
    (fun s x hs hx => (lineOuts_feed _ (split_outs h1 h4) x s).ok (by omega)) (fun s hs => (lineOuts_end _ (split_outs h1 h4) s).ok (by omega))

end Go.Proofs.YtbblkgknnolkmaaDoor
