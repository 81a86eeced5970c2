/- Match is a machine that Drive may drive. -/
import Derived.Test.YtoppjlifaafjiaaDoorMatchNew
import Derived.Test.YtoppjlifaafjiaaDoorRB
import Derived.Test.YtoppjlifaafjiaaDoorLdriven
namespace Go.Proofs.YtoppjlifaafjiaaDoor
open Go.RowKit

theorem match_outs (A : List UInt8) (hv : Bool) (u : Unit) (x : List UInt8) : LineOuts (matchT A hv u x).2.1 (x.length + 1) := by
  unfold matchT
  simp only
  split
  · exact LineOuts.one x
  · exact LineOuts.nil _
theorem match_goes (g : Nat) (w : World) :
    (method 247 73 (.pointer (some ⟨g, 0, none⟩)) "Need").run Tryd.prog w = .ok (82, .pointer (some ⟨g, 0, none⟩)) w ∧
    (method 247 73 (.pointer (some ⟨g, 0, none⟩)) "Held").run Tryd.prog w = .ok (80, .pointer (some ⟨g, 0, none⟩)) w ∧
    (method 247 73 (.pointer (some ⟨g, 0, none⟩)) "Feed").run Tryd.prog w = .ok (79, .pointer (some ⟨g, 0, none⟩)) w ∧
    (method 247 73 (.pointer (some ⟨g, 0, none⟩)) "End").run Tryd.prog w = .ok (78, .pointer (some ⟨g, 0, none⟩)) w ∧
    (method 247 73 (.pointer (some ⟨g, 0, none⟩)) "More").run Tryd.prog w = .ok (81, .pointer (some ⟨g, 0, none⟩)) w :=
  ⟨by kernel_rfl, by kernel_rfl, by kernel_rfl, by kernel_rfl, by kernel_rfl⟩
theorem match_driven (A : List UInt8) (hv : Bool) (g : Nat) : Driven (linesM (matchT A hv)) matchBase ((matchM A hv).RepO g) 73 (.pointer (some ⟨g, 0, none⟩)) 82 80 79 78 81
    (.pointer (some ⟨g, 0, none⟩)) (.pointer (some ⟨g, 0, none⟩)) (.pointer (some ⟨g, 0, none⟩)) (.pointer (some ⟨g, 0, none⟩)) (.pointer (some ⟨g, 0, none⟩)) :=
  lines_driven (matchM A hv) g 73 (match_goes g) rfl (match_tells A hv g) (match_enters A hv) (fun u y => by show (matchT A hv u y).2.1.length ≤ 40; unfold matchT; simp only; split <;> simp)
    (fun s x hs hx => (lineOuts_feed _ (match_outs A hv) x s).ok (by omega)) (fun s hs => (lineOuts_end _ (match_outs A hv) s).ok (by omega))

end Go.Proofs.YtoppjlifaafjiaaDoor
