/- What Begins does: is a string another one's beginning? -/
import Derived.Test.YtlflhjgfegflfaaDoorDdefs
import Derived.Test.YtlflhjgfegflfaaDoorPA
import Derived.Outline
namespace Go.Proofs.YtlflhjgfegflfaaDoor
open Go.RowKit

set_option maxRecDepth 100000 in
set_option maxHeartbeats 1000000 in
theorem begins_any (S T : ByteArray) (w : World) :
    Calls Tryd.prog 23 #[.string S, .string T] w (Says w (.bool (decide (S.size ≤ T.size) && ((T.extract 0 S.size).toList == S.toList)))) := by
  by_cases h : S.size ≤ T.size
  · have g1 : (S.size : Int) ≤ (T.size : Int) := by omega
    go_enter Tryd.func23, Tryd.ntmps23
    go_wp2_with fail
    go_ret
    exact ⟨by rw [decide_eq_true h, Bool.true_and]; rfl, rfl⟩
  · have g1 : ¬ (S.size : Int) ≤ (T.size : Int) := by omega
    go_enter Tryd.func23, Tryd.ntmps23
    go_wp2_with fail
    go_ret
    exact ⟨rfl, rfl⟩

theorem extract_list (a b : List UInt8) : (⟨b.toArray⟩ : ByteArray).extract 0 a.length = ⟨(b.take a.length).toArray⟩ := by
  apply ByteArray.ext
  simp [ByteArray.data_extract]
/-- The same, of bytes. -/
theorem begins_bytes (a b : List UInt8) (w : World) : Calls Tryd.prog 23 #[strV a, strV b] w (Says w (.bool (decide (a.length ≤ b.length) && decide (b.take a.length = a)))) := by
  have h := begins_any ⟨a.toArray⟩ ⟨b.toArray⟩ w
  have e1 : (⟨a.toArray⟩ : ByteArray).size = a.length := by simp [ByteArray.size]
  have e2 : (⟨b.toArray⟩ : ByteArray).size = b.length := by simp [ByteArray.size]
  rw [e1, e2, extract_list, Pm.strV_eq] at h
  exact h

end Go.Proofs.YtlflhjgfegflfaaDoor
