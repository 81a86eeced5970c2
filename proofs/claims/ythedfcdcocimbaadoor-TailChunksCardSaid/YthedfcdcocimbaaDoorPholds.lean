/- What the document's holds does. -/
import Derived.Test.YthedfcdcocimbaaDoorPsmall
namespace Go.Proofs.YthedfcdcocimbaaDoor.Pm
open Go.RowKit

/-- What the document's holds answers. -/
def holdsE (K : Nat) (n : Int) : Int := if (K = 4 ∨ K = 14) ∧ 100 < n then 10000 else (kindOf K).holds + (kindOf K).each * n

set_option maxRecDepth 100000 in
set_option maxHeartbeats 1000000 in
theorem refHolds_1 (n : Int) (va vb : Value) (w : World) : Calls Tryd.prog 44 #[parV 1 n va vb] w (Gives w (.int .i64 0)) := by
  unfold parV
  go_enter Tryd.func44, Tryd.ntmps44
  go_wp2_with fail
  go_ret
  exact ⟨rfl, (Below.refl _ _).alloc (Nat.le_refl _) _⟩

set_option maxRecDepth 100000 in
set_option maxHeartbeats 1000000 in
theorem refHolds_2 (n : Int) (va vb : Value) (w : World) : Calls Tryd.prog 44 #[parV 2 n va vb] w (Gives w (.int .i64 0)) := by
  unfold parV
  go_enter Tryd.func44, Tryd.ntmps44
  go_wp2_with fail
  go_ret
  exact ⟨rfl, (Below.refl _ _).alloc (Nat.le_refl _) _⟩

set_option maxRecDepth 100000 in
set_option maxHeartbeats 1000000 in
theorem refHolds_3 (n : Int) (va vb : Value) (w : World) : Calls Tryd.prog 44 #[parV 3 n va vb] w (Gives w (.int .i64 64)) := by
  unfold parV
  go_enter Tryd.func44, Tryd.ntmps44
  go_wp2_with fail
  go_ret
  exact ⟨rfl, (Below.refl _ _).alloc (Nat.le_refl _) _⟩

set_option maxRecDepth 100000 in
set_option maxHeartbeats 1000000 in
theorem refHolds_5 (n : Int) (va vb : Value) (w : World) : Calls Tryd.prog 44 #[parV 5 n va vb] w (Gives w (.int .i64 64)) := by
  unfold parV
  go_enter Tryd.func44, Tryd.ntmps44
  go_wp2_with fail
  go_ret
  exact ⟨rfl, (Below.refl _ _).alloc (Nat.le_refl _) _⟩

set_option maxRecDepth 100000 in
set_option maxHeartbeats 1000000 in
theorem refHolds_6 (n : Int) (va vb : Value) (w : World) : Calls Tryd.prog 44 #[parV 6 n va vb] w (Gives w (.int .i64 0)) := by
  unfold parV
  go_enter Tryd.func44, Tryd.ntmps44
  go_wp2_with fail
  go_ret
  exact ⟨rfl, (Below.refl _ _).alloc (Nat.le_refl _) _⟩

set_option maxRecDepth 100000 in
set_option maxHeartbeats 1000000 in
theorem refHolds_7 (n : Int) (va vb : Value) (w : World) : Calls Tryd.prog 44 #[parV 7 n va vb] w (Gives w (.int .i64 64)) := by
  unfold parV
  go_enter Tryd.func44, Tryd.ntmps44
  go_wp2_with fail
  go_ret
  exact ⟨rfl, (Below.refl _ _).alloc (Nat.le_refl _) _⟩

set_option maxRecDepth 100000 in
set_option maxHeartbeats 1000000 in
theorem refHolds_8 (n : Int) (va vb : Value) (w : World) : Calls Tryd.prog 44 #[parV 8 n va vb] w (Gives w (.int .i64 128)) := by
  unfold parV
  go_enter Tryd.func44, Tryd.ntmps44
  go_wp2_with fail
  go_ret
  exact ⟨rfl, (Below.refl _ _).alloc (Nat.le_refl _) _⟩

set_option maxRecDepth 100000 in
set_option maxHeartbeats 1000000 in
theorem refHolds_9 (n : Int) (va vb : Value) (w : World) : Calls Tryd.prog 44 #[parV 9 n va vb] w (Gives w (.int .i64 0)) := by
  unfold parV
  go_enter Tryd.func44, Tryd.ntmps44
  go_wp2_with fail
  go_ret
  exact ⟨rfl, (Below.refl _ _).alloc (Nat.le_refl _) _⟩

set_option maxRecDepth 100000 in
set_option maxHeartbeats 1000000 in
theorem refHolds_10 (n : Int) (va vb : Value) (w : World) : Calls Tryd.prog 44 #[parV 10 n va vb] w (Gives w (.int .i64 64)) := by
  unfold parV
  go_enter Tryd.func44, Tryd.ntmps44
  go_wp2_with fail
  go_ret
  exact ⟨rfl, (Below.refl _ _).alloc (Nat.le_refl _) _⟩

set_option maxRecDepth 100000 in
set_option maxHeartbeats 1000000 in
theorem refHolds_11 (n : Int) (va vb : Value) (w : World) : Calls Tryd.prog 44 #[parV 11 n va vb] w (Gives w (.int .i64 320)) := by
  unfold parV
  go_enter Tryd.func44, Tryd.ntmps44
  go_wp2_with fail
  go_ret
  exact ⟨rfl, (Below.refl _ _).alloc (Nat.le_refl _) _⟩

set_option maxRecDepth 100000 in
set_option maxHeartbeats 1000000 in
theorem refHolds_12 (n : Int) (va vb : Value) (w : World) : Calls Tryd.prog 44 #[parV 12 n va vb] w (Gives w (.int .i64 0)) := by
  unfold parV
  go_enter Tryd.func44, Tryd.ntmps44
  go_wp2_with fail
  go_ret
  exact ⟨rfl, (Below.refl _ _).alloc (Nat.le_refl _) _⟩

set_option maxRecDepth 100000 in
set_option maxHeartbeats 1000000 in
theorem refHolds_15 (n : Int) (va vb : Value) (w : World) : Calls Tryd.prog 44 #[parV 15 n va vb] w (Gives w (.int .i64 0)) := by
  unfold parV
  go_enter Tryd.func44, Tryd.ntmps44
  go_wp2_with fail
  go_ret
  exact ⟨rfl, (Below.refl _ _).alloc (Nat.le_refl _) _⟩

set_option maxRecDepth 100000 in
set_option maxHeartbeats 1000000 in
theorem refHolds_16 (n : Int) (va vb : Value) (w : World) : Calls Tryd.prog 44 #[parV 16 n va vb] w (Gives w (.int .i64 64)) := by
  unfold parV
  go_enter Tryd.func44, Tryd.ntmps44
  go_wp2_with fail
  go_ret
  exact ⟨rfl, (Below.refl _ _).alloc (Nat.le_refl _) _⟩

set_option maxRecDepth 100000 in
set_option maxHeartbeats 1000000 in
theorem refHolds_4 (n : Int) (h1 : 0 ≤ n) (h2 : n ≤ 100) (va vb : Value) (w : World) : Calls Tryd.prog 44 #[parV 4 n va vb] w (Gives w (.int .i64 (64 + 64 * n))) := by
  unfold parV
  have h3 : ¬ 100 < n := by omega
  go_enter Tryd.func44, Tryd.ntmps44
  go_wp2_with fail
  go_ret
  exact ⟨rfl, (Below.refl _ _).alloc (Nat.le_refl _) _⟩

set_option maxRecDepth 100000 in
set_option maxHeartbeats 1000000 in
theorem refHolds_4_big (n : Int) (h1 : 100 < n) (va vb : Value) (w : World) : Calls Tryd.prog 44 #[parV 4 n va vb] w (Gives w (.int .i64 10000)) := by
  unfold parV
  go_enter Tryd.func44, Tryd.ntmps44
  go_wp2_with fail
  go_ret
  exact ⟨rfl, (Below.refl _ _).alloc (Nat.le_refl _) _⟩

set_option maxRecDepth 100000 in
set_option maxHeartbeats 1000000 in
theorem refHolds_13 (n : Int) (h1 : 1 ≤ n) (h2 : n ≤ 4) (va vb : Value) (w : World) : Calls Tryd.prog 44 #[parV 13 n va vb] w (Gives w (.int .i64 (96 * n))) := by
  unfold parV
  have h3 : ¬ 100 < n := by omega
  go_enter Tryd.func44, Tryd.ntmps44
  go_wp2_with fail
  go_ret
  exact ⟨rfl, (Below.refl _ _).alloc (Nat.le_refl _) _⟩

set_option maxRecDepth 100000 in
set_option maxHeartbeats 1000000 in
theorem refHolds_14 (n : Int) (h1 : 1 ≤ n) (h2 : n ≤ 100) (va vb : Value) (w : World) : Calls Tryd.prog 44 #[parV 14 n va vb] w (Gives w (.int .i64 (2 * (64 * n + 96)))) := by
  unfold parV
  have h3 : ¬ 100 < n := by omega
  go_enter Tryd.func44, Tryd.ntmps44
  go_wp2_with fail
  go_ret
  exact ⟨rfl, (Below.refl _ _).alloc (Nat.le_refl _) _⟩

set_option maxRecDepth 100000 in
set_option maxHeartbeats 1000000 in
theorem refHolds_14_big (n : Int) (h1 : 100 < n) (va vb : Value) (w : World) : Calls Tryd.prog 44 #[parV 14 n va vb] w (Gives w (.int .i64 10000)) := by
  unfold parV
  go_enter Tryd.func44, Tryd.ntmps44
  go_wp2_with fail
  go_ret
  exact ⟨rfl, (Below.refl _ _).alloc (Nat.le_refl _) _⟩

end Go.Proofs.YthedfcdcocimbaaDoor.Pm
