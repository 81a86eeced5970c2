/- Two lists of numbers; four texts compared. -/
import Derived.Test.YtlflhjgfegflfaaDoorGlaws
import Derived.ChangeKeysEq
import Derived.Laws.StructEq
namespace Go.Proofs.YtlflhjgfegflfaaDoor
open Go.RowKit

theorem Tryd.info9s : (Tryd.prog.info? 9).map (fun i => (i.zero, i.size, i.bytes)) = some (some (.string ByteArray.empty), 1, 16) := by kernel_rfl
theorem eq_outs2 (S0 S1 S2 S3 : ByteArray) (w : World) : (Op.equalIn 10000 39 (.agg #[.string S0, .string S1, .string S2, .string S3]) (.agg #[.string S0, .string S1, .string S2, .string S3])).run Tryd.prog w = .ok true w := by
  obtain ⟨i0, hi, hz0, hz1, hz2⟩ := info_parts Tryd.info9s
  rw [show (10000 : Nat) = 9999 + 1 from rfl, run_equalIn_array w 9999 _ _ Tryd.underlying39 hi]
  have hc : Tryd.prog.cellsOf 9 = 1 := by kernel_rfl
  rw [hc]
  simp only [show List.range 4 = [0, 1, 2, 3] from rfl, Op.eqItems, Sem.run_bind]
  simp [part, go_sem, Tryd.underlying9]
theorem eq_outs (S0 S1 S2 S3 : ByteArray) (w : World) : (binOp .eql 39 (.agg #[.string S0, .string S1, .string S2, .string S3]) (.agg #[.string S0, .string S1, .string S2, .string S3])).run Tryd.prog w = .ok (.bool true) w := by
  rw [run_eql_struct, eq_outs2]
  rfl
theorem ints_list2 (w : World) (av bv : Value) (a b : List Int) (q : Nat → Prop) (hq : q w.heap.size) (h : IsInts q w av a) (k : IsInts q w bv b) (m : Nat × Nat) : IsIntss q (w.alloc (.cells #[av, bv] 37 m)) (.slice (some ⟨w.heap.size, 0, none⟩) 2 2) [a, b] := by
  refine ⟨_, 2, rfl, fun j t' hj => ?_⟩
  match j, hj with
  | 0, hj =>
    simp at hj
    subst hj
    refine ⟨_, 0, av, rfl, hq, ?_, h.below ((Below.refl _ _).alloc (Nat.le_refl _) _)⟩
    rw [Nat.zero_add, cell_of_row _ _ _ _ _ _ (heap_alloc_last w _)]
    rfl
  | 1, hj =>
    simp at hj
    subst hj
    refine ⟨_, 0, bv, rfl, hq, ?_, k.below ((Below.refl _ _).alloc (Nat.le_refl _) _)⟩
    rw [Nat.zero_add, cell_of_row _ _ _ _ _ _ (heap_alloc_last w _)]
    rfl
  | j + 2, hj => simp at hj

end Go.Proofs.YtlflhjgfegflfaaDoor
