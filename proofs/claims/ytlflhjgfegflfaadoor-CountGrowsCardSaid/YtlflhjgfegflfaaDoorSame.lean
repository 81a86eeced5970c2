/- What the law's Same does, of one output. -/
import Derived.Test.YtlflhjgfegflfaaDoorGheavy
import Derived.Laws.StructEq
import Derived.Outline
import Derived.Deep.RegionWith
namespace Go.Proofs.YtlflhjgfegflfaaDoor
open Go.RowKit

theorem got_lit' (g : GotL) : ∃ S0 S1 S2 S3 : ByteArray, strV (g.outs 0) = .string S0 ∧ strV (g.outs 1) = .string S1 ∧ strV (g.outs 2) = .string S2 ∧ strV (g.outs 3) = .string S3 ∧
    gotA g = #[.string S0, .string S1, .string S2, .string S3, .int .i64 g.need, .int .i64 g.err, .int .i64 g.held, .int .i64 (g.taken 0), .int .i64 (g.taken 1), .int .i64 (g.taken 2), .int .i64 (g.taken 3), .bool false] :=
  ⟨_, _, _, _, rfl, rfl, rfl, rfl, rfl⟩
/-- It ends, fails, or waits as that stream does. -/
def SameCase (g : GotL) (ins : List Strm) (t : Strm) : Prop :=
  (t.ended = true ∧ g.need = -1 ∧ g.err = 0) ∨ (t.ended = false ∧ g.need = -1 ∧ g.err ≠ 0 ∧ t.code = g.err) ∨
    (t.ended = false ∧ g.err = 0 ∧ ∃ (k : Nat) (i : Strm), g.need = k ∧ ins[k]? = some i ∧ t.code = i.code ∧ t.stage = i.stage ∧ t.id = i.id)

theorem neq_fault (a b c : Int) (W : World) : (binOp .neq 59 (.agg #[.int .i64 a, .int .i64 b, .int .i64 c]) (.agg #[.int .i64 a, .int .i64 b, .int .i64 c])).run Tryd.prog W = .ok (.bool false) W := by
  rw [run_neq_struct]
  have h := run_equalIn_agg (P := Tryd.prog) (w := W) 9999 59 #[.int .i64 a, .int .i64 b, .int .i64 c] #[.int .i64 a, .int .i64 b, .int .i64 c] (by kernel_rfl) (by kernel_rfl)
  rw [h]
  simp [go_sem, Tryd.underlying59, Tryd.underlying27, Tryd.underlying3, part]

set_option maxRecDepth 100000 in
set_option maxHeartbeats 8000000 in
theorem same_one {p q : Nat → Prop} (g : GotL) (iv wv : Value) (ins : List Strm) (t : Strm) (w : World) (hI : IsStrms p w iv ins) (hW : IsStrms q w wv [t]) (h0 : g.outs 0 = t.bytes) (h1 : g.outs 1 = []) (h2 : g.outs 2 = []) (h3 : g.outs 3 = []) (hC : SameCase g ins t) :
    Calls Tryd.prog 18 #[.agg (gotA g), iv, wv] w (Pm.Gives w (.bool true)) := by
  obtain ⟨S0, S1, S2, S3, e0, e1, e2, e3, hlit⟩ := got_lit' g
  rw [hlit]
  have f1 : S1 = ByteArray.empty := by rw [h1] at e1; exact (Value.string.inj e1).symm
  have f2 : S2 = ByteArray.empty := by rw [h2] at e2; exact (Value.string.inj e2).symm
  have f3 : S3 = ByteArray.empty := by rw [h3] at e3; exact (Value.string.inj e3).symm
  subst f1 f2 f3
  rw [h0] at e0
  have HI := Lib.hid (show ∀ W, Below w.heap.size w W → IsStrms p W iv ins from fun W hb => hI.below hb)
  have HW := Lib.hid (show ∀ W, Below w.heap.size w W → IsStrms q W wv [t] from fun W hb => hW.below hb)
  have hb0 : Below w.heap.size w (w.alloc (.cells #[.string S0, .string ByteArray.empty, .string ByteArray.empty, .string ByteArray.empty, .int .i64 g.need, .int .i64 g.err, .int .i64 g.held, .int .i64 (g.taken 0), .int .i64 (g.taken 1), .int .i64 (g.taken 2), .int .i64 (g.taken 3), .bool false] 42)) := (Below.refl _ _).alloc (Nat.le_refl _) _
  obtain ⟨ai, ci, rfl, -⟩ := hI
  obtain ⟨_, _, e, hcs⟩ := HW.out _ hb0
  subst e
  obtain ⟨gb, off, bv, rfl, -, c0, c1, c2, c3, c4, hbytes⟩ := hcs 0 t rfl
  simp only [Nat.zero_mul, Nat.add_zero] at c0 c1 c2 c3 c4
  have hcv := conv_any hbytes
  rw [e0] at hcv
  obtain ⟨ab, cb, rfl, -, -⟩ := hbytes
  have hgW := heap_alloc_last w (.cells #[.string S0, .string ByteArray.empty, .string ByteArray.empty, .string ByteArray.empty, .int .i64 g.need, .int .i64 g.err, .int .i64 g.held, .int .i64 (g.taken 0), .int .i64 (g.taken 1), .int .i64 (g.taken 2), .int .i64 (g.taken 3), .bool false] 42)
  have HB0 := Lib.hid hb0
  have HHW := Lib.hid hgW
  have HC := Lib.hid hC
  clear hb0 hgW hlit hW hcs e0 e1 e2 e3 hC h0 h1 h2 h3
  simp only [List.length_cons, List.length_nil, Nat.zero_add]
  go_enter Tryd.func18, Tryd.ntmps18
  go_wp2_with fail
  refine wp_loop_rounds 5 ?_
  rw [rounds_succ]
  go_wp2_with fail
  rw [rounds_succ]
  go_wp2_with fail
  rw [rounds_succ]
  go_wp2_with fail
  rw [rounds_succ]
  go_wp2_with fail
  rw [rounds_succ]
  go_wp2_with fail
  have hmid : (w.alloc (.cells #[.string S0, .string ByteArray.empty, .string ByteArray.empty, .string ByteArray.empty, .int .i64 g.need, .int .i64 g.err, .int .i64 g.held, .int .i64 (g.taken 0), .int .i64 (g.taken 1), .int .i64 (g.taken 2), .int .i64 (g.taken 3), .bool false] 42)).rangeAt gb off [.slice ab t.bytes.length cb, .bool t.ended, .int .i64 t.code, .int .i64 t.stage, .int .i64 t.id] := fun j v hv => by
    rcases j with _ | _ | _ | _ | _ | j
    · cases hv; exact c0
    · cases hv; exact c1
    · cases hv; exact c2
    · cases hv; exact c3
    · cases hv; exact c4
    · simp at hv
  refine wp_loop_rounds 2 ?_
  rw [rounds_succ]
  go_upto_region 15 with (first | (refine wpList_load_mid rfl 61 (.tmp 41) rfl gb off rfl _ _ hmid Tryd.underlying61 rfl (by kernel_rfl) ?_))
  have hb1 : Below w.heap.size w ((w.alloc (.cells #[.string S0, .string ByteArray.empty, .string ByteArray.empty, .string ByteArray.empty, .int .i64 g.need, .int .i64 g.err, .int .i64 g.held, .int .i64 (g.taken 0), .int .i64 (g.taken 1), .int .i64 (g.taken 2), .int .i64 (g.taken 3), .bool false] 42)).alloc (.cells #[.slice ab t.bytes.length cb, .bool t.ended, .int .i64 t.code, .int .i64 t.stage, .int .i64 t.id] 61)) := HB0.out.alloc HB0.out.size _
  have hg1 : ((w.alloc (.cells #[.string S0, .string ByteArray.empty, .string ByteArray.empty, .string ByteArray.empty, .int .i64 g.need, .int .i64 g.err, .int .i64 g.held, .int .i64 (g.taken 0), .int .i64 (g.taken 1), .int .i64 (g.taken 2), .int .i64 (g.taken 3), .bool false] 42)).alloc (.cells #[.slice ab t.bytes.length cb, .bool t.ended, .int .i64 t.code, .int .i64 t.stage, .int .i64 t.id] 61)).heap[w.heap.size]? = some (.cells #[.string S0, .string ByteArray.empty, .string ByteArray.empty, .string ByteArray.empty, .int .i64 g.need, .int .i64 g.err, .int .i64 g.held, .int .i64 (g.taken 0), .int .i64 (g.taken 1), .int .i64 (g.taken 2), .int .i64 (g.taken 3), .bool false] 42) := by
    rw [Below.heap_alloc _ _ _ (by simp)]
    exact HHW.out
  have ht1 : ((w.alloc (.cells #[.string S0, .string ByteArray.empty, .string ByteArray.empty, .string ByteArray.empty, .int .i64 g.need, .int .i64 g.err, .int .i64 g.held, .int .i64 (g.taken 0), .int .i64 (g.taken 1), .int .i64 (g.taken 2), .int .i64 (g.taken 3), .bool false] 42)).alloc (.cells #[.slice ab t.bytes.length cb, .bool t.ended, .int .i64 t.code, .int .i64 t.stage, .int .i64 t.id] 61)).heap[w.heap.size + 1]? = some (.cells #[.slice ab t.bytes.length cb, .bool t.ended, .int .i64 t.code, .int .i64 t.stage, .int .i64 t.id] 61) := by
    have := heap_alloc_last (w.alloc (.cells #[.string S0, .string ByteArray.empty, .string ByteArray.empty, .string ByteArray.empty, .int .i64 g.need, .int .i64 g.err, .int .i64 g.held, .int .i64 (g.taken 0), .int .i64 (g.taken 1), .int .i64 (g.taken 2), .int .i64 (g.taken 3), .bool false] 42)) (.cells #[.slice ab t.bytes.length cb, .bool t.ended, .int .i64 t.code, .int .i64 t.stage, .int .i64 t.id] 61)
    rw [World.size_alloc] at this
    exact this
  generalize (w.alloc (.cells #[.string S0, .string ByteArray.empty, .string ByteArray.empty, .string ByteArray.empty, .int .i64 g.need, .int .i64 g.err, .int .i64 g.held, .int .i64 (g.taken 0), .int .i64 (g.taken 1), .int .i64 (g.taken 2), .int .i64 (g.taken 3), .bool false] 42)).alloc (.cells #[.slice ab t.bytes.length cb, .bool t.ended, .int .i64 t.code, .int .i64 t.stage, .int .i64 t.id] 61) = W1 at hb1 hg1 ht1 ⊢
  have n4 : W1.cell? ⟨w.heap.size, 1 + 3, none⟩ = some (.int .i64 g.need) := by rw [cell_of_row _ _ _ _ _ _ hg1]; rfl
  have n5 : W1.cell? ⟨w.heap.size, 5, none⟩ = some (.int .i64 g.err) := by rw [cell_of_row _ _ _ _ _ _ hg1]; rfl
  have s1 : W1.cell? ⟨w.heap.size + 1, 1, none⟩ = some (.bool t.ended) := by rw [cell_of_row _ _ _ _ _ _ ht1]; rfl
  have s2 : W1.cell? ⟨w.heap.size + 1, 2, none⟩ = some (.int .i64 t.code) := by rw [cell_of_row _ _ _ _ _ _ ht1]; rfl
  have s3 : W1.cell? ⟨w.heap.size + 1, 3, none⟩ = some (.int .i64 t.stage) := by rw [cell_of_row _ _ _ _ _ _ ht1]; rfl
  have s4 : W1.cell? ⟨w.heap.size + 1, 4, none⟩ = some (.int .i64 t.id) := by rw [cell_of_row _ _ _ _ _ _ ht1]; rfl
  have HB1 := Lib.hid hb1
  have HT1 := Lib.hid ht1
  clear hb1 hg1 ht1 hmid hcv c0 c1 c2 c3 c4
  rcases HC.out with ⟨d1, d2, d3⟩ | ⟨d1, d2, d3, d4⟩ | ⟨d1, d2, k, i, d3, d4, d5, d6, d7⟩
  · rw [d1] at s1
    rw [d2] at n4
    rw [d3] at n5
    clear d1 d2 d3
    go_wp2_with fail
    rw [rounds_succ]
    go_wp2_with fail
    go_ret
    exact ⟨rfl, HB1.out⟩
  · rw [d1] at s1
    rw [d2] at n4
    rw [d4] at s2
    have q1 : (g.err != 0) = true := by simpa using d3
    have q2 : (g.err == 0) = false := by simpa using d3
    clear d1 d2 d3 d4
    go_wp2_with fail
    rw [rounds_succ]
    go_wp2_with fail
    go_ret
    exact ⟨rfl, HB1.out⟩
  · rw [d1] at s1
    rw [d2] at n5
    rw [d3] at n4
    rw [d5] at s2
    rw [d6] at s3
    rw [d7] at s4
    obtain ⟨_, _, e, hcs⟩ := HI.out W1 HB1.out
    cases e
    obtain ⟨gi, oi, bi, rfl, -, -, -, i2, i3, i4, -⟩ := hcs k i d4
    have hk : k < ins.length := (List.getElem?_eq_some_iff.1 d4).1
    have q1 : (0 : Int) ≤ (k : Int) := by omega
    have q2 : (k : Int) < (ins.length : Int) := by omega
    have q3 : ¬ (ins.length : Int) ≤ (k : Int) := by omega
    have q4 : ¬ (k : Int) < 0 := by omega
    have q5 : ((k : Int) != -1) = true := by simp
    clear d1 d2 d3 d4 d5 d6 d7 hcs
    have hneq := neq_fault i.code i.stage i.id
    go_upto_region 21 with fail
    go_region
    go_wp2_with fail
    rw [rounds_succ]
    go_wp2_with fail
    go_ret
    exact ⟨rfl, HB1.out.drew⟩

end Go.Proofs.YtlflhjgfegflfaaDoor
