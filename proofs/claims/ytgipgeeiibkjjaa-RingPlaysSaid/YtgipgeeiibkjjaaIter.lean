/- What a ring's iterator does, whatever the round does with what it is handed: each round is handed a slice of the iterator's own making, which holds the next chunk. -/
import Derived.Test.YtgipgeeiibkjjaaPops
import Derived.RangeFuncNested
import Derived.RangeFuncBound
import Derived.RangeFuncCalls
import Derived.RangeFuncLeaves
import Derived.Shelf.Abstract
import Derived.Shelf.RegionOpen
import Derived.OwnWalkIn
import Derived.TacticsInMore
import Derived.LoopNIn
import Derived.LoopIn
namespace Go.Proofs.Ytgipgeeiibkjjaa
open Go.RowKit Go.Shelf
attribute [local go_sem] Oper.semAt_some

/-- A load of many cells, inside a fence. -/
theorem wpListIn_load_mid {F : Fence} {n : Nat} {P : Program} {ops : Array Oper} {rest : List Oper} {op : Oper} {a : Act} {w : World} {Q : Exit → Act → World → Prop} (hgd : op.guard = none) (ty : TypeId) (x : Operand) (ho : op.op = .load ty x)
    (b o : Nat) (hx : a.eval x = .pointer (some ⟨b, o, none⟩)) (cs : List Value) (d : TypeDesc) (hc : w.rangeAt b o cs)
    (hu : P.underlying ty = some d) (hd : d.isRow = true) (hi : (P.info? ty).map (·.size) = some cs.length)
    (h : wpListIn F n P ops Q rest (a.put op.dst (.agg cs.toArray)) w) : wpListIn F n P ops Q (op :: rest) a w := by
  refine wpListIn_plain hgd fun K hK => ?_
  unfold Oper.wpIn
  refine ⟨by simp [Oper.about, ho], ?_⟩
  rw [Oper.semAt_plain F _ _ (by rw [ho]; intro c hc'; cases hc')]
  simp only [execOp, ho, hx, Instr.loadAt, Instr.sureAddr, Sem.run_bind, Sem.run_pure, Result.andThen_ok, run_loadVar_mid w b o ty cs d hc hu hd hi]
  exact hK _ _ h

theorem ring_at {c : Nat} {L : Chunks} (hG : Good c L) {k : Nat} {b : List UInt8} (hk : L[k]? = some b) (j : Nat) (v : Value) (hv : (cellL b)[j]? = some v) : (ringA c L)[2 + k * 33 + j]? = some v := by
  have hlt : k < L.length := (List.getElem?_eq_some_iff.1 hk).1
  have hb : b.length ≤ 32 := hG.le b (List.mem_of_getElem? hk)
  have hj : j < 33 := by have := (List.getElem?_eq_some_iff.1 hv).1; rwa [length_cellL b hb] at this
  obtain ⟨A, R, e, hA⟩ : ∃ A R, L = A ++ b :: R ∧ A.length = k := ⟨L.take k, L.drop (k + 1), by
    have h2 := (List.getElem?_eq_some_iff.1 hk).2
    rw [← h2, List.getElem_cons_drop, List.take_append_drop], by simp; omega⟩
  have hAl : (A.flatMap cellL).length = 33 * k := by rw [length_flat A (fun x hx => hG.le x (by rw [e]; simp [hx])), hA]
  rw [show 2 + k * 33 + j = (33 * k + j) + 1 + 1 by omega]
  have e2 : cellsL L = A.flatMap cellL ++ (cellL b ++ (R ++ List.replicate (8 - L.length) []).flatMap cellL) := by
    unfold cellsL
    rw [← List.flatMap_cons, ← List.flatMap_append, ← List.cons_append, ← List.append_assoc, ← e]
  simp only [ringA, ringL, List.getElem?_toArray, List.getElem?_cons_succ, e2]
  rw [List.getElem?_append_right (by omega), hAl, Nat.add_sub_cancel_left, List.getElem?_append_left (by rw [length_cellL b hb]; exact hj), hv]

set_option maxRecDepth 100000 in
set_option maxHeartbeats 800000 in
theorem all1_in (n l Br c s0 : Nat) (L : Chunks) (hG : Good c L) (J : Nat → World → Prop) (Jx : World → Prop)
    (hJ : ∀ k A B, J k A → Below A.heap.size A B → J k B) (hR : ∀ k W, J k W → W.heap[Br]? = some (.cells (ringA c L) 30 (0, 0))) (hS : ∀ k W, J k W → s0 ≤ W.heap.size)
    (hY : ∀ k b v W, J k W → L[k]? = some b → W.ownsRow s0 5 1 v b.length (bytesL b) → YieldAt Fence.wide (n - 1) Try.prog l #[.int .i64 k, v] W fun e W' =>
      (e = .returned (.bool true) ∧ J (k + 1) W') ∨ (e = .returned (.bool false) ∧ Jx W'))
    (W : World) (h0 : J 0 W) :
    CallsIn Fence.wide n Try.prog 28 #[.func (.yield l) #[] #[], .pointer (some ⟨Br, 0, none⟩)] W fun e W' => (∃ v, e = .returned v) ∧ (J L.length W' ∨ Jx W') := by
  have h8 := hG.cap
  have hlen := hG.len
  have HJ := Lib.hid hJ
  have HR := Lib.hid hR
  have HS := Lib.hid hS
  have HY := Lib.hid hY
  clear hJ hR hS hY
  have hcount : ∀ k W, J k W → W.cell? ⟨Br, 1, none⟩ = some (.int .i64 L.length) := fun k W h => (cell_of_row _ _ _ _ _ _ (HR.out k W h)).trans (ringA_1 c L)
  have hc0 := hcount 0 W h0
  clear hcount
  refine callsIn_of_wp Try.func28 rfl trivial ?_ rfl
  simp only [Try.ntmps28, List.size_toArray, List.length_cons, List.length_nil, Nat.reduceAdd, Nat.reduceSub, Array.replicate_succ, Array.replicate_zero, List.push_toArray, List.append_toArray, List.nil_append, List.cons_append]
  gi_wp2
  gi_loopw [6] (fun i wr => ∃ k : Nat, k ≤ L.length ∧ i = .int .i64 k ∧ J k wr) (fun i _ => L.length - (intOf i).toNat)
  case atStart => exact ⟨0, Nat.zero_le _, rfl, h0⟩
  case round =>
    obtain ⟨k, hk, rfl, hJk⟩ := hrel
    by_cases hlt : k < L.length
    · obtain ⟨b, hb⟩ : ∃ b, L[k]? = some b := ⟨L[k], by simp [hlt]⟩
      have hb32 : b.length ≤ 32 := hG.le b (List.mem_of_getElem? hb)
      have g1 : (k : Int) < 8 := by omega
      have g0 : (0 : Int) ≤ (k : Int) := by omega
      have HB := Lib.hid hb
      clear hb hc0
      gi_wp2_with ((with_reducible refine wpListIn_load_mid rfl 27 (.tmp 13) rfl Br (2 + k * 33) rfl (cellL b) _ ?hr Try.underlying27 rfl (by rw [Try.size27, length_cellL b hb32]) ?_))
      case hr =>
        intro j v hv
        rw [cell_of_row _ _ _ _ _ _ (HR.out k _ hJk)]
        exact ring_at hG HB.out j v hv
      refine ⟨trivial, (fun h => by cases h), (callsIn_wide.2 (chunk_any b _ hb32)).mono ?_⟩
      rintro e w3 ⟨v, rfl, ho, hbel⟩
      have hJ3 := HJ.out k _ _ hJk hbel
      obtain ⟨fn, tmps, assign, body, hy, hRound⟩ := HY.out k b v w3 hJ3 HB.out (ownsRow_base ho (HS.out k _ hJk))
      clear ho hbel
      gi_wp2_with fail
      refine ⟨(fun h => by cases h), hRound.mono ?_⟩
      rintro e w4 (⟨rfl, hJ4⟩ | ⟨rfl, hJx⟩)
      · gi_wp2_with fail
        go_roundw
        case rel => exact ⟨k + 1, by omega, by go_num, hJ4⟩
        case measure => simp [intOf]; omega
      · gi_wp2_with fail
        refine bodyPost_ret (results_none rfl _ _ _) rfl ?_
        exact ⟨⟨_, rfl⟩, .inr hJx⟩
    · have hge : ¬ ((k : Int) < (L.length : Int)) := by omega
      obtain rfl : k = L.length := by omega
      clear hlt
      gi_wp2
      go_end0
      exact ⟨⟨_, rfl⟩, .inl hJk⟩

end Go.Proofs.Ytgipgeeiibkjjaa
