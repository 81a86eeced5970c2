/- What Pop does, of every ring that may be. -/
import Derived.Test.YtgipgeeiibkjjaaChunk
import Derived.StillTailTactics
import Derived.Deep.Cut
namespace Go.Proofs.Ytgipgeeiibkjjaa
open Go.RowKit

/-- copy, of elements of many cells, into a block that is known whole. -/
theorem wpList_copy_block {P : Program} {w : World} {ops : Array Oper} {rest : List Oper} {o : Oper} {a : Act} {Q : Exit → Act → World → Prop} (hgd : o.guard = none) (d s : Operand) (dT sT : TypeId)
    (ho : o.op = .call { callee := .builtin .copy, args := #[d, s], argTypes := #[dT, sT] }) (elem : TypeId) (hu : P.underlying dT = some (.slice elem)) (sz : Nat) (hsz : (P.info? elem).map (·.size) = some sz)
    (g off dLen dCap : Nat) (ad : Addr) (sLen sCap : Nat) (hd : a.eval d = .slice (some ⟨g, off, none⟩) dLen dCap) (hs : a.eval s = .slice (some ad) sLen sCap)
    (cur new : Array Value) (t : TypeId) (hg : w.heap[g]? = some (.cells cur t (0, 0))) (cs : List Value) (n : Nat) (hm : Nat.min sLen dLen = n) (hn : cs.length = n * sz)
    (hsrc : ∀ j v, cs[j]? = some v → w.cell? (ad.add j) = some v) (hfit : off + cs.length ≤ cur.size) (h1 : ∀ v ∈ cs, v.oneCell' = true)
    (hnew : (cur.toList.take off ++ cs ++ cur.toList.drop (off + cs.length)).toArray = new)
    (h : wpList P ops Q rest (a.put o.dst (goInt n)) (w.setRow g new)) : wpList P ops Q (o :: rest) a w := by
  refine wpList_plain hgd fun K hK => ?_
  have hl := run_loadCells_list (P := P) w ad cs hsrc
  have hst := run_storeCells_at P g off t cs 0 cur w hg (by simpa using hfit) h1
  simp only [Nat.add_zero] at hst
  rw [hnew] at hst
  have hrun : (Builtin.copy_ #[dT, sT] o.type #[.slice (some ⟨g, off, none⟩) dLen dCap, .slice (some ad) sLen sCap]).run P w = .ok (goInt n) (w.setRow g new) := by
    cases hq : P.info? elem with
    | none => simp [hq] at hsz
    | some i =>
      have hi : i.size = sz := by simpa [hq] using hsz
      simp [Builtin.copy_, run_underlying hu, Builtin.lenOf, Builtin.firstCells, sizeOf, typeInfo, hq, hi, hm, ← hn, hl, hst]
  unfold Oper.wp
  simp [execOp, ho, resolve, invoke, builtin, hd, hs, hrun, Result.andThen]
  exact hK _ _ h

/-- A store of many cells into a block that is known whole. -/
theorem wpList_store_block {P : Program} {ops : Array Oper} {rest : List Oper} {o : Oper} {a : Act} {w : World} {Q : Exit → Act → World → Prop} (hgd : o.guard = none) (ty : TypeId) (x y : Operand) (ho : o.op = .store ty x y)
    (g off : Nat) (cells old new : Array Value) (t : TypeId) (hg : w.heap[g]? = some (.cells old t (0, 0))) (hx : a.eval x = .pointer (some ⟨g, off, none⟩)) (hy : a.eval y = .agg cells)
    (n : Nat) (hi : (P.info? ty).map (·.size) = some n) (hc : cells.size = n) (hfit : off + cells.size ≤ old.size) (h1 : cells.all (·.oneCell') = true)
    (hnew : (old.toList.take off ++ cells.toList ++ old.toList.drop (off + cells.size)).toArray = new)
    (h : wpList P ops Q rest (a.put o.dst undef) (w.setRow g new)) : wpList P ops Q (o :: rest) a w := by
  have hst := run_storeCells_at P g off t cells.toList 0 old _ hg (by simpa using hfit) (fun v hv => (Array.all_eq_true_iff_forall_mem.1 h1) v (by simpa using hv))
  simp only [Nat.add_zero, Array.length_toList] at hst
  rw [hnew] at hst
  refine wpList_plain hgd fun K hK => ?_
  unfold Oper.wp execOp
  cases hq : P.info? ty with
  | none => simp [hq] at hi
  | some i =>
    have hs : cells.size = i.size := by simp [hq] at hi; omega
    have hrun : (storeVar ty ⟨g, off, none⟩ (.agg cells)).run P w = .ok () (w.setRow g new) := by
      simp [storeVar, sizeOf, typeInfo, hq, Value.cells, hs, hst]
    simp only [ho, hx, hy, Instr.storeAt, Instr.sureAddr, Sem.run_bind, Sem.run_pure, Result.andThen_ok, hrun]
    exact hK _ _ h

/-- Two blocks of the call's own have turned, nothing else. -/
structure Turned (B : Nat) (w w' : World) : Prop where
  os : w'.os = w.os
  tape : w'.tape = w.tape
  output : w'.output = w.output
  size : w'.heap.size = w.heap.size
  block : ∀ k, k ≠ B → k ≠ B + 1 → w'.heap[k]? = w.heap[k]?
theorem Turned.drew (B : Nat) (w : World) : Turned B w w.drew := ⟨rfl, rfl, rfl, rfl, fun _ _ _ => rfl⟩
theorem Turned.trans {B : Nat} {a b c : World} (h : Turned B a b) (k : Turned B b c) : Turned B a c :=
  ⟨k.os.trans h.os, k.tape.trans h.tape, k.output.trans h.output, k.size.trans h.size, fun i h1 h2 => (k.block i h1 h2).trans (h.block i h1 h2)⟩
theorem Turned.row {B : Nat} (w : World) {g : Nat} (cs : Array Value) (hg : g = B ∨ g = B + 1) : Turned B w (w.setRow g cs) :=
  ⟨rfl, rfl, rfl, by simp, fun k h1 h2 => setRow_other w g k cs (by omega)⟩
theorem Turned.cell {B : Nat} (w : World) {p : Addr} (v : Value) (hg : p.block = B ∨ p.block = B + 1) : Turned B w (w.setCell p v) :=
  ⟨rfl, rfl, rfl, by simp [World.setCell], fun k h1 h2 => Below.heap_setCell w p v k (by omega)⟩
theorem Turned.below {B : Nat} {w w' : World} (h : Turned B w w') : Below B w w' :=
  ⟨h.os, h.tape, h.output, Nat.le_of_eq h.size.symm, fun k hk => h.block k (by omega) (by omega)⟩
theorem Turned.owns {B : Nat} {w w' : World} (h : Turned B w w') {e : TypeId} {size : Nat} {v : Value} {n : Nat} {xs : List Value} (ho : w.ownsRow (B + 2) e size v n xs) : w'.ownsRow (B + 2) e size v n xs := by
  obtain ⟨h1, h2⟩ := ho
  refine ⟨h1, ?_⟩
  rcases h2 with h2 | ⟨g, cap, cur, h3, h4, h5, h6⟩
  · exact .inl h2
  · exact .inr ⟨g, cap, cur, h3, h4, (h.block g (by omega) (by omega)).trans h5, h6⟩

/-! The plain part. -/
def popM (b : List UInt8) (L : Chunks) : List Value := (cellsL (b :: L)).drop (L.length * 33)
def popR (c n : Nat) (b : List UInt8) (L : Chunks) : Array Value := (.int .i64 c :: .int .i64 n :: (L.flatMap cellL ++ popM b L) : List Value).toArray

theorem cellsL_cons (b : List UInt8) (L : Chunks) : cellsL (b :: L) = cellL b ++ (L.flatMap cellL ++ (List.replicate (7 - L.length) []).flatMap cellL) := by
  unfold cellsL
  rw [List.length_cons, show 8 - (L.length + 1) = 7 - L.length by omega, List.cons_append, List.flatMap_cons, List.flatMap_append]

theorem Good.tail {c : Nat} {b : List UInt8} {L : Chunks} (h : Good c (b :: L)) : Good c L :=
  ⟨h.cap, by have := h.len; simp at this; omega, fun x hx => h.each x (by simp [hx])⟩
theorem Good.headLe {c : Nat} {b : List UInt8} {L : Chunks} (h : Good c (b :: L)) : 1 ≤ b.length ∧ b.length ≤ 32 := h.each b (by simp)

theorem ringA_first (c : Nat) {b : List UInt8} {L : Chunks} (j : Nat) (v : Value) (hv : (cellL b)[j]? = some v) : (ringA c (b :: L))[2 + j]? = some v := by
  have hj : j < (cellL b).length := (List.getElem?_eq_some_iff.1 hv).1
  rw [Nat.add_comm]
  simp only [ringA, ringL, List.getElem?_toArray, List.getElem?_cons_succ, cellsL_cons]
  rw [List.getElem?_append_left hj, hv]
theorem ringA_rest {c : Nat} {b : List UInt8} {L : Chunks} (h : Good c (b :: L)) (j : Nat) (v : Value) (hv : (L.flatMap cellL)[j]? = some v) : (ringA c (b :: L))[35 + j]? = some v := by
  have hj : j < (L.flatMap cellL).length := (List.getElem?_eq_some_iff.1 hv).1
  have hb := length_cellL b h.headLe.2
  rw [show 35 + j = (33 + j) + 1 + 1 by omega]
  simp only [ringA, ringL, List.getElem?_toArray, List.getElem?_cons_succ, cellsL_cons]
  rw [List.getElem?_append_right (by omega), hb, Nat.add_sub_cancel_left, List.getElem?_append_left hj, hv]

theorem popR_copy {c : Nat} {b : List UInt8} {L : Chunks} (h : Good c (b :: L)) :
    ((ringA c (b :: L)).toList.take 2 ++ L.flatMap cellL ++ (ringA c (b :: L)).toList.drop (2 + (L.flatMap cellL).length)).toArray = popR c (L.length + 1) b L := by
  rw [length_flat L h.tail.le, show 2 + 33 * L.length = L.length * 33 + 2 by omega]
  simp [ringA, ringL, popR, popM]
theorem size_popR {c n : Nat} {b : List UInt8} {L : Chunks} (h : Good c (b :: L)) : (popR c n b L).size = 266 := by
  have h1 := length_cellsL h
  have h2 := length_flat L h.tail.le
  have h3 := h.len
  have h4 := h.cap
  simp [popR, popM] at h3 ⊢
  rw [← List.length_flatMap, h1, h2]; omega
theorem popR_1 (c n : Nat) (b : List UInt8) (L : Chunks) : (popR c n b L)[1]? = some (.int .i64 n) := by simp [popR]
theorem popR_set (c n : Nat) (b : List UInt8) (L : Chunks) : (popR c (n + 1) b L).setIfInBounds 1 (.int .i64 n) = popR c n b L := by simp [popR]
theorem popM_parts {c : Nat} {b : List UInt8} {L : Chunks} (h : Good c (b :: L)) : ∃ X, X.length = 33 ∧ popM b L = X ++ (List.replicate (7 - L.length) []).flatMap cellL := by
  have hb := length_cellL b h.headLe.2
  have hL := length_flat L h.tail.le
  have e : cellsL (b :: L) = (cellL b ++ L.flatMap cellL) ++ (List.replicate (7 - L.length) []).flatMap cellL := by rw [cellsL_cons, List.append_assoc]
  refine ⟨(cellL b ++ L.flatMap cellL).drop (L.length * 33), ?_, ?_⟩
  · rw [List.length_drop, List.length_append, hb, hL]; omega
  · rw [popM, e, List.drop_append, show L.length * 33 - (cellL b ++ L.flatMap cellL).length = 0 by rw [List.length_append, hb, hL]; omega, List.drop_zero]
theorem popR_zero {c : Nat} {b : List UInt8} {L : Chunks} (h : Good c (b :: L)) :
    ((popR c L.length b L).toList.take (2 + L.length * 33) ++ (cellL []).toArray.toList ++ (popR c L.length b L).toList.drop (2 + L.length * 33 + (cellL []).toArray.size)).toArray = ringA c L := by
  obtain ⟨X, hX, e⟩ := popM_parts h
  have h8 := h.cap
  have hl := h.len
  simp at hl
  have e2 : (popR c L.length b L).toList = (.int .i64 c :: .int .i64 L.length :: L.flatMap cellL) ++ (X ++ (List.replicate (7 - L.length) []).flatMap cellL) := by
    simp [popR, e]
  have := take_drop_mid (.int .i64 c :: .int .i64 L.length :: L.flatMap cellL) X (cellL []) ((List.replicate (7 - L.length) []).flatMap cellL) (2 + L.length * 33)
    (by simp only [List.length_cons, length_flat L h.tail.le]; omega) (by rw [length_cellL [] (by simp), hX])
  rw [e2, List.size_toArray, this]
  simp [ringA, ringL, cellsL_parts L (by omega)]
theorem Try.built27_zero : Try.prog.built 27 [] = some (cellL []).toArray := by kernel_rfl

end Go.Proofs.Ytgipgeeiibkjjaa
