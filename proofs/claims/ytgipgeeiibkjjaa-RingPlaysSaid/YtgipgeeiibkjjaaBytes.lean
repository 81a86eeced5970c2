/- Slices of bytes in memory; stores and copies into a block among the last ones. -/
import Derived.Test.YtgipgeeiibkjjaaSmall
import Derived.Laws.CopyOwn
namespace Go.Proofs.Ytgipgeeiibkjjaa
open Go.RowKit

/-- The value is a slice that reads as these bytes. -/
def IsBytes (w : World) (v : Value) (bs : List UInt8) : Prop :=
  ∃ a cap, v = .slice a bs.length cap ∧ ∀ j c, bs[j]? = some c → ∃ ad, a = some ad ∧ w.cell? (ad.add j) = some (.int .u8 c.toNat)

theorem add_block (a : Addr) (j : Nat) : (a.add j).block = a.block := by unfold Addr.add; split <;> rfl

theorem cell_below {w w' : World} (hb : Below w.heap.size w w') {a : Addr} {v : Value} (h : w.cell? a = some v) : w'.cell? a = some v := by
  rw [hb.cell (block_lt_of_cell h), h]

theorem IsBytes.below {w w' : World} {v : Value} {bs : List UInt8} (h : IsBytes w v bs) (hb : Below w.heap.size w w') : IsBytes w' v bs := by
  obtain ⟨a, cap, rfl, hc⟩ := h
  refine ⟨a, cap, rfl, fun j c hj => ?_⟩
  obtain ⟨ad, rfl, hx⟩ := hc j c hj
  exact ⟨ad, rfl, cell_below hb hx⟩

theorem bytesL_get {bs : List UInt8} {j : Nat} {v : Value} (h : (bytesL bs)[j]? = some v) : ∃ c, bs[j]? = some c ∧ v = .int .u8 c.toNat := by
  rw [bytesL, List.getElem?_map] at h
  cases hc : bs[j]? with
  | none => rw [hc] at h; cases h
  | some c => rw [hc] at h; exact ⟨c, rfl, (Option.some.inj h).symm⟩

theorem heap_at {w : World} {o : Obj} {g : Nat} (hw : w.heap.size = g) : (w.alloc o).heap[g]? = some o := by subst hw; exact heap_alloc_last w o

/-- A copy of bytes into the block that was made last. -/
theorem wpList_copy_last {P : Program} {ops : Array Oper} {rest : List Oper} {o : Oper} {a : Act} {w : World} {Q : Exit → Act → World → Prop} (hgd : o.guard = none) (d s : Operand) (dT sT : TypeId)
    (ho : o.op = .call { callee := .builtin .copy, args := #[d, s], argTypes := #[dT, sT] }) (elem : TypeId) (hu : P.underlying dT = some (.slice elem)) (hsz : (P.info? elem).map (·.size) = some 1)
    (g off dLen dCap : Nat) (hw : w.heap.size = g) (ad : Addr) (sLen sCap : Nat) (hd : a.eval d = .slice (some ⟨g, off, none⟩) dLen dCap) (hs : a.eval s = .slice (some ad) sLen sCap)
    (cur new : Array Value) (t : TypeId) (cs : List Value) (hn : cs.length = Nat.min sLen dLen)
    (hsrc : ∀ j v, cs[j]? = some v → w.cell? (ad.add j) = some v) (hfit : off + cs.length ≤ cur.size) (h1 : ∀ v ∈ cs, v.oneCell' = true)
    (hnew : (cur.toList.take off ++ (cs ++ cur.toList.drop (off + cs.length))).toArray = new)
    (h : wpList P ops Q rest (a.put o.dst (goInt cs.length)) (w.alloc (.cells new t))) : wpList P ops Q (o :: rest) a (w.alloc (.cells cur t)) := by
  subst hw
  refine wpList_copy_own hgd d s dT sT ho elem hu hsz w.heap.size off dLen dCap ad sLen sCap hd hs cur t (heap_alloc_last w _) cs hn (fun j v hj => ?_) hfit h1 ?_
  · exact cell_below ((Below.refl _ _).alloc (Nat.le_refl _) _) (hsrc j v hj)
  · rw [World.setRow_alloc_new, hnew]
    exact h

theorem setRow_alloc_old (w : World) (o : Obj) (g : Nat) (cs : Array Value) (h : g < w.heap.size) : (w.alloc o).setRow g cs = (w.setRow g cs).alloc o := by
  simp only [World.setRow, World.alloc]
  congr 1
  apply Array.ext_getElem?
  intro i
  rw [Array.getElem?_modify, Array.getElem?_push, Array.getElem?_push]
  simp only [Array.size_modify, Array.getElem?_modify]
  by_cases hi : i = w.heap.size
  · subst hi
    have : ¬ g = w.heap.size := by omega
    simp [this]
  · simp [hi]

/-- A store of many cells into the middle of the block that was made first of three. -/
theorem wpList_store_first3 {P : Program} {ops : Array Oper} {rest : List Oper} {o : Oper} {a : Act} {w : World} {Q : Exit → Act → World → Prop} (hgd : o.guard = none) (ty : TypeId) (x y : Operand) (ho : o.op = .store ty x y)
    (off : Nat) (cells old new : Array Value) (t : TypeId) (o1 o2 : Obj) (hx : a.eval x = .pointer (some ⟨w.heap.size, off, none⟩)) (hy : a.eval y = .agg cells)
    (n : Nat) (hi : (P.info? ty).map (·.size) = some n) (hc : cells.size = n) (hfit : off + cells.size ≤ old.size) (h1 : cells.all (·.oneCell') = true)
    (hnew : (old.toList.take off ++ cells.toList ++ old.toList.drop (off + cells.size)).toArray = new)
    (h : wpList P ops Q rest (a.put o.dst undef) (((w.alloc (.cells new t)).alloc o1).alloc o2)) : wpList P ops Q (o :: rest) a (((w.alloc (.cells old t)).alloc o1).alloc o2) := by
  have hg : (((w.alloc (.cells old t)).alloc o1).alloc o2).heap[w.heap.size]? = some (.cells old t (0, 0)) := by
    rw [Below.heap_alloc _ _ _ (by simp; omega)]
    exact heap_alloc2_old w _ _
  have hst := run_storeCells_at P w.heap.size off t cells.toList 0 old _ hg (by simpa using hfit) (fun v hv => (Array.all_eq_true_iff_forall_mem.1 h1) v (by simpa using hv))
  simp only [Nat.add_zero, Array.length_toList] at hst
  rw [hnew, setRow_alloc_old _ _ _ _ (by simp; omega), setRow_alloc_old _ _ _ _ (by simp), World.setRow_alloc_new] at hst
  refine wpList_plain hgd fun K hK => ?_
  unfold Oper.wp execOp
  cases hq : P.info? ty with
  | none => simp [hq] at hi
  | some i =>
    have hs : cells.size = i.size := by simp [hq] at hi; omega
    have hrun : (storeVar ty ⟨w.heap.size, off, none⟩ (.agg cells)).run P (((w.alloc (.cells old t)).alloc o1).alloc o2) = .ok () (((w.alloc (.cells new t)).alloc o1).alloc o2) := by
      simp [storeVar, sizeOf, typeInfo, hq, Value.cells, hs, hst]
    simp only [ho, hx, hy, Instr.storeAt, Instr.sureAddr, Sem.run_bind, Sem.run_pure, Result.andThen_ok, hrun]
    exact hK _ _ h

end Go.Proofs.Ytgipgeeiibkjjaa
