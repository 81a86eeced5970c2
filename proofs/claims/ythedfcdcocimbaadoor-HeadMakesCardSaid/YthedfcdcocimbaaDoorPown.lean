/- What Own does: the same parameters, in memory of their own. -/
import Derived.Test.YthedfcdcocimbaaDoorPsame
import Derived.Test.YthedfcdcocimbaaDoorPunlike
namespace Go.Proofs.YthedfcdcocimbaaDoor.Pm
open Go.RowKit

/-- The bytes as cells. -/
def bytesL (b : List UInt8) : List Value := b.map fun c => .int .u8 c.toNat
theorem length_bytesL (b : List UInt8) : (bytesL b).length = b.length := by simp [bytesL]
theorem one_bytesL (b : List UInt8) : ∀ v ∈ bytesL b, v.oneCell' = true := by
  intro v hv
  obtain ⟨c, _, rfl⟩ := List.mem_map.1 hv
  rfl
theorem bytesL_get {bs : List UInt8} {j : Nat} {v : Value} (h : (bytesL bs)[j]? = some v) : ∃ c, bs[j]? = some c ∧ v = .int .u8 c.toNat := by
  rw [bytesL, List.getElem?_map] at h
  cases hc : bs[j]? with
  | none => rw [hc] at h; cases h
  | some c => rw [hc] at h; exact ⟨c, rfl, (Option.some.inj h).symm⟩
theorem Tryd.info5 : (Tryd.prog.info? 5).map (fun i => (i.zero, i.size, i.bytes)) = some (some (.int .u8 0), 1, 1) := by kernel_rfl
theorem Tryd.size24 : (Tryd.prog.info? 24).map (·.size) = some 4 := by kernel_rfl
theorem info_parts {P : Program} {t : TypeId} {z : Value} {s b : Nat} (h : (P.info? t).map (fun i => (i.zero, i.size, i.bytes)) = some (some z, s, b)) : ∃ i, P.info? t = some i ∧ i.zero = some z ∧ i.size = s ∧ i.bytes = b := by
  cases hq : P.info? t with
  | none => rw [hq] at h; cases h
  | some i =>
    rw [hq] at h
    simp only [Option.map_some, Option.some.injEq, Prod.mk.injEq] at h
    exact ⟨i, rfl, h.1, h.2.1, h.2.2⟩
theorem isBytes_of_owns {base : Nat} {w : World} {v : Value} {b : List UInt8} (h : w.ownsRow base 5 1 v b.length (bytesL b)) : IsBytes w v b := by
  have h' := h
  rcases h.2 with ⟨rfl, h0⟩ | ⟨g, cap, cur, rfl, hb, _, hle, _⟩
  · refine ⟨none, 0, by rw [h0], by omega, fun j c hj => ?_⟩
    rw [List.eq_nil_of_length_eq_zero h0] at hj
    simp at hj
  · refine ⟨_, cap, rfl, by omega, fun j c hj => ⟨g, 0, rfl, ?_⟩⟩
    have := World.ownsRow.cells h' (g := g) rfl j (.int .u8 c.toNat) (by simp [bytesL, hj])
    rwa [Addr.add_mid] at this
theorem run_append_owned_none' {P : Program} {w : World} (base : Nat) (t ty e : TypeId) (i : TypeInfo) (size c : Nat) (ht : P.underlying t = some (.slice e)) (hi : P.info? e = some i)
    (v : Value) (n : Nat) (xs : List Value) (hown : w.ownsRow base e size v n xs) : (Builtin.append_ #[t, t] ty #[v, .slice none 0 c]).run P w = .ok v w := by
  rcases hown.2 with ⟨rfl, rfl⟩ | ⟨g, cap, cur, rfl, _, _, hnc, _⟩
  · simp [Builtin.append_, run_underlying ht, sizeOf, typeInfo, hi, Builtin.lenOf, Builtin.firstCells]
  · simp [Builtin.append_, run_underlying ht, sizeOf, typeInfo, hi, Builtin.lenOf, Builtin.firstCells, hnc, storeCells]

/-- Bytes behind a row of none, in memory of the call's own. -/
theorem wpList_append_fresh {ops : Array Oper} {rest : List Oper} {o : Oper} {a : Act} {w : World} {Q : Exit → Act → World → Prop} (hgd : o.guard = none) (s x : Operand) (ho : o.op = .call { callee := .builtin .append, args := #[s, x], argTypes := #[22, 22] })
    (base : Nat) (v vs : Value) (bs : List UInt8) (hs : a.eval s = v) (hown : w.ownsRow base 5 1 v 0 []) (hx : a.eval x = vs) (hsrc : IsBytes w vs bs)
    (hlen : bs.length ≤ 10000000) (hbase : base ≤ w.heap.size)
    (h : ∀ v' w', w'.ownsRow base 5 1 v' bs.length (bytesL bs) → w.grownBy w' v.ownBlock → wpList Tryd.prog ops Q rest (a.put o.dst v') w') : wpList Tryd.prog ops Q (o :: rest) a w := by
  obtain ⟨i0, hi, hz0, hz1, hz2⟩ := info_parts Tryd.info5
  obtain ⟨ad, cap, rfl, -, hc⟩ := hsrc
  cases ad with
  | none =>
    have hb : bs = [] := by
      cases bs with
      | nil => rfl
      | cons x r =>
        obtain ⟨_, _, e, _⟩ := hc 0 x rfl
        cases e
    subst hb
    refine wpList_plain hgd fun K hK => ?_
    have hrun := run_append_owned_none' (P := Tryd.prog) (w := w) base 22 o.type 5 i0 1 cap Tryd.underlying22 hi v 0 _ hown
    unfold Oper.wp
    simp [execOp, ho, resolve, invoke, builtin, hs, hx, hrun, Result.andThen]
    exact hK _ _ (h v w (by simpa [bytesL] using hown) ⟨rfl, rfl, rfl, Nat.le_refl _, fun _ _ _ => rfl⟩)
  | some ad =>
    refine wpList_append_own w hgd s x 22 ho base 5 i0 (.int .u8 0) 1 1 Tryd.underlying22 hi hz0 hz1 hz2 rfl (by decide) v 0 _ hs hown ad bs.length cap (bytesL bs) hx (by rw [length_bytesL]; omega)
      (fun j u hu => ?_) (one_bytesL bs) (by unfold maxLen; omega) (by omega) hbase ?_
    · obtain ⟨c, hj, rfl⟩ := bytesL_get hu
      obtain ⟨gb, off, e, h⟩ := hc j c hj
      cases e
      rw [Addr.add_mid]
      exact h
    · intro v' w' ho' hg' _
      exact h v' w' (by simpa using ho') hg'

/-- What Own answers. -/
def OwnEnd (w : World) (k n : Int) (A B : List UInt8) (e : Ending) (w' : World) : Prop := ∃ va vb, e = .returned (parV k n va vb) ∧ IsBytes w' va A ∧ IsBytes w' vb B ∧ Below w.heap.size w w'

/-- Two parameters lie in blocks w.heap.size and the next one; the first one's fields are these. -/
structure Owning (w : World) (k n : Int) (va vb : Value) (W : World) : Prop where
  box : W.heap[w.heap.size]? = some (.cells #[.int .i64 k, .int .i64 n, va, vb] 24 (0, 0))
  res : W.heap[w.heap.size + 1]? = some (.cells #[.int .i64 0, .int .i64 0, .slice none 0 0, .slice none 0 0] 24 (0, 0))
  below : Below w.heap.size w W
theorem Owning.size {w W : World} {k n : Int} {va vb : Value} (h : Owning w k n va vb W) : w.heap.size + 2 ≤ W.heap.size := by
  have := (Array.getElem?_eq_some_iff.1 h.res).1
  omega
theorem Owning.start (w : World) (k n : Int) (va vb : Value) :
    Owning w k n va vb ((w.alloc (.cells #[.int .i64 k, .int .i64 n, va, vb] 24)).alloc (.cells #[.int .i64 0, .int .i64 0, .slice none 0 0, .slice none 0 0] 24)) := by
  refine ⟨?_, ?_, ((Below.refl _ _).alloc (Nat.le_refl _) _).alloc (by simp) _⟩
  · rw [Below.heap_alloc _ _ _ (by simp)]; exact heap_alloc_last w _
  · have := heap_alloc_last (w.alloc (.cells #[.int .i64 k, .int .i64 n, va, vb] 24)) (.cells #[.int .i64 0, .int .i64 0, .slice none 0 0, .slice none 0 0] 24)
    simpa using this
theorem Owning.next {w W W' : World} {k n : Int} {va vb : Value} (h : Owning w k n va vb W) {g : Nat} (hg : W.grownBy W' (some g)) (hlt : w.heap.size + 2 ≤ g) : Owning w k n va vb W' := by
  have hs := h.size
  refine ⟨(hg.block _ (by omega) (fun e => by cases e; omega)).trans h.box, (hg.block _ (by omega) (fun e => by cases e; omega)).trans h.res, h.below.trans ⟨hg.os, hg.tape, hg.output, hg.size, fun j hj => hg.block j (by omega) (fun e => by cases e; omega)⟩⟩
theorem Owning.alloc {w W : World} {k n : Int} {va vb : Value} (h : Owning w k n va vb W) (o : Obj) : Owning w k n va vb (W.alloc o) := by
  have hs := h.size
  exact ⟨by rw [Below.heap_alloc _ _ _ (by omega)]; exact h.box, by rw [Below.heap_alloc _ _ _ (by omega)]; exact h.res, h.below.alloc (by omega) _⟩
theorem Owning.set2 {w W : World} {k n : Int} {va vb : Value} (h : Owning w k n va vb W) (v : Value) : Owning w k n v vb (W.setCell ⟨w.heap.size, 2, none⟩ v) :=
  ⟨by rw [setCell_row h.box]; rfl, by rw [Below.heap_setCell _ _ _ _ (by simp)]; exact h.res, Below.setNew h.below _ _ (Nat.le_refl _)⟩
theorem Owning.set3 {w W : World} {k n : Int} {va vb : Value} (h : Owning w k n va vb W) (v : Value) : Owning w k n va v (W.setCell ⟨w.heap.size, 3, none⟩ v) :=
  ⟨by rw [setCell_row h.box]; rfl, by rw [Below.heap_setCell _ _ _ _ (by simp)]; exact h.res, Below.setNew h.below _ _ (Nat.le_refl _)⟩
theorem Owning.cell {w W : World} {k n : Int} {va vb : Value} (h : Owning w k n va vb W) : W.cell? ⟨w.heap.size, 2, none⟩ = some va ∧ W.cell? ⟨w.heap.size, 3, none⟩ = some vb ∧ W.frozen? ⟨w.heap.size, 2, none⟩ = false ∧ W.frozen? ⟨w.heap.size, 3, none⟩ = false := by
  refine ⟨by rw [cell_of_row _ _ _ _ _ _ h.box]; rfl, by rw [cell_of_row _ _ _ _ _ _ h.box]; rfl, by simp [World.frozen?, h.box], by simp [World.frozen?, h.box]⟩
theorem owns_fresh (W : World) (base : Nat) (h : base ≤ W.heap.size) : (W.alloc (.cells #[] 5)).ownsRow base 5 1 (.slice (some ⟨W.heap.size, 0, none⟩) 0 0) 0 [] := World.ownsRow_lit W #[] 0 h (by unfold maxLen; omega) rfl
/-- A row stays where its block stays. -/
theorem owns_keep {W W' : World} {base : Nat} {e : TypeId} {size : Nat} {v : Value} {n : Nat} {xs : List Value} (h : W.ownsRow base e size v n xs) (hk : ∀ k, v.ownBlock = some k → W'.heap[k]? = W.heap[k]?) : W'.ownsRow base e size v n xs := by
  obtain ⟨h1, h2⟩ := h
  refine ⟨h1, ?_⟩
  rcases h2 with h2 | ⟨k, cap, cur, rfl, h4, h5, h6⟩
  · exact .inl h2
  · exact .inr ⟨k, cap, cur, rfl, h4, (hk k rfl).trans h5, h6⟩
theorem owns_set {w W : World} {g o : Nat} {v x : Value} {n : Nat} {xs : List Value} (h : W.ownsRow (w.heap.size + 2) 5 1 v n xs) (hg : g < w.heap.size + 2) : (W.setCell ⟨g, o, none⟩ x).ownsRow (w.heap.size + 2) 5 1 v n xs :=
  owns_keep h fun k hk => Below.heap_setCell _ _ _ _ (by have := (h.lt k hk).1; simp; omega)
theorem owns_grown {B : Nat} {W W' : World} {v : Value} {n : Nat} {xs : List Value} (h : W.ownsRow B 5 1 v n xs) (o : Obj) (hg : (W.alloc o).grownBy W' (some W.heap.size)) : W'.ownsRow B 5 1 v n xs :=
  owns_keep h fun k hk => by
    have hl := (h.lt k hk).2
    rw [hg.block k (by simp; omega) (fun e => by cases e; omega), Below.heap_alloc _ _ _ hl]
theorem Owning.cells {w W : World} {k n : Int} {va vb : Value} (h : Owning w k n va vb W) :
    W.cell? ⟨w.heap.size, 0, none⟩ = some (.int .i64 k) ∧ W.cell? ⟨w.heap.size, 1, none⟩ = some (.int .i64 n) ∧ W.cell? ⟨w.heap.size, 2, none⟩ = some va ∧ W.cell? ⟨w.heap.size, 3, none⟩ = some vb := by
  refine ⟨by rw [cell_of_row _ _ _ _ _ _ h.box]; rfl, by rw [cell_of_row _ _ _ _ _ _ h.box]; rfl, by rw [cell_of_row _ _ _ _ _ _ h.box]; rfl, by rw [cell_of_row _ _ _ _ _ _ h.box]; rfl⟩
theorem ret_par {fn : Func} {p : Tmp} (hr : fn.results = #[.cell p 24]) {a : Act} {w : World} {R : Ending → World → Prop} {B : Nat} {cs : Array Value}
    (hd : a.defers = []) (hp : a.tmps.getD p undef = .pointer (some ⟨B, 0, none⟩)) (hg : w.heap[B]? = some (.cells cs 24 (0, 0))) (hs : cs.size = 4)
    (h : R (.returned (.agg cs)) w) : bodyPost Tryd.prog fn R .ret a w := by
  refine bodyPost_ret (v := .agg cs) ?_ hd h
  have hp' : a.tmps[p]?.getD undef = .pointer (some ⟨B, 0, none⟩) := by simpa using hp
  have hl := run_loadVar_row (P := Tryd.prog) w B 24 24 cs (0, 0) _ hg Tryd.underlying24 rfl (by rw [Tryd.size24, hs])
  simp [results, hr, hp', asAddr, hl]
theorem owns_slice {w : World} {base : Nat} {e : TypeId} {size : Nat} {v : Value} {n : Nat} {xs : List Value} (h : w.ownsRow base e size v n xs) : ∃ a c, v = .slice a n c := by
  rcases h.2 with ⟨rfl, rfl⟩ | ⟨g, cap, cur, rfl, _⟩
  · exact ⟨_, _, rfl⟩
  · exact ⟨_, _, rfl⟩

end Go.Proofs.YthedfcdcocimbaaDoor.Pm
