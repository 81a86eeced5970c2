/- What a machine answers, in memory: a slice of ports and bytes. -/
import Derived.Test.YtbanofgigfdlnaaDoorIsmall
namespace Go.Proofs.YtbanofgigfdlnaaDoor
open Go.RowKit

abbrev Outs := List (Nat × List UInt8)
abbrev OutX := List ((Nat × List UInt8) × Value)
def outCells (X : OutX) : List Value := X.flatMap fun t => [.int .i64 t.1.1, t.2]
theorem length_outCells (X : OutX) : (outCells X).length = X.length * 2 := by
  induction X with
  | nil => rfl
  | cons t X ih => simp only [outCells, List.flatMap_cons, List.length_append, List.length_cons] at ih ⊢; simp at ih ⊢; omega
theorem outCells_append (X Y : OutX) : outCells (X ++ Y) = outCells X ++ outCells Y := by simp [outCells]
theorem outCells_at : ∀ (X : OutX) (j : Nat) t, X[j]? = some t → (outCells X)[j * 2]? = some (.int .i64 t.1.1) ∧ (outCells X)[j * 2 + 1]? = some t.2
  | [], j, t, h => by simp at h
  | x :: X, 0, t, h => by
    simp at h
    subst h
    simp [outCells]
  | x :: X, j + 1, t, h => by
    simp only [List.getElem?_cons_succ] at h
    have := outCells_at X j t h
    rw [show (j + 1) * 2 = j * 2 + 1 + 1 by omega]
    simpa [outCells] using this

/-- The value is a slice of these answers, in blocks of p. -/
def IsOuts (p : Nat → Prop) (w : World) (v : Value) (L : Outs) : Prop :=
  ∃ X : OutX, X.map (·.1) = L ∧ (∃ a cap, v = .slice a X.length cap ∧ ∀ (j : Nat) t, X[j]? = some t → ∃ gb off, a = some ⟨gb, off, none⟩ ∧ p gb ∧ w.cell? ⟨gb, off + j * 2, none⟩ = some (.int .i64 t.1.1) ∧ w.cell? ⟨gb, off + j * 2 + 1, none⟩ = some t.2) ∧
    ∀ t ∈ X, IsBytes p w t.2 t.1.2
theorem IsOuts.frame {p q : Nat → Prop} {w w' : World} {v : Value} {L : Outs} (h : IsOuts p w v L) (hf : Frame q w w') (hpq : ∀ k, p k → ¬ q k) : IsOuts p w' v L := by
  obtain ⟨X, hX, ⟨a, cap, rfl, hc⟩, hb⟩ := h
  refine ⟨X, hX, ⟨a, cap, rfl, fun j t hj => ?_⟩, fun t ht => (hb t ht).frame hf hpq⟩
  obtain ⟨gb, off, rfl, hp, h1, h2⟩ := hc j t hj
  exact ⟨gb, off, rfl, hp, hf.cell? h1 (hpq _ hp), hf.cell? h2 (hpq _ hp)⟩

theorem IsOuts.mono {p q : Nat → Prop} {w : World} {v : Value} {L : Outs} (h : IsOuts p w v L) (hpq : ∀ k, k < w.heap.size → p k → q k) : IsOuts q w v L := by
  obtain ⟨X, hX, ⟨a, cap, rfl, hc⟩, hb⟩ := h
  refine ⟨X, hX, ⟨a, cap, rfl, fun j t hj => ?_⟩, fun t ht => (hb t ht).mono hpq⟩
  obtain ⟨gb, off, rfl, hp, h1, h2⟩ := hc j t hj
  exact ⟨gb, off, rfl, hpq _ (block_lt_of_cell h1) hp, h1, h2⟩

/-- .. that is the call's own: from block 'base' on. -/
def OwnOuts (base : Nat) (w : World) (v : Value) (L : Outs) : Prop :=
  ∃ X : OutX, X.map (·.1) = L ∧ w.ownsRow base 111 2 v X.length (outCells X) ∧ ∀ t ∈ X, IsBytes (fun k => base ≤ k ∧ v.ownBlock ≠ some k) w t.2 t.1.2
theorem OwnOuts.nil (base : Nat) (w : World) : OwnOuts base w (.slice none 0 0) [] := ⟨[], rfl, World.ownsRow_nil w base _ 2, fun t ht => by cases ht⟩
theorem OwnOuts.is {base : Nat} {w : World} {v : Value} {L : Outs} (h : OwnOuts base w v L) : IsOuts (base ≤ ·) w v L := by
  obtain ⟨X, hX, ho, hb⟩ := h
  refine ⟨X, hX, ?_, fun t ht => (hb t ht).mono (fun k _ hk => hk.1)⟩
  have ho' := ho
  rcases ho.2 with ⟨rfl, h0⟩ | ⟨g, cap, cur, rfl, hb, _⟩
  · refine ⟨none, 0, by rw [h0], fun j t hj => ?_⟩
    rw [List.eq_nil_of_length_eq_zero h0] at hj
    simp at hj
  · refine ⟨_, cap, rfl, fun j t hj => ⟨g, 0, rfl, hb, ?_⟩⟩
    obtain ⟨h1, h2⟩ := outCells_at X j t hj
    have c1 := World.ownsRow.cells ho' (g := g) rfl _ _ h1
    have c2 := World.ownsRow.cells ho' (g := g) rfl _ _ h2
    rw [Addr.add_mid] at c1 c2
    refine ⟨c1, ?_⟩
    rw [Nat.add_assoc]
    exact c2
theorem OwnOuts.frame {q : Nat → Prop} {base : Nat} {w w' : World} {v : Value} {L : Outs} (h : OwnOuts base w v L) (hf : Frame q w w') (hq : ∀ k, base ≤ k → k < w.heap.size → ¬ q k) : OwnOuts base w' v L := by
  obtain ⟨X, hX, ho, hb⟩ := h
  refine ⟨X, hX, hf.owns ho (fun g hg => hq g (ho.lt g hg).1 (ho.lt g hg).2), fun t ht => ?_⟩
  exact ((hb t ht).mono (q := fun k => (base ≤ k ∧ k < w.heap.size) ∧ v.ownBlock ≠ some k) (fun k hk h => ⟨⟨h.1, hk⟩, h.2⟩)).frame hf (fun k hk => hq k hk.1.1 hk.1.2) |>.mono (fun k _ h => ⟨h.1.1, h.2⟩)
theorem OwnOuts.below {base : Nat} {w w' : World} {v : Value} {L : Outs} (h : OwnOuts base w v L) (hb : Below w.heap.size w w') : OwnOuts base w' v L := h.frame (Below.toFrame hb fun _ => False) (fun _ _ _ h => h)
theorem OwnOuts.mono {base base' : Nat} {w : World} {v : Value} {L : Outs} (h : OwnOuts base w v L) (hb : base' ≤ base) : OwnOuts base' w v L := by
  obtain ⟨X, hX, ho, hx⟩ := h
  refine ⟨X, hX, ⟨ho.1, ?_⟩, fun t ht => (hx t ht).mono (fun k _ h => ⟨Nat.le_trans hb h.1, h.2⟩)⟩
  rcases ho.2 with h0 | ⟨g, cap, cur, e, h1, h2⟩
  · exact .inl h0
  · exact .inr ⟨g, cap, cur, e, Nat.le_trans hb h1, h2⟩
theorem OwnOuts.lt {base : Nat} {w : World} {v : Value} {L : Outs} (h : OwnOuts base w v L) : ∀ k, v.ownBlock = some k → base ≤ k ∧ k < w.heap.size := by
  obtain ⟨X, -, ho, -⟩ := h
  exact ho.lt
theorem OwnOuts.slice {base : Nat} {w : World} {v : Value} {L : Outs} (h : OwnOuts base w v L) : ∃ a cap, v = .slice a L.length cap := by
  obtain ⟨X, rfl, ho, -⟩ := h
  rcases ho.2 with ⟨rfl, h0⟩ | ⟨g, cap, cur, rfl, _⟩
  · exact ⟨none, 0, by rw [List.length_map, h0]⟩
  · exact ⟨_, cap, by rw [List.length_map]⟩

theorem Tryd.info111 : (Tryd.prog.info? 111).map (fun i => (i.zero, i.size, i.bytes)) = some (some (.agg #[.int .i64 0, .slice none 0 0]), 2, 32) := by kernel_rfl
theorem one_outCells (X : OutX) (h : ∀ t ∈ X, t.2.oneCell' = true) : ∀ u ∈ outCells X, u.oneCell' = true := by
  intro u hu
  obtain ⟨t, ht, hu⟩ := List.mem_flatMap.1 hu
  rcases List.mem_cons.1 hu with rfl | hu
  · rfl
  · rw [List.mem_singleton.1 hu]
    exact h t ht
theorem one_bytes {p : Nat → Prop} {w : World} {v : Value} {bs : List UInt8} (h : IsBytes p w v bs) : v.oneCell' = true := by
  obtain ⟨a, cap, rfl, -⟩ := h
  rfl
theorem run_append_owned_nil {P : Program} {w : World} (base : Nat) (t ty e : TypeId) (i : TypeInfo) (size c : Nat) (ht : P.underlying t = some (.slice e)) (hi : P.info? e = some i)
    (v : Value) (n : Nat) (xs : List Value) (hown : w.ownsRow base e size v n xs) : (Builtin.append_ #[t, t] ty #[v, .slice none 0 c]).run P w = .ok v w := by
  rcases hown.2 with ⟨rfl, rfl⟩ | ⟨g, cap, cur, rfl, _, _, hnc, _⟩
  · simp [Builtin.append_, run_underlying ht, sizeOf, typeInfo, hi, Builtin.lenOf, Builtin.firstCells]
  · simp [Builtin.append_, run_underlying ht, sizeOf, typeInfo, hi, Builtin.lenOf, Builtin.firstCells, hnc, storeCells]

/-- Bytes behind a row of bytes that is the call's own, nil or not. -/
theorem wpList_append_bytes {p : Nat → Prop} {ops : Array Oper} {rest : List Oper} {o : Oper} {a : Act} {w : World} {Q : Exit → Act → World → Prop} (hgd : o.guard = none) (s x : Operand) (ho : o.op = .call { callee := .builtin .append, args := #[s, x], argTypes := #[22, 22] })
    (base : Nat) (v vs : Value) (xs bs : List UInt8) (hs : a.eval s = v) (hown : w.ownsRow base 5 1 v xs.length (bytesL xs)) (hx : a.eval x = vs) (hsrc : IsBytes p w vs bs)
    (hlen : xs.length + bs.length ≤ 10000000) (hbase : base ≤ w.heap.size)
    (h : ∀ v' w', w'.ownsRow base 5 1 v' (xs ++ bs).length (bytesL (xs ++ bs)) → w.grownBy w' v.ownBlock → wpList Tryd.prog ops Q rest (a.put o.dst v') w') : wpList Tryd.prog ops Q (o :: rest) a w := by
  obtain ⟨i0, hi, hz0, hz1, hz2⟩ := info_parts Tryd.info5
  obtain ⟨ad, cap, rfl, -, hc⟩ := hsrc
  cases ad with
  | none =>
    have hb : bs = [] := by
      cases bs with
      | nil => rfl
      | cons x r =>
        obtain ⟨_, _, e, _⟩ := hc 0 x rfl
        cases e
    subst hb
    refine wpList_plain hgd fun K hK => ?_
    have hrun := run_append_owned_nil (P := Tryd.prog) (w := w) base 22 o.type 5 i0 1 cap Tryd.underlying22 hi v xs.length _ hown
    unfold Oper.wp
    simp [execOp, ho, resolve, invoke, builtin, hs, hx, hrun, Result.andThen]
    exact hK _ _ (h v w (by simpa using hown) ⟨rfl, rfl, rfl, Nat.le_refl _, fun _ _ _ => rfl⟩)
  | some ad =>
    refine wpList_append_own w hgd s x 22 ho base 5 i0 (.int .u8 0) 1 1 Tryd.underlying22 hi hz0 hz1 hz2 rfl (by decide) v xs.length _ hs hown ad bs.length cap (bytesL bs) hx (by rw [length_bytesL]; omega)
      (fun j u hu => ?_) (one_bytesL bs) (by unfold maxLen; omega) (by omega) hbase ?_
    · obtain ⟨c, hj, rfl⟩ := bytesL_get hu
      obtain ⟨gb, off, e, _, h⟩ := hc j c hj
      cases e
      rw [Addr.add_mid]
      exact h
    · intro v' w' ho' hg' _
      exact h v' w' (by rw [bytesL_append, List.length_append]; exact ho') hg'

/-- Answers behind answers. -/
theorem wpList_append_outs {ops : Array Oper} {rest : List Oper} {o : Oper} {a : Act} {w : World} {Q : Exit → Act → World → Prop} (hgd : o.guard = none) (s x : Operand) (ho : o.op = .call { callee := .builtin .append, args := #[s, x], argTypes := #[89, 89] })
    {base base2 : Nat} {v vs : Value} {L M : Outs} (hs : a.eval s = v) (hown : OwnOuts base w v L) (hx : a.eval x = vs) (hsrc : OwnOuts base2 w vs M)
    (hlen : L.length + M.length ≤ 1000000) (hbase : base ≤ base2) (hb2 : base2 ≤ w.heap.size) (hv : ∀ k, v.ownBlock = some k → k < base2)
    (h : ∀ v' w', OwnOuts base w' v' (L ++ M) → w.grownBy w' v.ownBlock → (vs = .slice none 0 0 → v' = v ∧ w' = w) → wpList Tryd.prog ops Q rest (a.put o.dst v') w') : wpList Tryd.prog ops Q (o :: rest) a w := by
  obtain ⟨i0, hi, hz0, hz1, hz2⟩ := info_parts Tryd.info111
  obtain ⟨X, rfl, hoX, hbX⟩ := hown
  obtain ⟨Y, rfl, hoY, hbY⟩ := hsrc
  rw [List.length_map, List.length_map] at hlen
  have hoY' := hoY
  rcases hoY.2 with ⟨rfl, h0⟩ | ⟨gy, cap, cur, rfl, hgy, _⟩
  · have hY : Y = [] := List.eq_nil_of_length_eq_zero h0
    subst hY
    refine wpList_plain hgd fun K hK => ?_
    have hrun := run_append_owned_nil (P := Tryd.prog) (w := w) base 89 o.type 111 i0 2 0 (by kernel_rfl) hi v X.length _ hoX
    unfold Oper.wp
    simp [execOp, ho, resolve, invoke, builtin, hs, hx, hrun, Result.andThen]
    exact hK _ _ (h v w ⟨X, by simp, hoX, hbX⟩ ⟨rfl, rfl, rfl, Nat.le_refl _, fun _ _ _ => rfl⟩ (fun _ => ⟨rfl, rfl⟩))
  · refine wpList_append_own_at w hgd s x 89 ho base 111 i0 (.agg #[.int .i64 0, .slice none 0 0]) 2 32 (by kernel_rfl) hi hz0 hz1 hz2 rfl (by decide) v X.length _ hs hoX ⟨gy, 0, none⟩ Y.length cap (outCells Y) hx (length_outCells Y)
      (World.ownsRow.cells hoY' rfl) (one_outCells Y fun t ht => one_bytes (hbY t ht)) (by unfold maxLen; omega) (by omega) (by omega) ?_
    intro v' w' ho' hg' _ hv'
    refine h v' w' ⟨X ++ Y, by simp, by rw [outCells_append, List.length_append]; exact ho', fun t ht => ?_⟩ hg' (fun e => by cases e)
    rcases List.mem_append.1 ht with ht | ht
    · have := (hbX t ht).mono (q := fun k => (base ≤ k ∧ k < w.heap.size) ∧ v.ownBlock ≠ some k) (fun k hk h => ⟨⟨h.1, hk⟩, h.2⟩)
      have := this.frame (((Frame.refl (fun k => v.ownBlock = some k) w)).grown hg' (fun k _ e => e)) (fun k hk e => hk.2 e)
      refine this.mono (fun k _ hk => ⟨hk.1.1, ?_⟩)
      rcases hv' with e | e
      · rw [e]; exact hk.2
      · rw [e]; intro e; have := Option.some.inj e; omega
    · have := (hbY t ht).mono (q := fun k => base2 ≤ k ∧ k < w.heap.size) (fun k hk h => ⟨h.1, hk⟩)
      have := this.frame (((Frame.refl (fun k => v.ownBlock = some k) w)).grown hg' (fun k _ e => e)) (fun k hk e => by have := hv k e; omega)
      refine this.mono (fun k _ hk => ⟨by omega, ?_⟩)
      rcases hv' with e | e
      · rw [e]; intro e; have := hv k e; omega
      · rw [e]; intro e; have := Option.some.inj e; omega

end Go.Proofs.YtbanofgigfdlnaaDoor
