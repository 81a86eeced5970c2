/- RingOrder: what its rounds lean on. -/
import Derived.Test.YtgipgeeiibkjjaaValuesyes
import Derived.Laws.AppendOwnNone
namespace Go.Proofs.Ytgipgeeiibkjjaa
open Go.RowKit

/-- Two lists of texts, of the call's own, in rows that are not one. -/
structure TwoRows (w : World) (vi vo : Value) (I O : Chunks) (W : World) : Prop where
  ins : W.ownsRow w.heap.size 9 1 vi I.length (I.map strV)
  outs : W.ownsRow w.heap.size 9 1 vo O.length (O.map strV)
  apart : vi.ownBlock = none ∨ vi.ownBlock ≠ vo.ownBlock
theorem TwoRows.below {w : World} {vi vo : Value} {I O : Chunks} {W W' : World} (h : TwoRows w vi vo I O W) (hb : Below W.heap.size W W') : TwoRows w vi vo I O W' :=
  ⟨owns_below h.ins hb, owns_below h.outs hb, h.apart⟩
theorem TwoRows.swap {w : World} {vi vo : Value} {I O : Chunks} {W : World} (h : TwoRows w vi vo I O W) : TwoRows w vo vi O I W :=
  ⟨h.outs, h.ins, by
    rcases h.apart with h1 | h1
    · cases hv : vo.ownBlock with
      | none => exact .inl rfl
      | some g => exact .inr (by rw [h1]; simp)
    · exact .inr h1.symm⟩
/-- A ring's variable is no row of texts. -/
theorem TwoRows.ring {w : World} {vi vo : Value} {I O : Chunks} {W : World} (h : TwoRows w vi vo I O W) {g : Nat} {cs : Array Value} (hg : W.heap[g]? = some (.cells cs 30 (0, 0))) (new : Array Value) : TwoRows w vi vo I O (W.setRow g new) :=
  ⟨owns_setRow_type h.ins hg (by decide) new, owns_setRow_type h.outs hg (by decide) new, h.apart⟩

theorem grown_block {W w1 : World} {tmp : Obj} {v : Value} {base k : Nat} {xs : List Value} (hr : W.ownsRow base 9 1 v k xs) (hgrow : (W.alloc tmp).grownBy w1 v.ownBlock) {B : Nat} {cs : Array Value} (h : W.heap[B]? = some (.cells cs 30 (0, 0))) : w1.heap[B]? = some (.cells cs 30 (0, 0)) := by
  have hlt : B < W.heap.size := (Array.getElem?_eq_some_iff.1 h).1
  rw [hgrow.block B (by simp; omega) (block_not_row h (by decide) hr), Below.heap_alloc _ _ _ hlt]
  exact h
theorem grown_below {w W w1 : World} {tmp : Obj} {v : Value} {k : Nat} {xs : List Value} (hB : Below w.heap.size w W) (hr : W.ownsRow w.heap.size 9 1 v k xs) (hgrow : (W.alloc tmp).grownBy w1 v.ownBlock) : Below w.heap.size w w1 := by
  refine (hB.alloc hB.size tmp).grown hgrow (by have := hB.size; simp; omega) fun j ej => ?_
  rcases hr.2 with ⟨rfl, _⟩ | ⟨g, cap, cur, rfl, hb, _, _⟩
  · simp [Value.ownBlock] at ej
  · obtain rfl : g = j := by simpa [Value.ownBlock] using ej
    exact hb
theorem TwoRows.add {w W w1 : World} {vi vo vi' : Value} {I O : Chunks} {b : List UInt8} {tmp : Obj} (h : TwoRows w vi vo I O W) (hown : w1.ownsRow w.heap.size 9 1 vi' (I.length + 1) (I.map strV ++ [strV b]))
    (hgrow : (W.alloc tmp).grownBy w1 vi.ownBlock) (hblk : vi'.ownBlock = vi.ownBlock ∨ vi'.ownBlock = some (W.heap.size + 1)) : TwoRows w vi' vo (I ++ [b]) O w1 := by
  refine ⟨by simpa using hown, (h.outs.alloc tmp).kept hgrow ?_, ?_⟩
  · rcases h.swap.apart with h1 | h1
    · exact .inl h1
    · exact .inr h1
  · rcases hblk with hblk | hblk
    · rw [hblk]; exact h.apart
    · refine .inr ?_
      rw [hblk]
      intro e
      have := (h.outs.lt _ e.symm).2
      omega

/-- A slice of bytes, made a text. -/
theorem conv_bytes {W : World} {v : Value} {bs : List UInt8} (h : IsBytes W v bs) (h1 : 1 ≤ bs.length) : (convert 42 9 v).run Try.prog W = .ok (strV bs) W := by
  obtain ⟨a, cap, rfl, hc⟩ := h
  obtain ⟨ad, rfl, _⟩ := hc 0 bs[0] (by simp)
  exact run_convert_bytes_back (P := Try.prog) W 42 9 5 ad cap bs Try.underlying42 Try.underlying5 Try.underlying9 (fun j hj => by
    obtain ⟨ad', e, h⟩ := hc j bs[j] (by simp [hj])
    cases e
    exact h)

/-- What holds ahead of each round. -/
def OrderInv (w : World) (k : Nat) (vi vo : Value) (W : World) : Prop :=
  ∃ c L I O, Good c L ∧ W.heap[w.heap.size + 1]? = some (.cells (ringA c L) 30 (0, 0)) ∧ TwoRows w vi vo I O W ∧ I = O ++ L ∧ I.length ≤ k ∧ Below w.heap.size w W
/-- What holds behind the switch. -/
def Switched (w : World) (k Bs c1 : Nat) (L1 : Chunks) (vi vo f : Value) (W : World) : Prop :=
  ∃ c L I O, ∃ q : Nat, f = .int .i64 q ∧ Good c L ∧ W.heap[w.heap.size + 1]? = some (.cells (ringA c1 L1) 30 (0, 0)) ∧ W.heap[Bs]? = some (.cells (ringA c L) 30 (0, 0)) ∧
    TwoRows w vi vo I O W ∧ I = O ++ L ∧ I.length ≤ k + 1 ∧ (q ≠ 0 → L = L1) ∧ Below w.heap.size w W

theorem push_cases (c : Nat) (L : Chunks) (bs : List UInt8) : (pushE c L bs = 0 → pushL c L bs = L ++ [bs] ∧ 1 ≤ bs.length) ∧ (pushE c L bs ≠ 0 → pushL c L bs = L) := by
  unfold pushL
  refine ⟨fun h => ?_, fun h => by rw [if_neg h]⟩
  rw [if_pos h]
  refine ⟨rfl, ?_⟩
  unfold pushE at h
  by_cases h1 : bs.length < 1 ∨ 32 < bs.length ∨ c = 0
  · rw [if_pos h1] at h
    cases h
  · omega

theorem grow_nat (c : Nat) (L : Chunks) (w : World) (hG : Good c L) :
    Calls Try.prog 14 #[.agg (ringA c L)] w fun e w' => ∃ d q : Nat, e = .returned (.tuple #[.agg (ringA d L), .int .i64 q]) ∧ Good d L ∧ Below w.heap.size w w' :=
  (grow_any c L w hG).mono fun _ _ ⟨he, hb⟩ => ⟨_, if c = 0 then 1 else if c = 8 then 2 else 0, by
    rw [he]
    by_cases h0 : c = 0
    · simp [h0]
    · by_cases h8 : c = 8 <;> simp [h0, h8], hG.grown, hb⟩

theorem owns_upto {W W' : World} {base n : Nat} {e : TypeId} {size : Nat} {v : Value} {k : Nat} {xs : List Value} (h : W.ownsRow base e size v k xs) (hg : ∀ g, v.ownBlock = some g → g < n) (hb : Below n W W') : W'.ownsRow base e size v k xs := by
  obtain ⟨h1, h2⟩ := h
  refine ⟨h1, ?_⟩
  rcases h2 with h2 | ⟨g, cap, cur, rfl, h4, h5, h6⟩
  · exact .inl h2
  · exact .inr ⟨g, cap, cur, rfl, h4, (hb.block g (hg g rfl)).trans h5, h6⟩

/-- One list of texts behind another one that is the call's own: what lay below the other one's row lies as it lay. -/
theorem wp_append_texts {o : Oper} {a : Act} {w : World} {K : Act → World → Prop} {Q : Exit → Act → World → Prop} (s x : Operand) (ho : o.op = .call { callee := .builtin .append, args := #[s, x], argTypes := #[34, 34] })
    (base base2 : Nat) (v vs : Value) (xs ys : Chunks) (hs : a.eval s = v) (hown : w.ownsRow base 9 1 v xs.length (xs.map strV)) (hx : a.eval x = vs) (hsrc : w.ownsRow base2 9 1 vs ys.length (ys.map strV))
    (hlen : xs.length + ys.length ≤ 100000) (hbase : base ≤ w.heap.size)
    (h : ∀ v' w', w'.ownsRow base 9 1 v' (xs.length + ys.length) ((xs ++ ys).map strV) → Below base w w' → K (a.put o.dst v') w') : o.wp Try.prog a w K Q := by
  obtain ⟨i0, hi, hz0, hz1, hz2⟩ := info_parts Try.info9
  have hsrc' := hsrc
  rcases hsrc.2 with ⟨rfl, h0⟩ | ⟨g, cap, cur, rfl, _⟩
  · have hrun := run_append_owned_none (P := Try.prog) (w := w) base 34 o.type 9 i0 1 Try.underlying34 hi v xs.length _ hown
    have hy : ys = [] := List.eq_nil_of_length_eq_zero h0
    unfold Oper.wp
    simp [execOp, ho, resolve, invoke, builtin, hs, hx, hrun, Result.andThen]
    subst hy
    exact h v w (by simpa using hown) (Below.refl _ _)
  · refine wp_append_own (P := Try.prog) w s x 34 ho base 9 i0 (.string ByteArray.empty) 1 16 Try.underlying34 hi hz0 hz1 hz2 rfl (by decide) v xs.length _ hs hown ⟨g, 0, none⟩ ys.length cap (ys.map strV) hx (by simp)
      (fun j u hu => hsrc'.cells (g := g) rfl j u hu) (fun u hu => by obtain ⟨y, _, rfl⟩ := List.mem_map.1 hu; rfl) (by unfold maxLen; omega) (by omega) hbase ?_
    intro v' w' ho' hg' _
    refine h v' w' (by rw [List.map_append]; exact ho') ?_
    refine (Below.refl base w).grown hg' hbase fun j ej => ?_
    rcases hown.2 with ⟨rfl, _⟩ | ⟨g2, cap2, cur2, rfl, hb, _, _⟩
    · simp [Value.ownBlock] at ej
    · obtain rfl : g2 = j := by simpa [Value.ownBlock] using ej
      exact hb

/-- An operation that may come up now, and yields its value in every world that meets S, is taken first. -/
theorem take_now {P : Program} {md : Region.Mode} {ops : Array Oper} {Q : Exit → Act → World → Prop} {S : World → Prop} {i : Nat} {oi : Oper} {fuel : Nat} {listed : Array Bool} {a : Act} {w : World} (v : Value) (hi : ops[i]? = some oi)
    (hs : Region.noSelect ops = true) (hf : Region.free md ops listed i = true) (hr : (Region.ready md ops listed).contains i = true)
    (hw : Region.wanted oi (yielded ops a.tmps) = true) (hrun : ∀ W, S W → (execOp a.eval oi).run P W = .ok (.value v) W) (hS : S w)
    (h : wpAnyH P md ops (NoPanic Q) S fuel (listed.setIfInBounds i true) (a.put oi.dst v) w) : wpAnyH P md ops (NoPanic Q) S (fuel + 1) listed a w :=
  wpAnyH_take hi hs hf hr (fun _ _ _ h => h) (.inl ⟨hw, hrun⟩) hS h

theorem run_load30 {c : Nat} {L : Chunks} (hG : Good c L) {B : Nat} {a : Act} {o : Oper} {x : Operand} (ho : o.op = .load 30 x) (hx : a.eval x = .pointer (some ⟨B, 0, none⟩)) {W : World} (h : W.heap[B]? = some (.cells (ringA c L) 30 (0, 0))) :
    (execOp a.eval o).run Try.prog W = .ok (.value (.agg (ringA c L))) W := by
  unfold execOp
  simp only [ho, hx, Instr.loadAt, Instr.sureAddr, Sem.run_bind, Sem.run_pure, Result.andThen_ok, run_loadVar_row W B 30 30 _ _ _ h Try.underlying30 rfl (by rw [Try.size30, size_ringA hG])]

/-- One operation alone may come up. -/
theorem one_now {P : Program} {md : Region.Mode} {ops : Array Oper} {Q : Exit → Act → World → Prop} {S : World → Prop} {i : Nat} {oi : Oper} {fuel : Nat} {listed : Array Bool} {a : Act} {w : World} (hi : ops[i]? = some oi)
    (hr : Region.ready md ops listed = [i]) (hw : Region.wanted oi (yielded ops a.tmps) = true)
    (h : oi.wp P a w (fun a' w' => S w' ∧ wpAnyH P md ops Q S fuel (listed.setIfInBounds i true) a' w') Q) : wpAnyH P md ops Q S (fuel + 1) listed a w := by
  refine wpAnyH_all hr (by simp) ?_
  intro j hj
  obtain rfl : j = i := by simpa using hj
  unfold wpOp
  simp only [hi, hw, if_true]
  exact .inl h

end Go.Proofs.Ytgipgeeiibkjjaa
