/- A slice of texts that moves on: what lies behind its head is still in memory. -/
import Derived.Test.YtdpjopemdhbgpaaDoorLtake
import Derived.ArgAppend
namespace Go.Proofs.YtdpjopemdhbgpaaDoor
open Go.RowKit

/-- The value is a slice that reads as these texts; the block of X is its own, with room up to its capacity. -/
inductive KeptIn (w : World) : Value → (Nat → Prop) → Lines → Prop
  | nil (X : Nat → Prop) (h : ∀ k, ¬ X k) : KeptIn w (.slice none 0 0) X []
  | row (X : Nat → Prop) (L : Lines) (b off cap : Nat) (cs : Array Value) (hX : ∀ k, X k ↔ k = b) (h : w.heap[b]? = some (.cells cs 9 (0, 0))) (hc : L.length ≤ cap) (hs : off + cap ≤ cs.size)
      (hL : ∀ j l, L[j]? = some l → cs[off + j]? = some (strV l)) : KeptIn w (.slice (some ⟨b, off, none⟩) L.length cap) X L
theorem KeptIn.frame {w w' : World} {v : Value} {X : Nat → Prop} {L : Lines} {p : Nat → Prop} (h : KeptIn w v X L) (hf : Frame p w w') (hp : ∀ k, X k → ¬ p k) : KeptIn w' v X L := by
  cases h with
  | nil _ h => exact .nil _ h
  | row _ _ b off cap cs hX h hc hs hL => exact .row X L b off cap cs hX (hf.heap h (hp b ((hX b).2 rfl))) hc hs hL
theorem KeptIn.old {w : World} {v : Value} {X : Nat → Prop} {L : Lines} (h : KeptIn w v X L) : ∀ k, X k → k < w.heap.size := by
  intro k hk
  cases h with
  | nil _ h => exact absurd hk (h k)
  | row _ _ b off cap cs hX h hc hs hL =>
    rw [(hX k).1 hk]
    exact (Array.getElem?_eq_some_iff.1 h).1
theorem KeptIn.slice {w : World} {v : Value} {X : Nat → Prop} {L : Lines} (h : KeptIn w v X L) : ∃ a c, v = .slice a L.length c := by
  cases h with
  | nil _ h => exact ⟨_, _, rfl⟩
  | row _ _ b off cap cs hX h hc hs hL => exact ⟨_, _, rfl⟩
theorem kept_of_owns {w : World} {base : Nat} {v : Value} {L : Lines} (h : w.ownsRow base 9 1 v L.length (L.map strV)) : ∃ X : Nat → Prop, KeptIn w v X L ∧ ∀ k, X k → base ≤ k := by
  rcases h.2 with ⟨rfl, h0⟩ | ⟨g, cap, cur, rfl, hb, hh, hn, -, hs, ht⟩
  · rw [List.eq_nil_of_length_eq_zero h0]
    exact ⟨fun _ => False, .nil _ (fun _ h => h), fun _ h => h.elim⟩
  · refine ⟨(· = g), .row _ L g 0 cap cur (fun _ => Iff.rfl) hh hn (by omega) (fun j l hj => ?_), fun k hk => by omega⟩
    have h1 : (L.map strV)[j]? = some (strV l) := by simp [hj]
    rw [← ht, List.getElem?_take] at h1
    split at h1
    · rw [Nat.zero_add]; simpa using h1
    · cases h1
theorem cells_of_set {cs : Array Value} {i j : Nat} {x : Value} (h : i ≠ j) : (cs.setIfInBounds i x)[j]? = cs[j]? := by simp [h]

/-- A text behind kept ones: there is room, or it is a new block. -/
theorem wpList_append_kept {ops : Array Oper} {rest : List Oper} {o : Oper} {a : Act} {w : World} {Q : Exit → Act → World → Prop} (hgd : o.guard = none) (s x : Operand) (ho : o.op = .call { callee := .builtin .append, args := #[s, x], argTypes := #[64, 64] })
    (v : Value) (X : Nat → Prop) (L : Lines) (hs : a.eval s = v) (hk : KeptIn w v X L) (ad : Addr) (l : List UInt8) (hx : a.eval x = .slice (some ad) 1 1) (hl : w.cell? ad = some (strV l)) (hlen : L.length ≤ 1000000)
    (h : ∀ v' w' X', KeptIn w' v' X' (L ++ [l]) → Frame X w w' → (∀ k, X' k → X k ∨ w.heap.size ≤ k) → wpList Tryd.prog ops Q rest (a.put o.dst v') w') : wpList Tryd.prog ops Q (o :: rest) a w := by
  obtain ⟨i0, hi, hz0, hz1, hz2⟩ := info_parts Tryd.info9
  have hadd0 : ad.add 0 = ad := by obtain ⟨b, o, sp⟩ := ad; cases sp <;> simp [Addr.add]
  have hnews : ∀ (j : Nat) (u : Value), [strV l][j]? = some u → w.cell? (ad.add j) = some u := by
    intro j u hj
    match j, hj with
    | 0, hj =>
      simp at hj
      subst hj
      rw [hadd0]
      exact hl
    | j + 1, hj => simp at hj
  have hone : ∀ u ∈ [strV l], u.oneCell' = true := by
    intro u hu
    rw [List.mem_singleton.1 hu]
    rfl
  have hgrow : ∀ v' w', w'.ownsRow w.heap.size 9 1 v' (L.length + 1) (L.map strV ++ [strV l]) → w.grownBy w' none → wpList Tryd.prog ops Q rest (a.put o.dst v') w' := by
    intro v' w' ho' hg'
    have ho2 : w'.ownsRow w.heap.size 9 1 v' (L ++ [l]).length ((L ++ [l]).map strV) := by simpa using ho'
    obtain ⟨X', hk', hx'⟩ := kept_of_owns ho2
    exact h v' w' X' hk' ((Frame.refl X w).grown hg' (fun k _ e => by cases e)) (fun k hk => .inr (hx' k hk))
  cases hk with
  | nil _ hX =>
    refine wpList_append_grows w hgd s x 64 ho 9 i0 (.string ByteArray.empty) 1 16 (by kernel_rfl) hi hz0 hz1 hz2 rfl (by decide) none 0 0 [] hs (fun _ => ⟨rfl, rfl⟩) rfl (fun b e => by cases e) ad 1 1 [strV l] hx rfl hnews hone (by omega) (by unfold maxLen; omega) (by omega) ?_
    intro v' w' ho' hg'
    exact hgrow v' w' (by simpa using ho') hg'
  | row _ _ b off cap cs hX hh hc hsz hL =>
    refine wpList_append_arg w hgd s x 64 ho 9 i0 (.string ByteArray.empty) 1 16 (by kernel_rfl) hi hz0 hz1 hz2 rfl (by decide) b off L.length cap (L.map strV) hs (by simp) ?_ ad 1 1 [strV l] hx rfl hnews hone ?_ (by unfold maxLen; omega) (by omega) ?_ ?_
    · intro j u hj
      rw [List.getElem?_map] at hj
      cases hc2 : L[j]? with
      | none => rw [hc2] at hj; cases hj
      | some c =>
        rw [hc2] at hj
        cases hj
        rw [cell_of_row _ _ _ _ _ _ hh]
        exact hL j c hc2
    · intro hr j hj
      simp at hj
      subst hj
      refine ⟨?_, by simp [World.frozen?, hh]⟩
      rw [cell_of_row _ _ _ _ _ _ hh]
      simp
      omega
    · intro hr
      have hh' : (w.setCells b (off + L.length * 1) [strV l]).heap[b]? = some (.cells (cs.setIfInBounds (off + L.length) (strV l)) 9 (0, 0)) := by
        simp only [World.setCells, Nat.mul_one]
        exact setCell_row hh _ _
      have hk' : KeptIn (w.setCells b (off + L.length * 1) [strV l]) (.slice (some ⟨b, off, none⟩) (L ++ [l]).length cap) X (L ++ [l]) := by
        refine .row X (L ++ [l]) b off cap _ hX hh' (by simpa using hr) (by simpa using hsz) (fun j y hj => ?_)
        by_cases hjl : j < L.length
        · rw [List.getElem?_append_left hjl] at hj
          rw [cells_of_set (by omega)]
          exact hL j y hj
        · rw [List.getElem?_append_right (by omega)] at hj
          have h0 : j - L.length = 0 := by
            have := (List.getElem?_eq_some_iff.1 hj).1
            simp at this
            omega
          rw [h0] at hj
          simp at hj
          subst hj
          have : j = L.length := by omega
          subst this
          simp [Array.getElem?_setIfInBounds]
          omega
      have := h _ _ X hk' ((Frame.cells b (off + L.length * 1) [strV l]).mono (fun k _ e => (hX k).2 e)) (fun k hk => .inl hk)
      simpa using this
    · intro _ v' w' ho' hg'
      exact hgrow v' w' ho' hg'

/-- The first one of the kept texts is taken. -/
theorem KeptIn.head {w : World} {v : Value} {X : Nat → Prop} {l : List UInt8} {r : Lines} (h : KeptIn w v X (l :: r)) :
    ∃ b off cap, v = .slice (some ⟨b, off, none⟩) (r.length + 1) cap ∧ r.length + 1 ≤ cap ∧ X b ∧ w.cell? ⟨b, off, none⟩ = some (strV l) ∧ w.frozen? ⟨b, off, none⟩ = false ∧ (∀ w', Frame (fun k => k ≠ b) (w.setCell ⟨b, off, none⟩ (.string ByteArray.empty)) w' →
      KeptIn w' (.slice (if cap = 1 then some ⟨b, off, none⟩ else some ⟨b, off + 1, none⟩) r.length (cap - 1)) X r) := by
  cases h with
  | row _ _ b off cap cs hX hh hc hs hL =>
    have h0 := hL 0 l rfl
    refine ⟨b, off, cap, rfl, by simpa using hc, (hX b).2 rfl, by rw [cell_of_row _ _ _ _ _ _ hh]; simpa using h0, by simp [World.frozen?, hh], fun w' hf => ?_⟩
    have hh' := hf.heap (setCell_row hh off (.string ByteArray.empty)) (by simp)
    simp only [List.length_cons] at hc
    by_cases h1 : cap = 1
    · have hr : r = [] := List.eq_nil_of_length_eq_zero (by omega)
      subst hr h1
      rw [if_pos rfl]
      exact .row X [] b off 0 _ hX hh' (Nat.zero_le _) (by simp; omega) (fun j l hj => by simp at hj)
    · rw [if_neg h1]
      refine .row X r b (off + 1) (cap - 1) _ hX hh' (by omega) (by simp; omega) (fun j y hj => ?_)
      rw [cells_of_set (by omega)]
      have := hL (j + 1) y (by simpa using hj)
      rw [Nat.add_assoc, Nat.add_comm 1 j]
      exact this

def keptSum (u : Lines) : Nat := (u.map List.length).sum
theorem keptSum_le {u : Lines} (h : ∀ l ∈ u, l.length ≤ 64) : keptSum u ≤ 64 * u.length := by
  induction u with
  | nil => simp [keptSum]
  | cons l u ih =>
    have h1 := ih (fun y hy => h y (by simp [hy]))
    have h2 := h l (by simp)
    simp only [keptSum, List.map_cons, List.sum_cons, List.length_cons] at h1 ⊢
    omega
theorem keptSum_take {u : Lines} {k : Nat} {l : List UInt8} (h : u[k]? = some l) : keptSum (u.take (k + 1)) = keptSum (u.take k) + l.length := by
  obtain ⟨hk, rfl⟩ := List.getElem?_eq_some_iff.1 h
  rw [List.take_succ_eq_append_getElem hk]
  show ((u.take k ++ [u[k]]).map List.length).sum = ((u.take k).map List.length).sum + _
  rw [List.map_append, List.sum_append]
  simp
theorem keptSum_take_le (u : Lines) (k : Nat) : keptSum (u.take k) ≤ keptSum u := by
  have := congrArg keptSum (List.take_append_drop k u)
  simp only [keptSum, List.map_append, List.sum_append] at this ⊢
  omega
theorem KeptIn.at {w : World} {v : Value} {X : Nat → Prop} {L : Lines} (h : KeptIn w v X L) : ∃ a c, v = .slice a L.length c ∧ ∀ j l, L[j]? = some l → ∃ b off, a = some ⟨b, off, none⟩ ∧ w.cell? ⟨b, off + j, none⟩ = some (strV l) := by
  cases h with
  | nil _ h => exact ⟨_, _, rfl, fun j l hj => by simp at hj⟩
  | row _ _ b off cap cs hX h hc hs hL =>
    exact ⟨_, _, rfl, fun j l hj => ⟨b, off, rfl, by rw [cell_of_row _ _ _ _ _ _ h]; exact hL j l hj⟩⟩


/-! Several texts behind kept ones. -/
theorem wpList_append_nothing {ops : Array Oper} {rest : List Oper} {o : Oper} {a : Act} {w : World} {Q : Exit → Act → World → Prop} (hgd : o.guard = none) (s x : Operand) (ho : o.op = .call { callee := .builtin .append, args := #[s, x], argTypes := #[64, 64] })
    (ad : Option Addr) (n c : Nat) (hs : a.eval s = .slice ad n c) (hn : n ≤ c) (hx : a.eval x = .slice none 0 0) (h : wpList Tryd.prog ops Q rest (a.put o.dst (.slice ad n c)) w) : wpList Tryd.prog ops Q (o :: rest) a w := by
  obtain ⟨i0, hi, hz0, hz1, hz2⟩ := info_parts Tryd.info9
  refine wpList_plain hgd fun K hK => ?_
  have hrun : (Builtin.append_ #[64, 64] o.type #[.slice ad n c, .slice none 0 0]).run Tryd.prog w = .ok (.slice ad n c) w := by
    cases ad <;> simp [Builtin.append_, run_underlying Tryd.underlying64, sizeOf, typeInfo, hi, Builtin.lenOf, Builtin.firstCells, hn, storeCells]
  unfold Oper.wp
  simp [execOp, ho, resolve, invoke, builtin, hs, hx, hrun, Result.andThen]
  exact hK _ _ h
theorem KeptIn.cap {w : World} {v : Value} {X : Nat → Prop} {L : Lines} (h : KeptIn w v X L) : ∃ a c, v = .slice a L.length c ∧ L.length ≤ c := by
  cases h with
  | nil _ h => exact ⟨_, _, rfl, Nat.zero_le _⟩
  | row _ _ b off cap cs hX h hc hs hL => exact ⟨_, _, rfl, hc⟩
theorem setCells_at : ∀ (vs : List Value) (o : Nat) (w : World) (b : Nat) (cs : Array Value) (t : TypeId) (fr : Nat × Nat), w.heap[b]? = some (.cells cs t fr) → o + vs.length ≤ cs.size →
    ∃ cs', (w.setCells b o vs).heap[b]? = some (.cells cs' t fr) ∧ cs'.size = cs.size ∧ (∀ j v, vs[j]? = some v → cs'[o + j]? = some v) ∧ ∀ j, j < o → cs'[j]? = cs[j]?
  | [], o, w, b, cs, t, fr, h, _ => ⟨cs, h, rfl, (fun j v h => by simp at h), fun _ _ => rfl⟩
  | v :: vs, o, w, b, cs, t, fr, h, hl => by
    simp only [List.length_cons] at hl
    obtain ⟨cs', h1, h2, h3, h4⟩ := setCells_at vs (o + 1) (w.setCell ⟨b, o, none⟩ v) b _ t fr (setCell_row h o v) (by simp; omega)
    refine ⟨cs', h1, by simpa using h2, fun j u hj => ?_, fun j hj => ?_⟩
    · cases j with
      | zero =>
        have hj : v = u := by simpa using hj
        subst hj
        rw [Nat.add_zero, h4 o (by omega), Array.getElem?_setIfInBounds, if_pos rfl, if_pos (by omega)]
      | succ j =>
        have := h3 j u (by simpa using hj)
        rw [← this]
        congr 1
        omega
    · rw [h4 j (by omega), cells_of_set (by omega)]
theorem wpList_append_kepts {ops : Array Oper} {rest : List Oper} {o : Oper} {a : Act} {w : World} {Q : Exit → Act → World → Prop} (hgd : o.guard = none) (s x : Operand) (ho : o.op = .call { callee := .builtin .append, args := #[s, x], argTypes := #[64, 64] })
    (v : Value) (X : Nat → Prop) (L : Lines) (hs : a.eval s = v) (hk : KeptIn w v X L) (xv : Value) (M : Lines) (base : Nat) (hx : a.eval x = xv) (hM : w.ownsRow base 9 1 xv M.length (M.map strV)) (hlen : L.length + M.length ≤ 1000000)
    (h : ∀ v' w' X', KeptIn w' v' X' (L ++ M) → Frame X w w' → (∀ k, X' k → X k ∨ w.heap.size ≤ k) → wpList Tryd.prog ops Q rest (a.put o.dst v') w') : wpList Tryd.prog ops Q (o :: rest) a w := by
  rcases hM.2 with ⟨rfl, h0⟩ | ⟨g, cap2, cur, rfl, hb, hh2, hn2, -, hs2, ht2⟩
  · have hM0 : M = [] := List.eq_nil_of_length_eq_zero (by simpa using h0)
    subst hM0
    obtain ⟨ad, c, rfl, hc⟩ := hk.cap
    refine wpList_append_nothing hgd s x ho ad _ c hs hc hx (h _ w X (by rw [List.append_nil]; exact hk) (Frame.refl _ _) (fun _ h => .inl h))
  · obtain ⟨i0, hi, hz0, hz1, hz2⟩ := info_parts Tryd.info9
    have hnews : ∀ (j : Nat) (u : Value), (M.map strV)[j]? = some u → w.cell? ((⟨g, 0, none⟩ : Addr).add j) = some u := fun j u hj => World.ownsRow.cells hM (g := g) rfl j u (by simpa using hj)
    have hone : ∀ u ∈ M.map strV, u.oneCell' = true := by
      intro u hu
      obtain ⟨l, -, rfl⟩ := List.mem_map.1 hu
      rfl
    have hgrow : ∀ v' w', w'.ownsRow w.heap.size 9 1 v' (L.length + M.length) (L.map strV ++ M.map strV) → w.grownBy w' none → wpList Tryd.prog ops Q rest (a.put o.dst v') w' := by
      intro v' w' ho' hg'
      have ho2 : w'.ownsRow w.heap.size 9 1 v' (L ++ M).length ((L ++ M).map strV) := by simpa using ho'
      obtain ⟨X', hk', hx'⟩ := kept_of_owns ho2
      exact h v' w' X' hk' ((Frame.refl X w).grown hg' (fun k _ e => by cases e)) (fun k hk => .inr (hx' k hk))
    cases hk with
    | nil _ hX =>
      by_cases hM0 : M = []
      · subst hM0
        have hrun : (Builtin.append_ #[64, 64] o.type #[.slice none 0 0, .slice (some ⟨g, 0, none⟩) 0 cap2]).run Tryd.prog w = .ok (.slice none 0 0) w := by
          simp [Builtin.append_, run_underlying Tryd.underlying64, sizeOf, typeInfo, hi, Builtin.lenOf, Builtin.firstCells, loadCells, loadCellsFrom]
        refine wpList_plain hgd fun K hK => ?_
        unfold Oper.wp
        simp only [List.length_nil] at hx
        simp [execOp, ho, resolve, invoke, builtin, hs, hx, hrun, Result.andThen]
        exact hK _ _ (h _ w X (.nil X hX) (Frame.refl _ _) (fun _ h => .inl h))
      · have hpos : 0 < M.length := List.length_pos_iff.2 hM0
        refine wpList_append_grows w hgd s x 64 ho 9 i0 (.string ByteArray.empty) 1 16 (by kernel_rfl) hi hz0 hz1 hz2 rfl (by decide) none 0 0 [] hs (fun _ => ⟨rfl, rfl⟩) rfl (fun b e => by cases e) ⟨g, 0, none⟩ M.length cap2 (M.map strV) hx (by simp) hnews hone (by omega) (by unfold maxLen; omega) (by omega) ?_
        intro v' w' ho' hg'
        exact hgrow v' w' (by simpa using ho') hg'
    | row _ _ b off cap cs hX hh hc hsz hL =>
      refine wpList_append_arg w hgd s x 64 ho 9 i0 (.string ByteArray.empty) 1 16 (by kernel_rfl) hi hz0 hz1 hz2 rfl (by decide) b off L.length cap (L.map strV) hs (by simp) ?_ ⟨g, 0, none⟩ M.length cap2 (M.map strV) hx (by simp) hnews hone ?_ (by unfold maxLen; omega) (by omega) ?_ ?_
      · intro j u hj
        rw [List.getElem?_map] at hj
        cases hc2 : L[j]? with
        | none => rw [hc2] at hj; cases hj
        | some c =>
          rw [hc2] at hj
          cases hj
          rw [cell_of_row _ _ _ _ _ _ hh]
          exact hL j c hc2
      · intro hr j hj
        simp at hj
        refine ⟨?_, by simp [World.frozen?, hh]⟩
        rw [cell_of_row _ _ _ _ _ _ hh]
        simp
        omega
      · intro hr
        obtain ⟨cs', h1, h2, h3, h4⟩ := setCells_at (M.map strV) (off + L.length) w b cs 9 (0, 0) hh (by simp; omega)
        have hk' : KeptIn (w.setCells b (off + L.length * 1) (M.map strV)) (.slice (some ⟨b, off, none⟩) (L ++ M).length cap) X (L ++ M) := by
          rw [Nat.mul_one]
          refine .row X (L ++ M) b off cap cs' hX h1 (by simpa using hr) (by rw [h2]; exact hsz) (fun j y hj => ?_)
          by_cases hjl : j < L.length
          · rw [List.getElem?_append_left hjl] at hj
            rw [h4 _ (by omega)]
            exact hL j y hj
          · rw [List.getElem?_append_right (by omega)] at hj
            have := h3 (j - L.length) (strV y) (by rw [List.getElem?_map, hj]; rfl)
            rw [show off + j = off + L.length + (j - L.length) by omega]
            exact this
        have := h _ _ X hk' ((Frame.cells b (off + L.length * 1) (M.map strV)).mono (fun k _ e => (hX k).2 e)) (fun k hk => .inl hk)
        rw [List.length_append] at this
        exact this
      · intro _ v' w' ho' hg'
        exact hgrow v' w' ho' hg'

end Go.Proofs.YtdpjopemdhbgpaaDoor
