/- A slice of texts that moves on: what lies behind its head is still in memory. -/
import Derived.Test.YteghdepedlaneaaDoorLtake
import Derived.ArgAppend
import Derived.Test.YteghdepedlaneaaDoorLcut
import Derived.Test.YteghdepedlaneaaDoorIA
namespace Go.Proofs.YteghdepedlaneaaDoor
open Go.RowKit

/-- The value is a slice that reads as these texts; the block of X is its own, with room up to its capacity. -/
inductive KeptIn (w : World) : Value → (Nat → Prop) → Lines → Prop
  | nil (X : Nat → Prop) (h : ∀ k, ¬ X k) : KeptIn w (.slice none 0 0) X []
  | row (X : Nat → Prop) (L : Lines) (b off cap : Nat) (cs : Array Value) (hX : ∀ k, X k ↔ k = b) (h : w.heap[b]? = some (.cells cs 9 (0, 0))) (hc : L.length ≤ cap) (hs : off + cap ≤ cs.size)
      (hL : ∀ j l, L[j]? = some l → cs[off + j]? = some (strV l)) : KeptIn w (.slice (some ⟨b, off, none⟩) L.length cap) X L
theorem KeptIn.frame {w w' : World} {v : Value} {X : Nat → Prop} {L : Lines} {p : Nat → Prop} (h : KeptIn w v X L) (hf : Frame p w w') (hp : ∀ k, X k → ¬ p k) : KeptIn w' v X L := by
  cases h with
  | nil _ h => exact .nil _ h
  | row _ _ b off cap cs hX h hc hs hL => exact .row X L b off cap cs hX (hf.heap h (hp b ((hX b).2 rfl))) hc hs hL
theorem KeptIn.old {w : World} {v : Value} {X : Nat → Prop} {L : Lines} (h : KeptIn w v X L) : ∀ k, X k → k < w.heap.size := by
  intro k hk
  cases h with
  | nil _ h => exact absurd hk (h k)
  | row _ _ b off cap cs hX h hc hs hL =>
    rw [(hX k).1 hk]
    exact (Array.getElem?_eq_some_iff.1 h).1
theorem KeptIn.slice {w : World} {v : Value} {X : Nat → Prop} {L : Lines} (h : KeptIn w v X L) : ∃ a c, v = .slice a L.length c := by
  cases h with
  | nil _ h => exact ⟨_, _, rfl⟩
  | row _ _ b off cap cs hX h hc hs hL => exact ⟨_, _, rfl⟩
theorem kept_of_owns {w : World} {base : Nat} {v : Value} {L : Lines} (h : w.ownsRow base 9 1 v L.length (L.map strV)) : ∃ X : Nat → Prop, KeptIn w v X L ∧ ∀ k, X k → base ≤ k := by
  rcases h.2 with ⟨rfl, h0⟩ | ⟨g, cap, cur, rfl, hb, hh, hn, -, hs, ht⟩
  · rw [List.eq_nil_of_length_eq_zero h0]
    exact ⟨fun _ => False, .nil _ (fun _ h => h), fun _ h => h.elim⟩
  · refine ⟨(· = g), .row _ L g 0 cap cur (fun _ => Iff.rfl) hh hn (by omega) (fun j l hj => ?_), fun k hk => by omega⟩
    have h1 : (L.map strV)[j]? = some (strV l) := by simp [hj]
    rw [← ht, List.getElem?_take] at h1
    split at h1
    · rw [Nat.zero_add]; simpa using h1
    · cases h1
theorem cells_of_set {cs : Array Value} {i j : Nat} {x : Value} (h : i ≠ j) : (cs.setIfInBounds i x)[j]? = cs[j]? := by simp [h]

/-- A text behind kept ones: there is room, or it is a new block. -/
theorem wpList_append_kept {ops : Array Oper} {rest : List Oper} {o : Oper} {a : Act} {w : World} {Q : Exit → Act → World → Prop} (hgd : o.guard = none) (s x : Operand) (ho : o.op = .call { callee := .builtin .append, args := #[s, x], argTypes := #[65, 65] })
    (v : Value) (X : Nat → Prop) (L : Lines) (hs : a.eval s = v) (hk : KeptIn w v X L) (ad : Addr) (l : List UInt8) (hx : a.eval x = .slice (some ad) 1 1) (hl : w.cell? ad = some (strV l)) (hlen : L.length ≤ 1000000)
    (h : ∀ v' w' X', KeptIn w' v' X' (L ++ [l]) → Frame X w w' → (∀ k, X' k → X k ∨ w.heap.size ≤ k) → wpList Tryd.prog ops Q rest (a.put o.dst v') w') : wpList Tryd.prog ops Q (o :: rest) a w := by
  obtain ⟨i0, hi, hz0, hz1, hz2⟩ := info_parts Tryd.info9
  have hadd0 : ad.add 0 = ad := by obtain ⟨b, o, sp⟩ := ad; cases sp <;> simp [Addr.add]
  have hnews : ∀ (j : Nat) (u : Value), [strV l][j]? = some u → w.cell? (ad.add j) = some u := by
    intro j u hj
    match j, hj with
    | 0, hj =>
      simp at hj
      subst hj
      rw [hadd0]
      exact hl
    | j + 1, hj => simp at hj
  have hone : ∀ u ∈ [strV l], u.oneCell' = true := by
    intro u hu
    rw [List.mem_singleton.1 hu]
    rfl
  have hgrow : ∀ v' w', w'.ownsRow w.heap.size 9 1 v' (L.length + 1) (L.map strV ++ [strV l]) → w.grownBy w' none → wpList Tryd.prog ops Q rest (a.put o.dst v') w' := by
    intro v' w' ho' hg'
    have ho2 : w'.ownsRow w.heap.size 9 1 v' (L ++ [l]).length ((L ++ [l]).map strV) := by simpa using ho'
    obtain ⟨X', hk', hx'⟩ := kept_of_owns ho2
    exact h v' w' X' hk' ((Frame.refl X w).grown hg' (fun k _ e => by cases e)) (fun k hk => .inr (hx' k hk))
  cases hk with
  | nil _ hX =>
    refine wpList_append_grows w hgd s x 65 ho 9 i0 (.string ByteArray.empty) 1 16 (by kernel_rfl) hi hz0 hz1 hz2 rfl (by decide) none 0 0 [] hs (fun _ => ⟨rfl, rfl⟩) rfl (fun b e => by cases e) ad 1 1 [strV l] hx rfl hnews hone (by omega) (by unfold maxLen; omega) (by omega) ?_
    intro v' w' ho' hg'
    exact hgrow v' w' (by simpa using ho') hg'
  | row _ _ b off cap cs hX hh hc hsz hL =>
    refine wpList_append_arg w hgd s x 65 ho 9 i0 (.string ByteArray.empty) 1 16 (by kernel_rfl) hi hz0 hz1 hz2 rfl (by decide) b off L.length cap (L.map strV) hs (by simp) ?_ ad 1 1 [strV l] hx rfl hnews hone ?_ (by unfold maxLen; omega) (by omega) ?_ ?_
    · intro j u hj
      rw [List.getElem?_map] at hj
      cases hc2 : L[j]? with
      | none => rw [hc2] at hj; cases hj
      | some c =>
        rw [hc2] at hj
        cases hj
        rw [cell_of_row _ _ _ _ _ _ hh]
        exact hL j c hc2
    · intro hr j hj
      simp at hj
      subst hj
      refine ⟨?_, by simp [World.frozen?, hh]⟩
      rw [cell_of_row _ _ _ _ _ _ hh]
      simp
      omega
    · intro hr
      have hh' : (w.setCells b (off + L.length * 1) [strV l]).heap[b]? = some (.cells (cs.setIfInBounds (off + L.length) (strV l)) 9 (0, 0)) := by
        simp only [World.setCells, Nat.mul_one]
        exact setCell_row hh _ _
      have hk' : KeptIn (w.setCells b (off + L.length * 1) [strV l]) (.slice (some ⟨b, off, none⟩) (L ++ [l]).length cap) X (L ++ [l]) := by
        refine .row X (L ++ [l]) b off cap _ hX hh' (by simpa using hr) (by simpa using hsz) (fun j y hj => ?_)
        by_cases hjl : j < L.length
        · rw [List.getElem?_append_left hjl] at hj
          rw [cells_of_set (by omega)]
          exact hL j y hj
        · rw [List.getElem?_append_right (by omega)] at hj
          have h0 : j - L.length = 0 := by
            have := (List.getElem?_eq_some_iff.1 hj).1
            simp at this
            omega
          rw [h0] at hj
          simp at hj
          subst hj
          have : j = L.length := by omega
          subst this
          simp [Array.getElem?_setIfInBounds]
          omega
      have := h _ _ X hk' ((Frame.cells b (off + L.length * 1) [strV l]).mono (fun k _ e => (hX k).2 e)) (fun k hk => .inl hk)
      simpa using this
    · intro _ v' w' ho' hg'
      exact hgrow v' w' ho' hg'

/-- The first one of the kept texts is taken. -/
theorem KeptIn.head {w : World} {v : Value} {X : Nat → Prop} {l : List UInt8} {r : Lines} (h : KeptIn w v X (l :: r)) :
    ∃ b off cap, v = .slice (some ⟨b, off, none⟩) (r.length + 1) cap ∧ r.length + 1 ≤ cap ∧ X b ∧ w.cell? ⟨b, off, none⟩ = some (strV l) ∧ w.frozen? ⟨b, off, none⟩ = false ∧ (∀ w', Frame (fun k => k ≠ b) (w.setCell ⟨b, off, none⟩ (.string ByteArray.empty)) w' →
      KeptIn w' (.slice (if cap = 1 then some ⟨b, off, none⟩ else some ⟨b, off + 1, none⟩) r.length (cap - 1)) X r) := by
  cases h with
  | row _ _ b off cap cs hX hh hc hs hL =>
    have h0 := hL 0 l rfl
    refine ⟨b, off, cap, rfl, by simpa using hc, (hX b).2 rfl, by rw [cell_of_row _ _ _ _ _ _ hh]; simpa using h0, by simp [World.frozen?, hh], fun w' hf => ?_⟩
    have hh' := hf.heap (setCell_row hh off (.string ByteArray.empty)) (by simp)
    simp only [List.length_cons] at hc
    by_cases h1 : cap = 1
    · have hr : r = [] := List.eq_nil_of_length_eq_zero (by omega)
      subst hr h1
      rw [if_pos rfl]
      exact .row X [] b off 0 _ hX hh' (Nat.zero_le _) (by simp; omega) (fun j l hj => by simp at hj)
    · rw [if_neg h1]
      refine .row X r b (off + 1) (cap - 1) _ hX hh' (by omega) (by simp; omega) (fun j y hj => ?_)
      rw [cells_of_set (by omega)]
      have := hL (j + 1) y (by simpa using hj)
      rw [Nat.add_assoc, Nat.add_comm 1 j]
      exact this

def keptSum (u : Lines) : Nat := (u.map List.length).sum
theorem keptSum_le {u : Lines} (h : ∀ l ∈ u, l.length ≤ 64) : keptSum u ≤ 64 * u.length := by
  induction u with
  | nil => simp [keptSum]
  | cons l u ih =>
    have h1 := ih (fun y hy => h y (by simp [hy]))
    have h2 := h l (by simp)
    simp only [keptSum, List.map_cons, List.sum_cons, List.length_cons] at h1 ⊢
    omega
theorem keptSum_take {u : Lines} {k : Nat} {l : List UInt8} (h : u[k]? = some l) : keptSum (u.take (k + 1)) = keptSum (u.take k) + l.length := by
  obtain ⟨hk, rfl⟩ := List.getElem?_eq_some_iff.1 h
  rw [List.take_succ_eq_append_getElem hk]
  show ((u.take k ++ [u[k]]).map List.length).sum = ((u.take k).map List.length).sum + _
  rw [List.map_append, List.sum_append]
  simp
theorem keptSum_take_le (u : Lines) (k : Nat) : keptSum (u.take k) ≤ keptSum u := by
  have := congrArg keptSum (List.take_append_drop k u)
  simp only [keptSum, List.map_append, List.sum_append] at this ⊢
  omega
theorem KeptIn.at {w : World} {v : Value} {X : Nat → Prop} {L : Lines} (h : KeptIn w v X L) : ∃ a c, v = .slice a L.length c ∧ ∀ j l, L[j]? = some l → ∃ b off, a = some ⟨b, off, none⟩ ∧ w.cell? ⟨b, off + j, none⟩ = some (strV l) := by
  cases h with
  | nil _ h => exact ⟨_, _, rfl, fun j l hj => by simp at hj⟩
  | row _ _ b off cap cs hX h hc hs hL =>
    exact ⟨_, _, rfl, fun j l hj => ⟨b, off, rfl, by rw [cell_of_row _ _ _ _ _ _ h]; exact hL j l hj⟩⟩


/-! Several texts behind kept ones. -/
theorem wpList_append_nothing {ops : Array Oper} {rest : List Oper} {o : Oper} {a : Act} {w : World} {Q : Exit → Act → World → Prop} (hgd : o.guard = none) (s x : Operand) (ho : o.op = .call { callee := .builtin .append, args := #[s, x], argTypes := #[65, 65] })
    (ad : Option Addr) (n c : Nat) (hs : a.eval s = .slice ad n c) (hn : n ≤ c) (hx : a.eval x = .slice none 0 0) (h : wpList Tryd.prog ops Q rest (a.put o.dst (.slice ad n c)) w) : wpList Tryd.prog ops Q (o :: rest) a w := by
  obtain ⟨i0, hi, hz0, hz1, hz2⟩ := info_parts Tryd.info9
  refine wpList_plain hgd fun K hK => ?_
  have hrun : (Builtin.append_ #[65, 65] o.type #[.slice ad n c, .slice none 0 0]).run Tryd.prog w = .ok (.slice ad n c) w := by
    cases ad <;> simp [Builtin.append_, run_underlying Tryd.underlying65, sizeOf, typeInfo, hi, Builtin.lenOf, Builtin.firstCells, hn, storeCells]
  unfold Oper.wp
  simp [execOp, ho, resolve, invoke, builtin, hs, hx, hrun, Result.andThen]
  exact hK _ _ h
theorem KeptIn.cap {w : World} {v : Value} {X : Nat → Prop} {L : Lines} (h : KeptIn w v X L) : ∃ a c, v = .slice a L.length c ∧ L.length ≤ c := by
  cases h with
  | nil _ h => exact ⟨_, _, rfl, Nat.zero_le _⟩
  | row _ _ b off cap cs hX h hc hs hL => exact ⟨_, _, rfl, hc⟩
theorem setCells_at : ∀ (vs : List Value) (o : Nat) (w : World) (b : Nat) (cs : Array Value) (t : TypeId) (fr : Nat × Nat), w.heap[b]? = some (.cells cs t fr) → o + vs.length ≤ cs.size →
    ∃ cs', (w.setCells b o vs).heap[b]? = some (.cells cs' t fr) ∧ cs'.size = cs.size ∧ (∀ j v, vs[j]? = some v → cs'[o + j]? = some v) ∧ ∀ j, j < o → cs'[j]? = cs[j]?
  | [], o, w, b, cs, t, fr, h, _ => ⟨cs, h, rfl, (fun j v h => by simp at h), fun _ _ => rfl⟩
  | v :: vs, o, w, b, cs, t, fr, h, hl => by
    simp only [List.length_cons] at hl
    obtain ⟨cs', h1, h2, h3, h4⟩ := setCells_at vs (o + 1) (w.setCell ⟨b, o, none⟩ v) b _ t fr (setCell_row h o v) (by simp; omega)
    refine ⟨cs', h1, by simpa using h2, fun j u hj => ?_, fun j hj => ?_⟩
    · cases j with
      | zero =>
        have hj : v = u := by simpa using hj
        subst hj
        rw [Nat.add_zero, h4 o (by omega), Array.getElem?_setIfInBounds, if_pos rfl, if_pos (by omega)]
      | succ j =>
        have := h3 j u (by simpa using hj)
        rw [← this]
        congr 1
        omega
    · rw [h4 j (by omega), cells_of_set (by omega)]
theorem wpList_append_kepts {ops : Array Oper} {rest : List Oper} {o : Oper} {a : Act} {w : World} {Q : Exit → Act → World → Prop} (hgd : o.guard = none) (s x : Operand) (ho : o.op = .call { callee := .builtin .append, args := #[s, x], argTypes := #[65, 65] })
    (v : Value) (X : Nat → Prop) (L : Lines) (hs : a.eval s = v) (hk : KeptIn w v X L) (xv : Value) (M : Lines) (base : Nat) (hx : a.eval x = xv) (hM : w.ownsRow base 9 1 xv M.length (M.map strV)) (hlen : L.length + M.length ≤ 1000000)
    (h : ∀ v' w' X', KeptIn w' v' X' (L ++ M) → Frame X w w' → (∀ k, X' k → X k ∨ w.heap.size ≤ k) → wpList Tryd.prog ops Q rest (a.put o.dst v') w') : wpList Tryd.prog ops Q (o :: rest) a w := by
  rcases hM.2 with ⟨rfl, h0⟩ | ⟨g, cap2, cur, rfl, hb, hh2, hn2, -, hs2, ht2⟩
  · have hM0 : M = [] := List.eq_nil_of_length_eq_zero (by simpa using h0)
    subst hM0
    obtain ⟨ad, c, rfl, hc⟩ := hk.cap
    refine wpList_append_nothing hgd s x ho ad _ c hs hc hx (h _ w X (by rw [List.append_nil]; exact hk) (Frame.refl _ _) (fun _ h => .inl h))
  · obtain ⟨i0, hi, hz0, hz1, hz2⟩ := info_parts Tryd.info9
    have hnews : ∀ (j : Nat) (u : Value), (M.map strV)[j]? = some u → w.cell? ((⟨g, 0, none⟩ : Addr).add j) = some u := fun j u hj => World.ownsRow.cells hM (g := g) rfl j u (by simpa using hj)
    have hone : ∀ u ∈ M.map strV, u.oneCell' = true := by
      intro u hu
      obtain ⟨l, -, rfl⟩ := List.mem_map.1 hu
      rfl
    have hgrow : ∀ v' w', w'.ownsRow w.heap.size 9 1 v' (L.length + M.length) (L.map strV ++ M.map strV) → w.grownBy w' none → wpList Tryd.prog ops Q rest (a.put o.dst v') w' := by
      intro v' w' ho' hg'
      have ho2 : w'.ownsRow w.heap.size 9 1 v' (L ++ M).length ((L ++ M).map strV) := by simpa using ho'
      obtain ⟨X', hk', hx'⟩ := kept_of_owns ho2
      exact h v' w' X' hk' ((Frame.refl X w).grown hg' (fun k _ e => by cases e)) (fun k hk => .inr (hx' k hk))
    cases hk with
    | nil _ hX =>
      by_cases hM0 : M = []
      · subst hM0
        have hrun : (Builtin.append_ #[65, 65] o.type #[.slice none 0 0, .slice (some ⟨g, 0, none⟩) 0 cap2]).run Tryd.prog w = .ok (.slice none 0 0) w := by
          simp [Builtin.append_, run_underlying Tryd.underlying65, sizeOf, typeInfo, hi, Builtin.lenOf, Builtin.firstCells, loadCells, loadCellsFrom]
        refine wpList_plain hgd fun K hK => ?_
        unfold Oper.wp
        simp only [List.length_nil] at hx
        simp [execOp, ho, resolve, invoke, builtin, hs, hx, hrun, Result.andThen]
        exact hK _ _ (h _ w X (.nil X hX) (Frame.refl _ _) (fun _ h => .inl h))
      · have hpos : 0 < M.length := List.length_pos_iff.2 hM0
        refine wpList_append_grows w hgd s x 65 ho 9 i0 (.string ByteArray.empty) 1 16 (by kernel_rfl) hi hz0 hz1 hz2 rfl (by decide) none 0 0 [] hs (fun _ => ⟨rfl, rfl⟩) rfl (fun b e => by cases e) ⟨g, 0, none⟩ M.length cap2 (M.map strV) hx (by simp) hnews hone (by omega) (by unfold maxLen; omega) (by omega) ?_
        intro v' w' ho' hg'
        exact hgrow v' w' (by simpa using ho') hg'
    | row _ _ b off cap cs hX hh hc hsz hL =>
      refine wpList_append_arg w hgd s x 65 ho 9 i0 (.string ByteArray.empty) 1 16 (by kernel_rfl) hi hz0 hz1 hz2 rfl (by decide) b off L.length cap (L.map strV) hs (by simp) ?_ ⟨g, 0, none⟩ M.length cap2 (M.map strV) hx (by simp) hnews hone ?_ (by unfold maxLen; omega) (by omega) ?_ ?_
      · intro j u hj
        rw [List.getElem?_map] at hj
        cases hc2 : L[j]? with
        | none => rw [hc2] at hj; cases hj
        | some c =>
          rw [hc2] at hj
          cases hj
          rw [cell_of_row _ _ _ _ _ _ hh]
          exact hL j c hc2
      · intro hr j hj
        simp at hj
        refine ⟨?_, by simp [World.frozen?, hh]⟩
        rw [cell_of_row _ _ _ _ _ _ hh]
        simp
        omega
      · intro hr
        obtain ⟨cs', h1, h2, h3, h4⟩ := setCells_at (M.map strV) (off + L.length) w b cs 9 (0, 0) hh (by simp; omega)
        have hk' : KeptIn (w.setCells b (off + L.length * 1) (M.map strV)) (.slice (some ⟨b, off, none⟩) (L ++ M).length cap) X (L ++ M) := by
          rw [Nat.mul_one]
          refine .row X (L ++ M) b off cap cs' hX h1 (by simpa using hr) (by rw [h2]; exact hsz) (fun j y hj => ?_)
          by_cases hjl : j < L.length
          · rw [List.getElem?_append_left hjl] at hj
            rw [h4 _ (by omega)]
            exact hL j y hj
          · rw [List.getElem?_append_right (by omega)] at hj
            have := h3 (j - L.length) (strV y) (by rw [List.getElem?_map, hj]; rfl)
            rw [show off + j = off + L.length + (j - L.length) by omega]
            exact this
        have := h _ _ X hk' ((Frame.cells b (off + L.length * 1) (M.map strV)).mono (fun k _ e => (hX k).2 e)) (fun k hk => .inl hk)
        rw [List.length_append] at this
        exact this
      · intro _ v' w' ho' hg'
        exact hgrow v' w' ho' hg'

end Go.Proofs.YteghdepedlaneaaDoor

namespace Go.Proofs.YteghdepedlaneaaDoor
open Go.RowKit

section
variable {g o : Nat} {T : TypeId} {pre post : List Value} {f : Bool} {b : List UInt8} {w : World} {wv ovv : Value}
theorem Spl.c66 (h : Spl g o T pre (wv :: ovv :: post) f b w) : w.cell? ⟨g, o + 66, none⟩ = some wv := by
  rw [cell_of_row _ _ _ _ _ _ h.heap, ← h.off]
  simp only [rowA, List.getElem?_toArray]
  rw [List.getElem?_append_right (by simp [length_splL h.le])]
  simp [length_splL h.le]
theorem Spl.c67 (h : Spl g o T pre (wv :: ovv :: post) f b w) : w.cell? ⟨g, o + 67, none⟩ = some ovv := by
  rw [cell_of_row _ _ _ _ _ _ h.heap, ← h.off]
  simp only [rowA, List.getElem?_toArray]
  rw [List.getElem?_append_right (by simp [length_splL h.le])]
  simp [length_splL h.le, show pre.length + 67 - (pre.length + 66) = 1 by omega]
theorem Spl.put66 (h : Spl g o T pre (wv :: ovv :: post) f b w) (v : Value) : Spl g o T pre (v :: ovv :: post) f b (w.setCell ⟨g, o + 66, none⟩ v) := by
  refine ⟨?_, h.off, h.le, h.fail⟩
  rw [setCell_row h.heap, ← h.off]
  simp only [rowA, List.setIfInBounds_toArray]
  rw [List.set_append_right _ _ (by simp [length_splL h.le])]
  simp [length_splL h.le]
theorem Spl.put67 (h : Spl g o T pre (wv :: ovv :: post) f b w) (v : Value) : Spl g o T pre (wv :: v :: post) f b (w.setCell ⟨g, o + 67, none⟩ v) := by
  refine ⟨?_, h.off, h.le, h.fail⟩
  rw [setCell_row h.heap, ← h.off]
  simp only [rowA, List.setIfInBounds_toArray]
  rw [List.set_append_right _ _ (by simp [length_splL h.le])]
  simp [length_splL h.le, show pre.length + 67 - (pre.length + 66) = 1 by omega]
theorem Spl.froz (h : Spl g o T pre post f b w) (k : Nat) : w.frozen? ⟨g, k, none⟩ = false := by simp [World.frozen?, h.heap]
end

theorem KeptIn.slice2 {w : World} {v : Value} {X : Nat → Prop} {L M : Lines} (h : KeptIn w v X (L ++ M)) : ∃ a c, v = .slice a (L.length + M.length) c := by
  obtain ⟨a, c, rfl⟩ := h.slice
  exact ⟨a, c, by rw [List.length_append]⟩

/-- A queue lies in block q, from offset o on: what is begun, the lines that wait (in the block of X), whether its input has ended. -/
structure QRep (q o : Nat) (T : TypeId) (pre post : List Value) (f : Bool) (b : List UInt8) (X : Nat → Prop) (L : Lines) (ov : Bool) (wv : Value) (w : World) : Prop where
  spl : Spl q o T pre (wv :: .bool ov :: post) f b w
  kept : KeptIn w wv X L
  away : ¬ X q
/-- The queue is as told; nothing else has turned. -/
def QTurns (q o : Nat) (T : TypeId) (pre post : List Value) (f : Bool) (b : List UInt8) (X : Nat → Prop) (L : Lines) (ov : Bool) (w : World) (v : Value) (e : Ending) (w' : World) : Prop :=
  ∃ X' wv', e = .returned v ∧ QRep q o T pre post f b X' L ov wv' w' ∧ (∀ k, X' k → X k ∨ w.heap.size ≤ k) ∧ Frame (fun k => k = q ∨ X k) w w'

set_option maxRecDepth 100000 in
set_option maxHeartbeats 2000000 in
theorem qput_any {q o : Nat} {T : TypeId} {pre post : List Value} {b : List UInt8} {X : Nat → Prop} {L : Lines} {ov : Bool} {wv : Value} {w : World} (v : Value) (bs : List UInt8) (h : QRep q o T pre post false b X L ov wv w) (hB : IsBytes (· ≠ q) w v bs) (hsz : bs.length ≤ 1000) (hL : L.length ≤ 1000) (hC : (cutL b bs).1.length ≤ 1000) :
    Calls Tryd.prog 95 #[.pointer (some ⟨q, o, none⟩), v] w (QTurns q o T pre post (cutL b bs).2.isNone ((cutL b bs).2.getD []) X (L ++ (cutL b bs).1) ov w (.int .i64 (if (cutL b bs).2 = none then 20 else 0))) := by
  have HC := Lib.hid (cut_any v bs h.spl hB (by omega))
  have HK := Lib.hid h.kept
  have HA := Lib.hid h.away
  have hold := h.kept.old
  have HOld := Lib.hid hold
  obtain ⟨M, hM⟩ : ∃ M, M = (cutL b bs).1 := ⟨_, rfl⟩
  obtain ⟨d, hd⟩ : ∃ d, d = (cutL b bs).2 := ⟨_, rfl⟩
  rw [← hM, ← hd] at HC
  rw [← hM] at hC
  rw [← hM, ← hd]
  obtain ⟨E, hE⟩ : ∃ E : Int, E = if d = none then 20 else 0 := ⟨_, rfl⟩
  have HE := Lib.hid hE
  rw [← hE]
  have HLen := Lib.hid (show L.length + M.length ≤ 1000000 by omega)
  clear h hM hd hE hold hB hsz hL hC
  go_enter Tryd.func95, Tryd.ntmps95
  go_wp2_with fail
  refine HC.out.mono ?_
  rintro e w1 ⟨lv, rfl, hown, hs1, hf1⟩
  have HK1 := Lib.hid (HK.out.frame hf1 (fun k hk e => HA.out (e ▸ hk)))
  have HF1 := Lib.hid hf1
  have HS1 := Lib.hid hs1
  have HOwn := Lib.hid hown
  have c66 := hs1.c66
  rw [← HE.out]
  obtain ⟨la, lc, hlv⟩ := owns_slice hown
  obtain ⟨ka, kc, hwv⟩ := HK.out.slice
  clear hf1 hs1 hown
  subst hlv
  subst hwv
  go_wp2_with (at_builtin; refine wpList_append_kepts rfl (.tmp 19) (.tmp 20) rfl _ X L rfl HK1.out _ M _ rfl HOwn.out HLen.out ?_; intro v' w2 X' hk2 hf2 hx2; obtain ⟨va, vc, rfl⟩ := hk2.slice2; have hs2 := HS1.out.frame hf2 HA.out; have HK2 := Lib.hid hk2; have HF2 := Lib.hid hf2; have HX2 := Lib.hid hx2; have HS2 := Lib.hid hs2; have c66' := hs2.c66; have z66 := hs2.froz (o + 66); clear hk2 hf2 hx2 hs2 c66)
  go_ret
  have hc := Frame.cell w2 ⟨q, o + 66, none⟩ (.slice va (L.length + M.length) vc)
  have hx3 : ¬ X' q := fun e => by
    rcases HX2.out _ e with e | e
    · exact HA.out e
    · have := HS1.out.lt; omega
  refine ⟨X', _, rfl, ⟨HS2.out.put66 _, HK2.out.frame hc (fun k hk e => hx3 (by have e' : k = q := e; rw [← e']; exact hk)), hx3⟩, fun k hk => ?_, (HF1.out.mono (fun _ _ e => .inl e)).trans ((HF2.out.mono (fun _ _ e => .inr e)).trans (hc.mono (fun _ _ e => .inl e)))⟩
  rcases HX2.out k hk with e | e
  · exact .inl e
  · exact .inr (Nat.le_trans HF1.out.size e)

set_option maxRecDepth 100000 in
set_option maxHeartbeats 2000000 in
theorem qclose_any {q o : Nat} {T : TypeId} {pre post : List Value} {b : List UInt8} {X : Nat → Prop} {L : Lines} {ov : Bool} {wv : Value} {w : World} (h : QRep q o T pre post false b X L ov wv w) (hL : L.length ≤ 1000) :
    Calls Tryd.prog 93 #[.pointer (some ⟨q, o, none⟩)] w (QTurns q o T pre post false [] X (L ++ if b = [] then [] else [b]) true w (.tuple #[])) := by
  have c67 := h.spl.c67
  have z67 := h.spl.froz (o + 67)
  have hs0 := h.spl.put67 (.bool true)
  have hf0 := Frame.cell w ⟨q, o + 67, none⟩ (.bool true)
  have HK := Lib.hid (h.kept.frame hf0 (fun k hk e => h.away (by have e' : k = q := e; rw [← e']; exact hk)))
  have HA := Lib.hid h.away
  have HL := Lib.hid hL
  have hlt := h.spl.lt
  obtain ⟨ka, kc, hwv⟩ := h.kept.slice
  subst hwv
  obtain ⟨M, hM⟩ : ∃ M, M = L ++ if b = [] then [] else [b] := ⟨_, rfl⟩
  rw [← hM]
  have HM := Lib.hid hM
  clear h hL hM
  go_enter Tryd.func93, Tryd.ntmps93
  go_wp2_with fail
  have hsz0 : (w.setCell ⟨q, o + 67, none⟩ (.bool true)).heap.size = w.heap.size := by simp [World.setCell]
  generalize w.setCell ⟨q, o + 67, none⟩ (.bool true) = W0 at hs0 hf0 HK hsz0 ⊢
  have HS0 := Lib.hid hs0
  have HF0 := Lib.hid hf0
  clear hs0 hf0 c67 z67
  refine (rest_any HS0.out).mono ?_
  rintro e w1 ⟨rfl, hs1, hf1⟩
  have HK1 := Lib.hid (HK.out.frame hf1 (fun k hk e => HA.out (e ▸ hk)))
  have HF1 := Lib.hid hf1
  have HS1 := Lib.hid hs1
  have c66 := hs1.c66
  clear hs1 hf1
  by_cases hb : b = []
  · subst hb
    go_wp2_with fail
    go_returns
    rw [show M = L by rw [HM.out]; simp]
    exact ⟨X, _, rfl, ⟨HS1.out, HK1.out, HA.out⟩, fun k hk => .inl hk, (HF0.out.trans HF1.out).mono (fun _ _ e => .inl e)⟩
  · have hbe : (!b.isEmpty) = true := by cases b <;> simp_all
    rw [hbe]
    have HM2 := Lib.hid (show M = L ++ [b] by rw [HM.out, if_neg hb])
    obtain ⟨S, hS⟩ : ∃ S : ByteArray, strV b = .string S := ⟨_, rfl⟩
    rw [hS]
    have HSt := Lib.hid hS
    clear hb hbe hS
    go_wp2_with (at_builtin; refine wpList_append_kept rfl (.tmp 19) (.tmp 21) rfl _ X L rfl (HK1.out.frame ((Frame.refl (fun _ => False) w1).alloc (.cells #[.string S] 9 (0, 0))) (fun _ _ e => e)) ⟨w1.heap.size, 0, none⟩ b rfl (by rw [HSt.out, cell_of_row _ _ _ _ _ _ (heap_alloc_last w1 _)]; rfl) (by have := HL.out; omega) ?_; intro v' w2 X' hk2 hf2 hx2; obtain ⟨va, vc, rfl⟩ := hk2.slice2; have hf3 := ((Frame.refl X w1).alloc _).trans hf2; have hs2 := HS1.out.frame hf3 HA.out; have HK2 := Lib.hid hk2; have HF2 := Lib.hid hf3; have HX2 := Lib.hid hx2; have HS2 := Lib.hid hs2; have c66' := hs2.c66; have z66 := hs2.froz (o + 66); clear hk2 hf2 hx2 hs2 c66 hf3)
    go_returns
    have hc := Frame.cell w2 ⟨q, o + 66, none⟩ (.slice va (L.length + [b].length) vc)
    have hx3 : ¬ X' q := fun e => by
      rcases HX2.out _ e with e | e
      · exact HA.out e
      · have := HF1.out.size
        simp at e
        omega
    rw [HM2.out]
    refine ⟨X', _, rfl, ⟨HS2.out.put66 _, HK2.out.frame hc (fun k hk e => hx3 (by have e' : k = q := e; rw [← e']; exact hk)), hx3⟩, fun k hk => ?_, ((HF0.out.trans HF1.out).mono (fun _ _ e => .inl e)).trans ((HF2.out.mono (fun _ _ e => .inr e)).trans (hc.mono (fun _ _ e => .inl e)))⟩
    rcases HX2.out k hk with e | e
    · exact .inl e
    · refine .inr ?_
      have := HF1.out.size
      simp at e
      omega

set_option maxRecDepth 100000 in
set_option maxHeartbeats 2000000 in
theorem qfirst_none {q o : Nat} {T : TypeId} {pre post : List Value} {f : Bool} {b : List UInt8} {X : Nat → Prop} {ov : Bool} {wv : Value} {w : World} (h : QRep q o T pre post f b X [] ov wv w) :
    Calls Tryd.prog 58 #[.pointer (some ⟨q, o, none⟩)] w (Says w (.tuple #[strV [], .bool false])) := by
  have c66 := h.spl.c66
  obtain ⟨ka, kc, hwv⟩ := h.kept.slice
  subst hwv
  simp only [List.length_nil] at c66
  clear h
  go_enter Tryd.func58, Tryd.ntmps58
  go_wp2_with fail
  go_ret2
  exact ⟨rfl, rfl⟩

set_option maxRecDepth 100000 in
set_option maxHeartbeats 2000000 in
theorem qfirst_any {q o : Nat} {T : TypeId} {pre post : List Value} {f : Bool} {b : List UInt8} {X : Nat → Prop} {l : List UInt8} {r : Lines} {ov : Bool} {wv : Value} {w : World} (h : QRep q o T pre post f b X (l :: r) ov wv w) :
    Calls Tryd.prog 58 #[.pointer (some ⟨q, o, none⟩)] w (Says w (.tuple #[strV l, .bool true])) := by
  obtain ⟨kb, off, cap, rfl, hcap, hX, hc, hz, hnext⟩ := h.kept.head
  have c66 := h.spl.c66
  obtain ⟨S, hS⟩ : ∃ S : ByteArray, strV l = .string S := ⟨_, rfl⟩
  rw [hS] at hc ⊢
  have q1 : (((r.length + 1 : Nat) : Int) == 0) = false := by simp; omega
  have q1b : (0 : Int) < ((r.length + 1 : Nat) : Int) := by omega
  obtain ⟨n, hn⟩ : ∃ n, n = r.length + 1 := ⟨_, rfl⟩
  rw [← hn] at q1 q1b c66
  clear h hcap hX hz hnext hS hn
  go_enter Tryd.func58, Tryd.ntmps58
  go_wp2_with fail
  go_ret2
  exact ⟨rfl, rfl⟩

set_option maxRecDepth 100000 in
set_option maxHeartbeats 2000000 in
theorem qtake_none {q o : Nat} {T : TypeId} {pre post : List Value} {f : Bool} {b : List UInt8} {X : Nat → Prop} {ov : Bool} {wv : Value} {w : World} (h : QRep q o T pre post f b X [] ov wv w) :
    Calls Tryd.prog 50 #[.pointer (some ⟨q, o, none⟩)] w (Says w (.tuple #[strV [], .bool false])) := by
  have HF := Lib.hid (qfirst_none h)
  clear h
  go_enter Tryd.func50, Tryd.ntmps50
  go_wp2_with fail
  refine HF.out.mono ?_
  rintro e w' ⟨rfl, rfl⟩
  go_wp2_with fail
  go_ret2
  exact ⟨rfl, rfl⟩

set_option maxRecDepth 100000 in
set_option maxHeartbeats 4000000 in
theorem qtake_any {q o : Nat} {T : TypeId} {pre post : List Value} {f : Bool} {b : List UInt8} {X : Nat → Prop} {l : List UInt8} {r : Lines} {ov : Bool} {wv : Value} {w : World} (h : QRep q o T pre post f b X (l :: r) ov wv w) (hr : r.length ≤ 5000) :
    Calls Tryd.prog 50 #[.pointer (some ⟨q, o, none⟩)] w (QTurns q o T pre post f b X r ov w (.tuple #[strV l, .bool true])) := by
  have HFst := Lib.hid (qfirst_any h)
  obtain ⟨kb, off, cap, rfl, hcap, hX, hc, hz, hnext⟩ := h.kept.head
  have c66 := h.spl.c66
  have hne : kb ≠ q := fun e => h.away (e ▸ hX)
  have hlt := h.spl.lt
  have h1 := h.spl.frame (Frame.cell w ⟨kb, off, none⟩ (.string ByteArray.empty)) (fun e => hne (by simpa using e.symm))
  have HH1 := Lib.hid h1
  have HNext := Lib.hid hnext
  obtain ⟨S, hS⟩ : ∃ S : ByteArray, strV l = .string S := ⟨_, rfl⟩
  rw [hS] at hc HFst ⊢
  have HA := Lib.hid h.away
  have HX := Lib.hid hX
  have q1 : (((r.length + 1 : Nat) : Int) == 0) = false := by simp; omega
  have q1b : (0 : Int) < ((r.length + 1 : Nat) : Int) := by omega
  have q2 : (1 : Int) ≤ ((r.length + 1 : Nat) : Int) := by omega
  have q3 : ((r.length + 1 : Nat) : Int) ≤ (cap : Int) := by omega
  have q4 : (1 : Int) ≤ (cap : Int) := by omega
  obtain ⟨n, hn⟩ : ∃ n, n = r.length + 1 := ⟨_, rfl⟩
  have hc66 : ∀ v, (w.setCell ⟨kb, off, none⟩ v).cell? ⟨q, o + 66, none⟩ = some (.slice (some ⟨kb, off, none⟩) n cap) := fun v => by
    rw [hn]
    exact (Frame.cell w ⟨kb, off, none⟩ v).cell? c66 (fun e => hne (by simpa using e.symm))
  have c66' : w.cell? ⟨q, o + 66, none⟩ = some (.slice (some ⟨kb, off, none⟩) n cap) := by rw [hn]; exact c66
  rw [← hn] at q1 q1b q2 q3
  have HN := Lib.hid hn
  have hz66 : w.frozen? ⟨q, o + 66, none⟩ = false := h.spl.froz _
  clear h c66 hnext hS hX h1 hcap hn hr
  go_enter Tryd.func50, Tryd.ntmps50
  go_wp2_with fail
  refine HFst.out.mono ?_
  rintro e w' ⟨rfl, rfl⟩
  rename World => w'
  go_wp2_with fail
  all_goals
    have hn1 : n - 1 = r.length := by have := HN.out; omega
    have hf1 := Frame.cell w' ⟨kb, off, none⟩ (.string ByteArray.empty)
    have hk := HNext.out _ ((Frame.cell (w'.setCell ⟨kb, off, none⟩ (.string ByteArray.empty)) ⟨q, o + 66, none⟩ (.slice (if cap = 1 then some ⟨kb, off, none⟩ else some ⟨kb, off + 1, none⟩) (n - 1) (cap - 1))).mono (fun k _ e e2 => hne (by rw [← e2]; exact e)))
    go_ret2
    refine ⟨X, _, rfl, ⟨HH1.out.put66 _, ?_, HA.out⟩, fun k hk => .inl hk, ((hf1.mono (fun k _ e => by subst e; exact .inr HX.out)).trans ((Frame.cell _ ⟨q, o + 66, none⟩ _).mono (fun k _ e => .inl e)))⟩
    rw [← hn1] at hk
    simp_all only [if_true, if_false]
    exact hk

set_option maxRecDepth 100000 in
set_option maxHeartbeats 2000000 in
theorem qover_any {q o : Nat} {T : TypeId} {pre post : List Value} {f : Bool} {b : List UInt8} {X : Nat → Prop} {L : Lines} {ov : Bool} {wv : Value} {w : World} (h : QRep q o T pre post f b X L ov wv w) :
    Calls Tryd.prog 51 #[.pointer (some ⟨q, o, none⟩)] w (Says w (.bool (ov && L.isEmpty))) := by
  have c66 := h.spl.c66
  have c67 := h.spl.c67
  obtain ⟨ka, kc, hwv⟩ := h.kept.slice
  subst hwv
  have q1 : ((L.length : Int) == 0) = L.isEmpty := by cases L <;> simp; omega
  clear h
  cases ov with
  | false =>
    go_enter Tryd.func51, Tryd.ntmps51
    go_wp2_with fail
    go_ret
    exact ⟨rfl, rfl⟩
  | true =>
    go_enter Tryd.func51, Tryd.ntmps51
    go_wp2_with fail
    go_ret
    exact ⟨rfl, rfl⟩

set_option maxRecDepth 100000 in
set_option maxHeartbeats 4000000 in
theorem qheld_any {q o : Nat} {T : TypeId} {pre post : List Value} {f : Bool} {b : List UInt8} {X : Nat → Prop} {L : Lines} {ov : Bool} {wv : Value} {w : World} (h : QRep q o T pre post f b X L ov wv w) (hL : L.length ≤ 1000) (hs : keptSum L ≤ 100000) :
    Calls Tryd.prog 96 #[.pointer (some ⟨q, o, none⟩)] w (Says w (.int .i64 ((b.length + keptSum L : Nat) : Int))) := by
  obtain ⟨ka, kc, rfl, hat⟩ := h.kept.at
  have c66 := h.spl.c66
  have HS := Lib.hid h.spl
  have HAt := Lib.hid hat
  have hb := h.spl.le
  clear h hat
  go_enter Tryd.func96, Tryd.ntmps96
  go_wp2_with fail
  refine (begun_any HS.out).mono ?_
  rintro e w' ⟨rfl, rfl⟩
  go_wp2_with fail
  go_loopw [3, 15] (fun hv i wr => ∃ k : Nat, hv = .int .i64 ((b.length + keptSum (L.take k) : Nat) : Int) ∧ i = .int .i64 k ∧ k ≤ L.length ∧ wr = w') (fun _ i _ => L.length - (intOf i).toNat)
  case atStart => exact ⟨0, by simp [keptSum], rfl, Nat.zero_le _, rfl⟩
  case round =>
    obtain ⟨k, rfl, rfl, hk, rfl⟩ := hrel
    have ht := keptSum_take_le L k
    obtain ⟨sm, hsm⟩ : ∃ sm, sm = keptSum (L.take k) := ⟨_, rfl⟩
    rw [← hsm] at ht ⊢
    have HSm := Lib.hid hsm
    clear hsm
    by_cases hlt : k < L.length
    · obtain ⟨l, hl⟩ : ∃ l, L[k]? = some l := ⟨L[k], by simp⟩
      obtain ⟨kb, off, rfl, hx⟩ := HAt.out k l hl
      have hst := keptSum_take hl
      have hst2 := keptSum_take_le L (k + 1)
      have HSt := Lib.hid hst
      rw [hst] at hst2
      obtain ⟨S, hS⟩ : ∃ S : ByteArray, strV l = .string S := ⟨_, rfl⟩
      have hsz : S.size = l.length := (strCells_eq hS).2
      rw [hS] at hx
      have q0 : (0 : Int) ≤ (k : Int) := by omega
      have q1 : (k : Int) < (L.length : Int) := by omega
      have q3 : sm + S.size ≤ 100000 := by rw [← HSm.out] at hst2; omega
      have HSz := Lib.hid hsz
      clear hl hst hst2 hS hsz ht hs
      go_wp2_with fail
      go_roundw
      case rel =>
        refine ⟨k + 1, ?_, by go_num, by omega, trivial⟩
        rw [HSt.out, ← HSm.out, ← HSz.out]
        go_num
      case measure => simp [intOf]; omega
    · obtain rfl : k = L.length := by omega
      have q2 : ¬ (L.length : Int) < (L.length : Int) := by omega
      have hall := HSm.out
      rw [List.take_length] at hall
      have HAll := Lib.hid hall
      clear hall
      go_wp2_with fail
      go_ret
      rw [HAll.out]
      exact ⟨rfl, rfl⟩

end Go.Proofs.YteghdepedlaneaaDoor
