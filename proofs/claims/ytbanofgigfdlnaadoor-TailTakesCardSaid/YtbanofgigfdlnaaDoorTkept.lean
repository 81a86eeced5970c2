/- A slice of texts that moves on: what lies behind its head is still in memory. -/
import Derived.Test.YtbanofgigfdlnaaDoorLdriven
import Derived.ArgAppend
namespace Go.Proofs.YtbanofgigfdlnaaDoor
open Go.RowKit

/-- The value is a slice that reads as these texts; the block of X is its own, with room up to its capacity. -/
inductive KeptIn (w : World) : Value → (Nat → Prop) → Lines → Prop
  | nil (X : Nat → Prop) (h : ∀ k, ¬ X k) : KeptIn w (.slice none 0 0) X []
  | row (X : Nat → Prop) (L : Lines) (b off cap : Nat) (cs : Array Value) (hX : ∀ k, X k ↔ k = b) (h : w.heap[b]? = some (.cells cs 9 (0, 0))) (hc : L.length ≤ cap) (hs : off + cap ≤ cs.size)
      (hL : ∀ j l, L[j]? = some l → cs[off + j]? = some (strV l)) : KeptIn w (.slice (some ⟨b, off, none⟩) L.length cap) X L
theorem KeptIn.frame {w w' : World} {v : Value} {X : Nat → Prop} {L : Lines} {p : Nat → Prop} (h : KeptIn w v X L) (hf : Frame p w w') (hp : ∀ k, X k → ¬ p k) : KeptIn w' v X L := by
  cases h with
  | nil _ h => exact .nil _ h
  | row _ _ b off cap cs hX h hc hs hL => exact .row X L b off cap cs hX (hf.heap h (hp b ((hX b).2 rfl))) hc hs hL
theorem KeptIn.old {w : World} {v : Value} {X : Nat → Prop} {L : Lines} (h : KeptIn w v X L) : ∀ k, X k → k < w.heap.size := by
  intro k hk
  cases h with
  | nil _ h => exact absurd hk (h k)
  | row _ _ b off cap cs hX h hc hs hL =>
    rw [(hX k).1 hk]
    exact (Array.getElem?_eq_some_iff.1 h).1
theorem KeptIn.slice {w : World} {v : Value} {X : Nat → Prop} {L : Lines} (h : KeptIn w v X L) : ∃ a c, v = .slice a L.length c := by
  cases h with
  | nil _ h => exact ⟨_, _, rfl⟩
  | row _ _ b off cap cs hX h hc hs hL => exact ⟨_, _, rfl⟩
theorem kept_of_owns {w : World} {base : Nat} {v : Value} {L : Lines} (h : w.ownsRow base 9 1 v L.length (L.map strV)) : ∃ X : Nat → Prop, KeptIn w v X L ∧ ∀ k, X k → base ≤ k := by
  rcases h.2 with ⟨rfl, h0⟩ | ⟨g, cap, cur, rfl, hb, hh, hn, -, hs, ht⟩
  · rw [List.eq_nil_of_length_eq_zero h0]
    exact ⟨fun _ => False, .nil _ (fun _ h => h), fun _ h => h.elim⟩
  · refine ⟨(· = g), .row _ L g 0 cap cur (fun _ => Iff.rfl) hh hn (by omega) (fun j l hj => ?_), fun k hk => by omega⟩
    have h1 : (L.map strV)[j]? = some (strV l) := by simp [hj]
    rw [← ht, List.getElem?_take] at h1
    split at h1
    · rw [Nat.zero_add]; simpa using h1
    · cases h1
theorem cells_of_set {cs : Array Value} {i j : Nat} {x : Value} (h : i ≠ j) : (cs.setIfInBounds i x)[j]? = cs[j]? := by simp [h]

/-- A text behind kept ones: there is room, or it is a new block. -/
theorem wpList_append_kept {ops : Array Oper} {rest : List Oper} {o : Oper} {a : Act} {w : World} {Q : Exit → Act → World → Prop} (hgd : o.guard = none) (s x : Operand) (ho : o.op = .call { callee := .builtin .append, args := #[s, x], argTypes := #[49, 49] })
    (v : Value) (X : Nat → Prop) (L : Lines) (hs : a.eval s = v) (hk : KeptIn w v X L) (ad : Addr) (l : List UInt8) (hx : a.eval x = .slice (some ad) 1 1) (hl : w.cell? ad = some (strV l)) (hlen : L.length ≤ 1000000)
    (h : ∀ v' w' X', KeptIn w' v' X' (L ++ [l]) → Frame X w w' → (∀ k, X' k → X k ∨ w.heap.size ≤ k) → wpList Tryd.prog ops Q rest (a.put o.dst v') w') : wpList Tryd.prog ops Q (o :: rest) a w := by
  obtain ⟨i0, hi, hz0, hz1, hz2⟩ := info_parts Tryd.info9
  have hadd0 : ad.add 0 = ad := by obtain ⟨b, o, sp⟩ := ad; cases sp <;> simp [Addr.add]
  have hnews : ∀ (j : Nat) (u : Value), [strV l][j]? = some u → w.cell? (ad.add j) = some u := by
    intro j u hj
    match j, hj with
    | 0, hj =>
      simp at hj
      subst hj
      rw [hadd0]
      exact hl
    | j + 1, hj => simp at hj
  have hone : ∀ u ∈ [strV l], u.oneCell' = true := by
    intro u hu
    rw [List.mem_singleton.1 hu]
    rfl
  have hgrow : ∀ v' w', w'.ownsRow w.heap.size 9 1 v' (L.length + 1) (L.map strV ++ [strV l]) → w.grownBy w' none → wpList Tryd.prog ops Q rest (a.put o.dst v') w' := by
    intro v' w' ho' hg'
    have ho2 : w'.ownsRow w.heap.size 9 1 v' (L ++ [l]).length ((L ++ [l]).map strV) := by simpa using ho'
    obtain ⟨X', hk', hx'⟩ := kept_of_owns ho2
    exact h v' w' X' hk' ((Frame.refl X w).grown hg' (fun k _ e => by cases e)) (fun k hk => .inr (hx' k hk))
  cases hk with
  | nil _ hX =>
    refine wpList_append_grows w hgd s x 49 ho 9 i0 (.string ByteArray.empty) 1 16 (by kernel_rfl) hi hz0 hz1 hz2 rfl (by decide) none 0 0 [] hs (fun _ => ⟨rfl, rfl⟩) rfl (fun b e => by cases e) ad 1 1 [strV l] hx rfl hnews hone (by omega) (by unfold maxLen; omega) (by omega) ?_
    intro v' w' ho' hg'
    exact hgrow v' w' (by simpa using ho') hg'
  | row _ _ b off cap cs hX hh hc hsz hL =>
    refine wpList_append_arg w hgd s x 49 ho 9 i0 (.string ByteArray.empty) 1 16 (by kernel_rfl) hi hz0 hz1 hz2 rfl (by decide) b off L.length cap (L.map strV) hs (by simp) ?_ ad 1 1 [strV l] hx rfl hnews hone ?_ (by unfold maxLen; omega) (by omega) ?_ ?_
    · intro j u hj
      rw [List.getElem?_map] at hj
      cases hc2 : L[j]? with
      | none => rw [hc2] at hj; cases hj
      | some c =>
        rw [hc2] at hj
        cases hj
        rw [cell_of_row _ _ _ _ _ _ hh]
        exact hL j c hc2
    · intro hr j hj
      simp at hj
      subst hj
      refine ⟨?_, by simp [World.frozen?, hh]⟩
      rw [cell_of_row _ _ _ _ _ _ hh]
      simp
      omega
    · intro hr
      have hh' : (w.setCells b (off + L.length * 1) [strV l]).heap[b]? = some (.cells (cs.setIfInBounds (off + L.length) (strV l)) 9 (0, 0)) := by
        simp only [World.setCells, Nat.mul_one]
        exact setCell_row hh _ _
      have hk' : KeptIn (w.setCells b (off + L.length * 1) [strV l]) (.slice (some ⟨b, off, none⟩) (L ++ [l]).length cap) X (L ++ [l]) := by
        refine .row X (L ++ [l]) b off cap _ hX hh' (by simpa using hr) (by simpa using hsz) (fun j y hj => ?_)
        by_cases hjl : j < L.length
        · rw [List.getElem?_append_left hjl] at hj
          rw [cells_of_set (by omega)]
          exact hL j y hj
        · rw [List.getElem?_append_right (by omega)] at hj
          have h0 : j - L.length = 0 := by
            have := (List.getElem?_eq_some_iff.1 hj).1
            simp at this
            omega
          rw [h0] at hj
          simp at hj
          subst hj
          have : j = L.length := by omega
          subst this
          simp [Array.getElem?_setIfInBounds]
          omega
      have := h _ _ X hk' ((Frame.cells b (off + L.length * 1) [strV l]).mono (fun k _ e => (hX k).2 e)) (fun k hk => .inl hk)
      simpa using this
    · intro _ v' w' ho' hg'
      exact hgrow v' w' ho' hg'

end Go.Proofs.YtbanofgigfdlnaaDoor
