/- A slice of streams whose bytes lie elsewhere: one more; how the law's told lays its inputs. -/
import Derived.Test.YteghdepedlaneaaDoorStrs
namespace Go.Proofs.YteghdepedlaneaaDoor
open Go.RowKit

/-- One stream more; its bytes may lie anywhere. -/
theorem wpList_append_row {ops : Array Oper} {rest : List Oper} {o : Oper} {a : Act} {w : World} {Q : Exit → Act → World → Prop} (hgd : o.guard = none) (s x : Operand) (ho : o.op = .call { callee := .builtin .append, args := #[s, x], argTypes := #[36, 36] })
    {base : Nat} {v : Value} {X : StrX} (t : Strm × Value) (gy : Nat) (hs : a.eval s = v) (hown : w.ownsRow base 61 5 v X.length (strCells X)) (hx : a.eval x = .slice (some ⟨gy, 0, none⟩) 1 1) (hsrc : w.heap[gy]? = some (.cells (strCells1 t).toArray 61 (0, 0)))
    (hone : t.2.oneCell' = true) (hlen : X.length ≤ 1000000) (hbase : base ≤ w.heap.size)
    (h : ∀ v' w', w'.ownsRow base 61 5 v' (X ++ [t]).length (strCells (X ++ [t])) → w.grownBy w' v.ownBlock → wpList Tryd.prog ops Q rest (a.put o.dst v') w') : wpList Tryd.prog ops Q (o :: rest) a w := by
  obtain ⟨i0, hi, hz0, hz1, hz2⟩ := info_parts Tryd.infoS
  have one : ∀ u ∈ strCells1 t, u.oneCell' = true := by
    intro u hu
    simp only [strCells1, List.mem_cons, List.not_mem_nil, or_false] at hu
    rcases hu with rfl | rfl | rfl | rfl | rfl
    · exact hone
    all_goals rfl
  refine wpList_append_own_at w hgd s x 36 ho base 61 i0 (.agg #[.slice none 0 0, .bool false, .int .i64 0, .int .i64 0, .int .i64 0]) 5 56 (by kernel_rfl) hi hz0 hz1 hz2 rfl (by decide) v X.length _ hs hown ⟨gy, 0, none⟩ 1 1 (strCells1 t) hx rfl
    (fun j u hu => ?_) one (by unfold maxLen; omega) (by omega) hbase ?_
  · rw [Addr.add_mid, Nat.zero_add, cell_of_row _ _ _ _ _ _ hsrc]
    simpa using hu
  intro v' w' ho' hg' _ _
  exact h v' w' (by rw [strCells_append, List.length_append]; simpa [strCells] using ho') hg'
theorem strms_of_row {p : Nat → Prop} {base : Nat} {X : StrX} {v : Value} {w : World} (h : w.ownsRow base 61 5 v X.length (strCells X)) (hp : ∀ k, base ≤ k → k < w.heap.size → p k) (hb : ∀ t ∈ X, IsBytes p w t.2 t.1.bytes) : IsStrms p w v (X.map (·.1)) := by
  have hr := h
  rcases h.2 with ⟨rfl, h0⟩ | ⟨g, cap, cur, rfl, hbg, hg, _⟩
  · refine ⟨none, 0, by rw [List.length_map, h0], fun j t hj => ?_⟩
    rw [List.eq_nil_of_length_eq_zero h0] at hj
    simp at hj
  · refine ⟨_, cap, by rw [List.length_map], fun j t hj => ?_⟩
    rw [List.getElem?_map] at hj
    obtain ⟨x, hx, rfl⟩ := Option.map_eq_some_iff.1 hj
    have hc := strCells_at X j x hx
    have hlt := (List.getElem?_eq_some_iff.1 hx).1
    have at' : ∀ k, k < 5 → w.cell? ⟨g, 0 + j * 5 + k, none⟩ = (strCells1 x)[k]? := fun k hk => by
      rw [Nat.zero_add, hr.cellAt _ (by omega), hc k hk]
    exact ⟨g, 0, x.2, rfl, hp g hbg (Array.getElem?_eq_some_iff.1 hg).1, at' 0 (by omega), at' 1 (by omega), at' 2 (by omega), at' 3 (by omega), at' 4 (by omega), hb x (List.mem_of_getElem? hx)⟩

/-- Inputs of these bytes, that have ended. -/
def toldIns (xs : List (List UInt8)) : List Strm := xs.map fun x => ⟨x, true, 0, 0, 0⟩
structure ToldInv (p : Nat → Prop) (xs : List (List UInt8)) (W : World) (v : Value) (j : Nat) (wr : World) : Prop where
  le : j ≤ xs.length
  ex : ∃ X : StrX, X.map (·.1) = toldIns (xs.take j) ∧ wr.ownsRow W.heap.size 61 5 v X.length (strCells X) ∧ ∀ t ∈ X, IsBytes p W t.2 t.1.bytes
  below : Below W.heap.size W wr
theorem ToldInv.start (p : Nat → Prop) (xs : List (List UInt8)) (W : World) : ToldInv p xs W (.slice none 0 0) 0 W := ⟨Nat.zero_le _, ⟨[], rfl, World.ownsRow_nil _ _ _ _, fun t h => by cases h⟩, Below.refl _ _⟩
theorem ToldInv.all {p : Nat → Prop} {xs : List (List UInt8)} {W wr : World} {v : Value} (h : ToldInv p xs W v xs.length wr) : IsStrms (fun k => k < W.heap.size ∧ p k ∨ W.heap.size ≤ k) wr v (toldIns xs) := by
  obtain ⟨X, hX, ho, hb⟩ := h.ex
  rw [List.take_length] at hX
  rw [← hX]
  refine strms_of_row ho (fun k hk _ => .inr hk) (fun t ht => ?_)
  have := (hb t ht).mono (q := fun k => k < W.heap.size ∧ p k) (fun k hk h => ⟨hk, h⟩)
  exact (this.frame (Below.toFrame h.below fun _ => False) (fun _ _ h => h)).mono (fun k _ h => .inl h)

end Go.Proofs.YteghdepedlaneaaDoor
