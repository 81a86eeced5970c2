/- Streams that the document's answer lists: a slice of one's own that grows; their bytes stay as they are. -/
import Derived.Test.YtbblkgknnolkmaaDoorStrs
import Derived.Test.YtbblkgknnolkmaaDoorMout
namespace Go.Proofs.YtbblkgknnolkmaaDoor
open Go.RowKit

def OwnStrs (base : Nat) (w : World) (v : Value) (L : List Strm) : Prop :=
  ∃ X : StrX, X.map (·.1) = L ∧ w.ownsRow base 61 5 v X.length (strCells X) ∧ ∀ t ∈ X, IsBytes (fun k => base ≤ k ∧ v.ownBlock ≠ some k) w t.2 t.1.bytes
theorem OwnStrs.nil (base : Nat) (w : World) : OwnStrs base w (.slice none 0 0) [] := ⟨[], rfl, World.ownsRow_nil w base _ 5, fun t ht => by cases ht⟩
section
variable {base : Nat} {w w' : World} {v : Value} {L : List Strm}
theorem OwnStrs.is (h : OwnStrs base w v L) : IsStrms (base ≤ ·) w v L := by
  obtain ⟨X, rfl, ho, hb⟩ := h
  have hr := ho
  rcases ho.2 with ⟨rfl, h0⟩ | ⟨g, cap, cur, rfl, hbg, _⟩
  · refine ⟨none, 0, by rw [List.length_map, h0], fun j t hj => ?_⟩
    rw [List.eq_nil_of_length_eq_zero h0] at hj
    simp at hj
  · refine ⟨_, cap, by rw [List.length_map], fun j t hj => ?_⟩
    rw [List.getElem?_map] at hj
    obtain ⟨x, hx, rfl⟩ := Option.map_eq_some_iff.1 hj
    have hc := strCells_at X j x hx
    have hlt := (List.getElem?_eq_some_iff.1 hx).1
    have at' : ∀ k, k < 5 → w.cell? ⟨g, 0 + j * 5 + k, none⟩ = (strCells1 x)[k]? := fun k hk => by
      rw [Nat.zero_add, hr.cellAt _ (by omega), hc k hk]
    exact ⟨g, 0, x.2, rfl, hbg, at' 0 (by omega), at' 1 (by omega), at' 2 (by omega), at' 3 (by omega), at' 4 (by omega), (hb x (List.mem_of_getElem? hx)).mono (fun _ _ h => h.1)⟩
theorem OwnStrs.frame {q : Nat → Prop} (h : OwnStrs base w v L) (hf : Frame q w w') (hq : ∀ k, base ≤ k → k < w.heap.size → ¬ q k) : OwnStrs base w' v L := by
  obtain ⟨X, hX, ho, hb⟩ := h
  refine ⟨X, hX, hf.owns ho (fun g hg => hq g (ho.lt g hg).1 (ho.lt g hg).2), fun t ht => ?_⟩
  exact ((hb t ht).mono (q := fun k => (base ≤ k ∧ k < w.heap.size) ∧ v.ownBlock ≠ some k) (fun k hk h => ⟨⟨h.1, hk⟩, h.2⟩)).frame hf (fun k hk => hq k hk.1.1 hk.1.2) |>.mono (fun k _ h => ⟨h.1.1, h.2⟩)
theorem OwnStrs.below (h : OwnStrs base w v L) (hb : Below w.heap.size w w') : OwnStrs base w' v L := h.frame (Below.toFrame hb fun _ => False) (fun _ _ _ h => h)
theorem OwnStrs.lt (h : OwnStrs base w v L) : ∀ k, v.ownBlock = some k → base ≤ k ∧ k < w.heap.size := by
  obtain ⟨X, -, ho, -⟩ := h
  exact ho.lt
theorem OwnStrs.slice (h : OwnStrs base w v L) : ∃ a cap, v = .slice a L.length cap := by
  obtain ⟨X, rfl, ho, -⟩ := h
  rcases ho.2 with ⟨rfl, h0⟩ | ⟨g, cap, cur, rfl, _⟩
  · exact ⟨none, 0, by rw [List.length_map, h0]⟩
  · exact ⟨_, cap, by rw [List.length_map]⟩
end

/-- One stream more: its bytes lie elsewhere. -/
theorem wpList_append_strm1 {ops : Array Oper} {rest : List Oper} {o : Oper} {a : Act} {w : World} {Q : Exit → Act → World → Prop} (hgd : o.guard = none) (s x : Operand) (ho : o.op = .call { callee := .builtin .append, args := #[s, x], argTypes := #[36, 36] })
    {base base2 : Nat} {v : Value} {L : List Strm} (t : Strm × Value) (gy : Nat) (hs : a.eval s = v) (hown : OwnStrs base w v L) (hx : a.eval x = .slice (some ⟨gy, 0, none⟩) 1 1) (hsrc : w.heap[gy]? = some (.cells (strCells1 t).toArray 61 (0, 0)))
    (hby : IsBytes (base2 ≤ ·) w t.2 t.1.bytes) (hlen : L.length ≤ 1000000) (hbase : base ≤ base2) (hb2 : base2 ≤ w.heap.size) (hv : ∀ k, v.ownBlock = some k → k < base2)
    (h : ∀ v' w', OwnStrs base w' v' (L ++ [t.1]) → w.grownBy w' v.ownBlock → wpList Tryd.prog ops Q rest (a.put o.dst v') w') : wpList Tryd.prog ops Q (o :: rest) a w := by
  obtain ⟨i0, hi, hz0, hz1, hz2⟩ := info_parts Tryd.infoS
  obtain ⟨X, rfl, hoX, hbX⟩ := hown
  rw [List.length_map] at hlen
  have one : ∀ u ∈ strCells1 t, u.oneCell' = true := by
    have e := one_bytes hby
    intro u hu
    simp only [strCells1, List.mem_cons, List.not_mem_nil, or_false] at hu
    rcases hu with rfl | rfl | rfl | rfl | rfl
    · exact e
    all_goals rfl
  refine wpList_append_own_at w hgd s x 36 ho base 61 i0 (.agg #[.slice none 0 0, .bool false, .int .i64 0, .int .i64 0, .int .i64 0]) 5 56 (by kernel_rfl) hi hz0 hz1 hz2 rfl (by decide) v X.length _ hs hoX ⟨gy, 0, none⟩ 1 1 (strCells1 t) hx rfl
    (fun j u hu => ?_) one (by unfold maxLen; omega) (by omega) (by omega) ?_
  · rw [Addr.add_mid, Nat.zero_add, cell_of_row _ _ _ _ _ _ hsrc]
    simpa using hu
  intro v' w' ho' hg' _ hv'
  refine h v' w' ⟨X ++ [t], by simp, by rw [strCells_append, List.length_append]; simpa [strCells] using ho', fun u hu => ?_⟩ hg'
  rcases List.mem_append.1 hu with hu | hu
  · have := (hbX u hu).mono (q := fun k => (base ≤ k ∧ k < w.heap.size) ∧ v.ownBlock ≠ some k) (fun k hk h => ⟨⟨h.1, hk⟩, h.2⟩)
    have := this.frame (((Frame.refl (fun k => v.ownBlock = some k) w)).grown hg' (fun k _ e => e)) (fun k hk e => hk.2 e)
    refine this.mono (fun k _ hk => ⟨hk.1.1, ?_⟩)
    rcases hv' with e | e
    · rw [e]; exact hk.2
    · rw [e]; intro e; have := Option.some.inj e; omega
  · rw [List.mem_singleton.1 hu]
    have := hby.mono (q := fun k => base2 ≤ k ∧ k < w.heap.size) (fun k hk h => ⟨h, hk⟩)
    have := this.frame (((Frame.refl (fun k => v.ownBlock = some k) w)).grown hg' (fun k _ e => e)) (fun k hk e => by have := hv k e; omega)
    refine this.mono (fun k _ hk => ⟨by omega, ?_⟩)
    rcases hv' with e | e
    · rw [e]; intro e; have := hv k e; omega
    · rw [e]; intro e; have := Option.some.inj e; omega

/-- The call answers these streams. -/
def OutsEnd (w : World) (L : List Strm) (e : Ending) (w' : World) : Prop := ∃ v, e = .returned v ∧ IsStrms (w.heap.size ≤ ·) w' v L ∧ Below w.heap.size w w'

end Go.Proofs.YtbblkgknnolkmaaDoor
