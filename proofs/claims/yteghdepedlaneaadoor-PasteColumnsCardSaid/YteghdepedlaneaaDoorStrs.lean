/- Streams in memory of one's own: a slice of them that grows, and the bytes of each. -/
import Derived.Test.YteghdepedlaneaaDoorDdefs
import Derived.Laws.OwnMore
namespace Go.Proofs.YteghdepedlaneaaDoor
open Go.RowKit

abbrev StrX := List (Strm × Value)
def strCells1 (t : Strm × Value) : List Value := [t.2, .bool t.1.ended, .int .i64 t.1.code, .int .i64 t.1.stage, .int .i64 t.1.id]
def strCells (X : StrX) : List Value := X.flatMap strCells1
theorem strCells_cons (t : Strm × Value) (X : StrX) : strCells (t :: X) = strCells1 t ++ strCells X := List.flatMap_cons
theorem length_strCells (X : StrX) : (strCells X).length = X.length * 5 := by
  induction X with
  | nil => rfl
  | cons t X ih => rw [strCells_cons, List.length_append, ih, List.length_cons]; simp [strCells1]; omega
theorem strCells_append (X Y : StrX) : strCells (X ++ Y) = strCells X ++ strCells Y := by simp [strCells]
theorem strCells_at : ∀ (X : StrX) (j : Nat) t, X[j]? = some t → ∀ k, k < 5 → (strCells X)[j * 5 + k]? = (strCells1 t)[k]?
  | [], j, t, h => by simp at h
  | x :: X, 0, t, h => by
    simp at h
    subst h
    intro k hk
    rw [strCells_cons, Nat.zero_mul, Nat.zero_add, List.getElem?_append_left (by simpa [strCells1] using hk)]
  | x :: X, j + 1, t, h => by
    simp only [List.getElem?_cons_succ] at h
    intro k hk
    have := strCells_at X j t h k hk
    rw [strCells_cons, List.getElem?_append_right (by simp [strCells1]; omega), ← this]
    congr 1
    simp [strCells1]
    omega
theorem strCells_set : ∀ (X : StrX) (j : Nat) t, X[j]? = some t → ∀ k u (t' : Strm × Value), k < 5 → (strCells1 t).set k u = strCells1 t' → (strCells X).set (j * 5 + k) u = strCells (X.set j t')
  | [], j, t, h => by simp at h
  | x :: X, 0, t, h => by
    simp at h
    subst h
    intro k u t' hk ht
    rw [strCells_cons, Nat.zero_mul, Nat.zero_add, List.set_append_left _ _ (by simpa [strCells1] using hk), ht, List.set_cons_zero, strCells_cons]
  | x :: X, j + 1, t, h => by
    simp only [List.getElem?_cons_succ] at h
    intro k u t' hk ht
    have := strCells_set X j t h k u t' hk ht
    rw [strCells_cons, List.set_append_right _ _ (by simp [strCells1]; omega), List.set_cons_succ, strCells_cons, ← this]
    congr 2
    simp [strCells1]
    omega

/-- The value is a slice of these streams, the call's own, from block 'base' on; so are the bytes of each, in blocks of their own. -/
structure OwnX (base : Nat) (X : StrX) (v : Value) (w : World) : Prop where
  row : w.ownsRow base 61 5 v X.length (strCells X)
  bytes : ∀ (j : Nat) t, X[j]? = some t → w.ownsRow base 5 1 t.2 t.1.bytes.length (bytesL t.1.bytes)
  apart : ∀ (j : Nat) t, X[j]? = some t → ∀ g, t.2.ownBlock = some g → v.ownBlock ≠ some g
  other : ∀ (j k : Nat) t u, j ≠ k → X[j]? = some t → X[k]? = some u → ∀ g, t.2.ownBlock = some g → u.2.ownBlock ≠ some g
theorem OwnX.nil (base : Nat) (w : World) : OwnX base [] (.slice none 0 0) w :=
  ⟨World.ownsRow_nil w base _ 5, fun j t h => by simp at h, fun j t h => by simp at h, fun j k t u _ h => by simp at h⟩
section
variable {base : Nat} {X : StrX} {v : Value} {w w' : World}
theorem OwnX.frame {q : Nat → Prop} (h : OwnX base X v w) (hf : Frame q w w') (hq : ∀ k, base ≤ k → k < w.heap.size → ¬ q k) : OwnX base X v w' :=
  ⟨hf.owns h.row (fun g hg => hq g (h.row.lt g hg).1 (h.row.lt g hg).2), fun j t hj => hf.owns (h.bytes j t hj) (fun g hg => hq g ((h.bytes j t hj).lt g hg).1 ((h.bytes j t hj).lt g hg).2), h.apart, h.other⟩
theorem OwnX.below (h : OwnX base X v w) (hb : Below w.heap.size w w') : OwnX base X v w' := h.frame (Below.toFrame hb fun _ => False) (fun _ _ _ h => h)
theorem OwnX.slice (h : OwnX base X v w) : ∃ a c, v = .slice a X.length c := owns_slice h.row
theorem OwnX.is (h : OwnX base X v w) : IsStrms (base ≤ ·) w v (X.map (·.1)) := by
  have hr := h.row
  rcases h.row.2 with ⟨rfl, h0⟩ | ⟨g, cap, cur, rfl, hb, _⟩
  · refine ⟨none, 0, by rw [List.length_map, h0], fun j t hj => ?_⟩
    rw [List.eq_nil_of_length_eq_zero h0] at hj
    simp at hj
  · refine ⟨_, cap, by rw [List.length_map], fun j t hj => ?_⟩
    rw [List.getElem?_map] at hj
    obtain ⟨x, hx, rfl⟩ := Option.map_eq_some_iff.1 hj
    have hc := strCells_at X j x hx
    have hlt := (List.getElem?_eq_some_iff.1 hx).1
    have at' : ∀ k, k < 5 → w.cell? ⟨g, 0 + j * 5 + k, none⟩ = (strCells1 x)[k]? := fun k hk => by
      rw [Nat.zero_add, hr.cellAt _ (by omega), hc k hk]
    exact ⟨g, 0, x.2, rfl, hb, at' 0 (by omega), at' 1 (by omega), at' 2 (by omega), at' 3 (by omega), at' 4 (by omega), isBytes_of_owns (h.bytes j x hx)⟩
theorem OwnX.cell {gs n cap : Nat} (h : OwnX base X (.slice (some ⟨gs, 0, none⟩) n cap) w) {j : Nat} {t : Strm × Value} (hj : X[j]? = some t) (k : Nat) (hk : k < 5) : w.cell? ⟨gs, j * 5 + k, none⟩ = (strCells1 t)[k]? := by
  have hr := h.row
  have hlt := (List.getElem?_eq_some_iff.1 hj).1
  obtain ⟨a, c, e⟩ := owns_slice hr
  cases e
  rw [hr.cellAt _ (by omega), strCells_at X j t hj k hk]
theorem OwnX.froz {gs n cap : Nat} (h : OwnX base X (.slice (some ⟨gs, 0, none⟩) n cap) w) (o : Nat) : w.frozen? ⟨gs, o, none⟩ = false := by
  have hr := h.row
  obtain ⟨a, c, e⟩ := owns_slice hr
  cases e
  exact hr.frozenAt o
theorem OwnX.lt {gs n cap : Nat} (h : OwnX base X (.slice (some ⟨gs, 0, none⟩) n cap) w) : base ≤ gs ∧ gs < w.heap.size := h.row.lt gs rfl
theorem OwnX.set_row {gs n cap : Nat} (h : OwnX base X (.slice (some ⟨gs, 0, none⟩) n cap) w) {j : Nat} {t t' : Strm × Value} (hj : X[j]? = some t) (k : Nat) (hk : k < 5) (u : Value) (hu : (strCells1 t).set k u = strCells1 t') :
    (w.setCell ⟨gs, j * 5 + k, none⟩ u).ownsRow base 61 5 (.slice (some ⟨gs, 0, none⟩) n cap) (X.set j t').length (strCells (X.set j t')) := by
  have hr := h.row
  obtain ⟨a, c, e⟩ := owns_slice hr
  cases e
  have hs := (hr.stored (j * 5 + k) u).1
  rw [strCells_set X j t hj k u t' hk hu] at hs
  rw [List.length_set]
  exact hs
/-- A stream's end is told. -/
theorem OwnX.set_ended {gs n cap : Nat} (h : OwnX base X (.slice (some ⟨gs, 0, none⟩) n cap) w) {j : Nat} {i : Strm} {bv : Value} (hj : X[j]? = some (i, bv)) (eb : Bool) :
    OwnX base (X.set j ({ i with ended := eb }, bv)) (.slice (some ⟨gs, 0, none⟩) n cap) (w.setCell ⟨gs, j * 5 + 1, none⟩ (.bool eb)) := by
  have hlt := (List.getElem?_eq_some_iff.1 hj).1
  have hg : ∀ (k : Nat) t, (X.set j (({ i with ended := eb } : Strm), bv))[k]? = some t → ∃ t0, X[k]? = some t0 ∧ t0.2 = t.2 ∧ t0.1.bytes = t.1.bytes := fun k t hk => by
    by_cases e : j = k
    · subst e
      rw [List.getElem?_set_self (by omega)] at hk
      cases hk
      exact ⟨_, hj, rfl, rfl⟩
    · rw [List.getElem?_set_ne e] at hk
      exact ⟨t, hk, rfl, rfl⟩
  refine ⟨h.set_row hj 1 (by omega) _ rfl, fun k t hk => ?_, fun k t hk => ?_, fun k m t u hne hk hm => ?_⟩
  · obtain ⟨t0, h0, e1, e2⟩ := hg k t hk
    have := h.bytes k t0 h0
    rw [e1, e2] at this
    refine (Frame.cell w ⟨gs, j * 5 + 1, none⟩ (.bool eb)).owns this (fun g hg e => ?_)
    exact h.apart k t0 h0 g (by rw [e1]; exact hg) (by rw [show g = gs from e]; rfl)
  · obtain ⟨t0, h0, e1, -⟩ := hg k t hk
    rw [← e1]
    exact h.apart k t0 h0
  · obtain ⟨t0, h0, e1, -⟩ := hg k t hk
    obtain ⟨u0, k0, e2, -⟩ := hg m u hm
    rw [← e1, ← e2]
    exact h.other k m t0 u0 hne h0 k0
/-- Bytes behind a stream's: the bytes' row has grown (W7), then the stream's cell is written. -/
theorem OwnX.set_bytes {gs n cap : Nat} {W7 : World} (h : OwnX base X (.slice (some ⟨gs, 0, none⟩) n cap) w) {j : Nat} {i : Strm} {bv v7 : Value} (hj : X[j]? = some (i, bv)) (y : List UInt8) (hg7 : w.grownBy W7 bv.ownBlock) (ho7 : W7.ownsRow base 5 1 v7 (i.bytes ++ y).length (bytesL (i.bytes ++ y)))
    (hat : v7.ownBlock = bv.ownBlock ∨ v7.ownBlock = some w.heap.size) : OwnX base (X.set j ({ i with bytes := i.bytes ++ y }, v7)) (.slice (some ⟨gs, 0, none⟩) n cap) (W7.setCell ⟨gs, j * 5 + 0, none⟩ v7) := by
  have hlt := (List.getElem?_eq_some_iff.1 hj).1
  have hap : ∀ g, bv.ownBlock = some g → gs ≠ g := fun g hg e => h.apart j _ hj g hg (by rw [← e]; rfl)
  have h7 : W7.ownsRow base 61 5 (.slice (some ⟨gs, 0, none⟩) n cap) X.length (strCells X) := h.row.kept hg7 (.inr (by
    intro e
    exact hap gs (by rw [← e]; rfl) rfl))
  have hrow : (W7.setCell ⟨gs, j * 5 + 0, none⟩ v7).ownsRow base 61 5 (.slice (some ⟨gs, 0, none⟩) n cap) (X.set j (({ i with bytes := i.bytes ++ y } : Strm), v7)).length (strCells (X.set j ({ i with bytes := i.bytes ++ y }, v7))) := by
    obtain ⟨a, c, e⟩ := owns_slice h7
    cases e
    have hs := (h7.stored (j * 5 + 0) v7).1
    rw [strCells_set X j (i, bv) hj 0 v7 ({ i with bytes := i.bytes ++ y }, v7) (by omega) rfl] at hs
    rw [List.length_set]
    exact hs
  have hne7 : ∀ g, v7.ownBlock = some g → gs ≠ g := fun g hg => by
    rcases hat with e | e
    · exact hap g (by rw [← e]; exact hg)
    · rw [e] at hg
      have := h.lt.2
      injection hg with hg
      omega
  refine ⟨hrow, fun k t hk => ?_, fun k t hk g hg => ?_, fun k m t u hne hk hm g hg => ?_⟩
  · by_cases e : j = k
    · subst e
      rw [List.getElem?_set_self hlt] at hk
      cases hk
      exact (Frame.cell W7 ⟨gs, j * 5 + 0, none⟩ v7).owns ho7 (fun g hg e => hne7 g hg e.symm)
    · rw [List.getElem?_set_ne e] at hk
      have hb := (h.bytes k t hk).kept hg7 (by
        cases ht : t.2.ownBlock with
        | none => exact .inl rfl
        | some g => exact .inr (fun e2 => h.other k j t _ (Ne.symm e) hk hj g ht e2.symm))
      exact (Frame.cell W7 ⟨gs, j * 5 + 0, none⟩ v7).owns hb (fun g hg e2 => h.apart k t hk g hg (by rw [show g = gs from e2]; rfl))
  · intro e2
    have e2' : gs = g := by
      have : some gs = some g := e2
      exact Option.some.inj this
    by_cases e : j = k
    · subst e
      rw [List.getElem?_set_self hlt] at hk
      cases hk
      exact hne7 g hg e2'
    · rw [List.getElem?_set_ne e] at hk
      exact h.apart k t hk g hg e2
  · by_cases e : j = k
    · subst e
      rw [List.getElem?_set_self hlt] at hk
      cases hk
      rw [List.getElem?_set_ne hne] at hm
      rcases hat with e3 | e3
      · exact h.other j m (i, bv) u hne hj hm g (by rw [← e3]; exact hg)
      · rw [show (({ i with bytes := i.bytes ++ y } : Strm), v7).2 = v7 from rfl, e3] at hg
        intro e4
        have := ((h.bytes m u hm).lt g e4).2
        injection hg with hg
        omega
    · rw [List.getElem?_set_ne e] at hk
      by_cases e5 : j = m
      · subst e5
        rw [List.getElem?_set_self hlt] at hm
        cases hm
        intro e4
        rcases hat with e3 | e3
        · exact h.other k j t (i, bv) hne hk hj g hg (by rw [← e3]; exact e4)
        · have e4' : v7.ownBlock = some g := e4
          rw [e3] at e4'
          have := ((h.bytes k t hk).lt g hg).2
          injection e4' with e4'
          omega
      · rw [List.getElem?_set_ne e5] at hm
        exact h.other k m t u hne hk hm g hg
end

theorem Tryd.infoS : (Tryd.prog.info? 61).map (fun i => (i.zero, i.size, i.bytes)) = some (some (.agg #[.slice none 0 0, .bool false, .int .i64 0, .int .i64 0, .int .i64 0]), 5, 56) := by kernel_rfl
theorem snoc_at {α : Type} {X : List α} {t u : α} {j : Nat} (h : (X ++ [t])[j]? = some u) : X[j]? = some u ∨ (j = X.length ∧ u = t) := by
  by_cases hj : j < X.length
  · rw [List.getElem?_append_left hj] at h
    exact .inl h
  · rw [List.getElem?_append_right (by omega)] at h
    have h1 := (List.getElem?_eq_some_iff.1 h).1
    have h2 : j - X.length = 0 := by simp at h1; omega
    rw [h2] at h
    exact .inr ⟨by omega, (Option.some.inj h).symm⟩
/-- One stream more. -/
theorem wpList_append_strm {ops : Array Oper} {rest : List Oper} {o : Oper} {a : Act} {w : World} {Q : Exit → Act → World → Prop} (hgd : o.guard = none) (s x : Operand) (ho : o.op = .call { callee := .builtin .append, args := #[s, x], argTypes := #[36, 36] })
    {base : Nat} {v : Value} {X : StrX} (t : Strm × Value) (gy : Nat) (hs : a.eval s = v) (hown : OwnX base X v w) (hx : a.eval x = .slice (some ⟨gy, 0, none⟩) 1 1) (hsrc : w.heap[gy]? = some (.cells (strCells1 t).toArray 61 (0, 0)))
    (hby : w.ownsRow base 5 1 t.2 t.1.bytes.length (bytesL t.1.bytes)) (hnv : ∀ g, t.2.ownBlock = some g → v.ownBlock ≠ some g) (hnew : ∀ u ∈ X, ∀ g, t.2.ownBlock = some g → u.2.ownBlock ≠ some g) (hlen : X.length ≤ 1000000) (hbase : base ≤ w.heap.size)
    (h : ∀ v' w', OwnX base (X ++ [t]) v' w' → w.grownBy w' v.ownBlock → wpList Tryd.prog ops Q rest (a.put o.dst v') w') : wpList Tryd.prog ops Q (o :: rest) a w := by
  obtain ⟨i0, hi, hz0, hz1, hz2⟩ := info_parts Tryd.infoS
  have one : ∀ u ∈ strCells1 t, u.oneCell' = true := by
    obtain ⟨tb, tc, e⟩ := owns_slice hby
    intro u hu
    simp only [strCells1, List.mem_cons, List.not_mem_nil, or_false] at hu
    rcases hu with rfl | rfl | rfl | rfl | rfl
    · rw [e]; rfl
    all_goals rfl
  refine wpList_append_own_at w hgd s x 36 ho base 61 i0 (.agg #[.slice none 0 0, .bool false, .int .i64 0, .int .i64 0, .int .i64 0]) 5 56 (by kernel_rfl) hi hz0 hz1 hz2 rfl (by decide) v X.length _ hs hown.row ⟨gy, 0, none⟩ 1 1 (strCells1 t) hx rfl
    (fun j u hu => ?_) one (by unfold maxLen; omega) (by omega) hbase ?_
  · rw [Addr.add_mid, Nat.zero_add, cell_of_row _ _ _ _ _ _ hsrc]
    simpa using hu
  intro v' w' ho' hg' _ hv'
  have hkept : ∀ {bv : Value} {n : Nat} {xs : List Value}, w.ownsRow base 5 1 bv n xs → (∀ g, bv.ownBlock = some g → v.ownBlock ≠ some g) → w'.ownsRow base 5 1 bv n xs ∧ (∀ g, bv.ownBlock = some g → v'.ownBlock ≠ some g) := fun {bv n xs} hb hn => by
    refine ⟨hb.kept hg' ?_, fun g hg e => ?_⟩
    · cases hbv : bv.ownBlock with
      | none => exact .inl rfl
      | some g => exact .inr (fun e => hn g hbv e.symm)
    · rcases hv' with e2 | e2
      · exact hn g hg (by rw [← e2]; exact e)
      · have := (hb.lt g hg).2
        rw [e2] at e
        injection e with e
        omega
  refine h v' w' ⟨by rw [strCells_append, List.length_append]; simpa [strCells] using ho', fun j u hj => ?_, fun j u hj => ?_, fun j k u y hne hj hk => ?_⟩ hg'
  · rcases snoc_at hj with hj | ⟨-, rfl⟩
    · exact (hkept (hown.bytes j u hj) (hown.apart j u hj)).1
    · exact (hkept hby hnv).1
  · rcases snoc_at hj with hj | ⟨-, rfl⟩
    · exact (hkept (hown.bytes j u hj) (hown.apart j u hj)).2
    · exact (hkept hby hnv).2
  · rcases snoc_at hj with hj' | ⟨e1, hu⟩
    · rcases snoc_at hk with hk' | ⟨-, hy⟩
      · exact hown.other j k u y hne hj' hk'
      · rw [hy]
        exact fun g hg e => hnew u (List.mem_of_getElem? hj') g e hg
    · rcases snoc_at hk with hk' | ⟨e2, -⟩
      · rw [hu]
        exact hnew y (List.mem_of_getElem? hk')
      · omega

end Go.Proofs.YteghdepedlaneaaDoor
