/- The law's own copy of a script. -/
import Derived.Test.YtpgigpajpcianaaGreatDoorZFsA
import Derived.Maps.AppendAt
namespace Go.Proofs.YtpgigpajpcianaaGreatDoor
open Go.RowKit

theorem Tryz.info90 : (Tryz.prog.info? 90).map (fun i => (i.zero, i.size, i.bytes)) = some (some (.agg #[.int .i64 0, .int .i64 0]), 2, 16) := by kernel_rfl
def pairsL : Script → List Value
  | [] => []
  | f :: r => .int .i64 f.1 :: .int .i64 f.2 :: pairsL r
theorem length_pairs : ∀ S : Script, (pairsL S).length = S.length * 2
  | [] => rfl
  | f :: r => by simp only [pairsL, List.length_cons, length_pairs r]; omega
theorem one_pairs : ∀ (S : Script), ∀ u ∈ pairsL S, u.oneCell' = true
  | [], u, h => by cases h
  | f :: r, u, h => by
    simp only [pairsL, List.mem_cons] at h
    rcases h with rfl | rfl | h
    · rfl
    · rfl
    · exact one_pairs r u h
theorem pairs_get : ∀ {S : Script} {j : Nat} {f : Int × Int}, S[j]? = some f → (pairsL S)[j * 2]? = some (.int .i64 f.1) ∧ (pairsL S)[j * 2 + 1]? = some (.int .i64 f.2)
  | [], j, f, h => by simp at h
  | x :: r, 0, f, h => by
    simp only [List.getElem?_cons_zero, Option.some.injEq] at h
    subst h
    exact ⟨rfl, rfl⟩
  | x :: r, j + 1, f, h => by
    have ih := pairs_get (S := r) (j := j) (f := f) (by simpa using h)
    rw [show (j + 1) * 2 = j * 2 + 1 + 1 by omega]
    exact ih
theorem pairs_at : ∀ {S : Script} {i : Nat} {u : Value}, (pairsL S)[i]? = some u → ∃ j f, S[j]? = some f ∧ ((i = j * 2 ∧ u = .int .i64 f.1) ∨ (i = j * 2 + 1 ∧ u = .int .i64 f.2))
  | [], i, u, h => by simp [pairsL] at h
  | x :: r, 0, u, h => ⟨0, x, rfl, .inl ⟨rfl, by simpa [pairsL] using h.symm⟩⟩
  | x :: r, 1, u, h => ⟨0, x, rfl, .inr ⟨rfl, by simpa [pairsL] using h.symm⟩⟩
  | x :: r, i + 2, u, h => by
    obtain ⟨j, f, hj, hh⟩ := pairs_at (S := r) (i := i) (u := u) h
    refine ⟨j + 1, f, by simpa using hj, ?_⟩
    rcases hh with ⟨rfl, rfl⟩ | ⟨rfl, rfl⟩
    · exact .inl ⟨by omega, rfl⟩
    · exact .inr ⟨by omega, rfl⟩
theorem isScript_of_owns {base : Nat} {w : World} {v : Value} {S : Script} (h : w.ownsRow base 90 2 v S.length (pairsL S)) : IsScript (base ≤ ·) w v S := by
  have h' := h
  rcases h.2 with ⟨rfl, h0⟩ | ⟨g, cap, cur, rfl, hb, _⟩
  · refine ⟨none, 0, by rw [h0], fun j c hj => ?_⟩
    rw [List.eq_nil_of_length_eq_zero h0] at hj
    simp at hj
  · refine ⟨_, cap, rfl, fun j c hj => ⟨g, 0, rfl, hb, ?_, ?_⟩⟩
    · have := World.ownsRow.cells h' (g := g) rfl _ _ (pairs_get hj).1
      rwa [Addr.add_mid] at this
    · have := World.ownsRow.cells h' (g := g) rfl _ _ (pairs_get hj).2
      rw [Addr.add_mid] at this
      rwa [Nat.zero_add] at this ⊢
theorem run_append_script {p : Nat → Prop} {w : World} (t ty : TypeId) (ht : Tryz.prog.underlying t = some (.slice 90)) (base : Nat) (v vs : Value) (S : Script)
    (hown : w.ownsRow base 90 2 v 0 []) (hsrc : IsScript p w vs S) (hlen : S.length ≤ 1000000) (hbase : base ≤ w.heap.size) :
    ∃ v' w', (Builtin.append_ #[t, t] ty #[v, vs]).run Tryz.prog w = .ok v' w' ∧ w'.ownsRow base 90 2 v' S.length (pairsL S) ∧ w.grownBy w' v.ownBlock := by
  obtain ⟨i0, hi, hz0, hz1, hz2⟩ := info_parts Tryz.info90
  obtain ⟨ad, cap, rfl, hc⟩ := hsrc
  cases ad with
  | none =>
    have hb : S = [] := by
      cases S with
      | nil => rfl
      | cons x r =>
        obtain ⟨_, _, e, _⟩ := hc 0 x rfl
        cases e
    subst hb
    exact ⟨_, w, run_append_owned_nil (P := Tryz.prog) (w := w) base t ty 90 i0 2 cap ht hi _ 0 _ hown, hown, ⟨rfl, rfl, rfl, Nat.le_refl _, fun _ _ _ => rfl⟩⟩
  | some ad =>
    obtain ⟨v', w', hr, h2, h3, -, -⟩ := run_append_own_at (P := Tryz.prog) w base t ty 90 i0 (.agg #[.int .i64 0, .int .i64 0]) 2 16 ht hi hz0 hz1 hz2 rfl (by decide) _ 0 _ hown ad S.length cap (pairsL S) (length_pairs S)
      (fun i u hu => by
        obtain ⟨j, f, hj, hh⟩ := pairs_at hu
        obtain ⟨gb, off, e, -, h0, h1⟩ := hc j f hj
        cases e
        rw [Addr.add_mid]
        rcases hh with ⟨rfl, rfl⟩ | ⟨rfl, rfl⟩
        · exact h0
        · exact h1) (one_pairs S) (by unfold maxLen; omega) (by omega) hbase
    refine ⟨v', w', hr, ?_, h3⟩
    rw [Nat.zero_add] at h2
    exact h2
theorem wpList_append_script {p : Nat → Prop} {ops : Array Oper} {rest : List Oper} {o : Oper} {a : Act} {w : World} {Q : Exit → Act → World → Prop} (hgd : o.guard = none) (s x : Operand) (t : TypeId) (ho : o.op = .call { callee := .builtin .append, args := #[s, x], argTypes := #[t, t] })
    (ht : Tryz.prog.underlying t = some (.slice 90)) (base : Nat) (v vs : Value) (S : Script) (hs : a.eval s = v) (hown : w.ownsRow base 90 2 v 0 []) (hx : a.eval x = vs) (hsrc : IsScript p w vs S)
    (hlen : S.length ≤ 1000000) (hbase : base ≤ w.heap.size)
    (h : ∀ v' w', w'.ownsRow base 90 2 v' S.length (pairsL S) → w.grownBy w' v.ownBlock → wpList Tryz.prog ops Q rest (a.put o.dst v') w') : wpList Tryz.prog ops Q (o :: rest) a w := by
  refine wpList_plain hgd fun K hK => ?_
  obtain ⟨v', w', hr, h2, h3⟩ := run_append_script (ty := o.type) t ht base v vs S hown hsrc hlen hbase
  unfold Oper.wp execOp
  simp only [ho, resolve, invoke, builtin, Sem.run_bind, Sem.run_pure, Result.andThen_ok, List.map_toArray, List.map_cons, List.map_nil, hs, hx, hr]
  exact hK _ _ (h v' w' h2 h3)
end Go.Proofs.YtpgigpajpcianaaGreatDoor
