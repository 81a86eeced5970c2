/- A file's bytes: what add, size, piece and slices.Clone do. -/
import Derived.Test.YtpengkkbmenkpaaFsmem
import Derived.Lib.SliceRun
import Derived.Maps.AppendAt
namespace Go.Proofs.Ytpengkkbmenkpaa
open Go.RowKit

/-- Bytes of another type behind bytes. -/
theorem append_two {P : Program} {t t2 ty e e2 : TypeId} (ht : P.underlying t = some (.slice e)) (ht2 : P.underlying t2 = some (.slice e2)) (b : Option Addr) (n c : Nat) (x : Value) (w : World) :
    (Builtin.append_ #[t, t2] ty #[.slice b n c, x]).run P w = (Builtin.append_ #[t, t] ty #[.slice b n c, x]).run P w := by
  simp [Builtin.append_, run_underlying ht, run_underlying ht2]
/-- Bytes behind a row of bytes that is the call's own, nil or not; and where they lie. -/
theorem run_append_bytes {p : Nat → Prop} {w : World} (t t2 ty : TypeId) (ht : Try.prog.underlying t = some (.slice 5)) (ht2 : Try.prog.underlying t2 = some (.slice 5)) (base : Nat) (v vs : Value) (xs bs : List UInt8)
    (hown : w.ownsRow base 5 1 v xs.length (bytesL xs)) (hsrc : IsBytes p w vs bs) (hlen : xs.length + bs.length ≤ 10000000) (hbase : base ≤ w.heap.size) :
    ∃ v' w', (Builtin.append_ #[t, t2] ty #[v, vs]).run Try.prog w = .ok v' w' ∧ w'.ownsRow base 5 1 v' (xs ++ bs).length (bytesL (xs ++ bs)) ∧ w.grownBy w' v.ownBlock ∧ (v'.ownBlock = v.ownBlock ∨ v'.ownBlock = some w.heap.size) := by
  obtain ⟨i0, hi, hz0, hz1, hz2⟩ := info_parts Try.info5
  obtain ⟨ad, cap, rfl, -, hc⟩ := hsrc
  obtain ⟨va, vc, rfl⟩ := owns_slice hown
  rw [append_two ht ht2]
  cases ad with
  | none =>
    have hb : bs = [] := by
      cases bs with
      | nil => rfl
      | cons x r =>
        obtain ⟨_, _, e, _⟩ := hc 0 x rfl
        cases e
    subst hb
    refine ⟨_, w, run_append_owned_nil (P := Try.prog) (w := w) base t ty 5 i0 1 cap ht hi _ xs.length _ hown, by simpa using hown, ⟨rfl, rfl, rfl, Nat.le_refl _, fun _ _ _ => rfl⟩, .inl rfl⟩
  | some ad =>
    obtain ⟨v', w', hr, h2, h3, -, h5⟩ := run_append_own_at (P := Try.prog) w base t ty 5 i0 (.int .u8 0) 1 1 ht hi hz0 hz1 hz2 rfl (by decide) _ xs.length _ hown ad bs.length cap (bytesL bs) (by rw [length_bytesL]; omega)
      (fun j u hu => by
        obtain ⟨c, hj, rfl⟩ := bytesL_get hu
        obtain ⟨gb, off, e, _, h⟩ := hc j c hj
        cases e
        rw [Addr.add_mid]
        exact h) (one_bytesL bs) (by unfold maxLen; omega) (by omega) hbase
    exact ⟨v', w', hr, by rw [bytesL_append, List.length_append]; exact h2, h3, h5⟩

theorem wpList_append_row {p : Nat → Prop} {ops : Array Oper} {rest : List Oper} {o : Oper} {a : Act} {w : World} {Q : Exit → Act → World → Prop} (hgd : o.guard = none) (s x : Operand) (t t2 : TypeId) (ho : o.op = .call { callee := .builtin .append, args := #[s, x], argTypes := #[t, t2] })
    (ht : Try.prog.underlying t = some (.slice 5)) (ht2 : Try.prog.underlying t2 = some (.slice 5)) (base : Nat) (v vs : Value) (xs bs : List UInt8) (hs : a.eval s = v) (hown : w.ownsRow base 5 1 v xs.length (bytesL xs)) (hx : a.eval x = vs) (hsrc : IsBytes p w vs bs)
    (hlen : xs.length + bs.length ≤ 10000000) (hbase : base ≤ w.heap.size)
    (h : ∀ v' w', w'.ownsRow base 5 1 v' (xs ++ bs).length (bytesL (xs ++ bs)) → w.grownBy w' v.ownBlock → (v'.ownBlock = v.ownBlock ∨ v'.ownBlock = some w.heap.size) → wpList Try.prog ops Q rest (a.put o.dst v') w') : wpList Try.prog ops Q (o :: rest) a w := by
  refine wpList_plain hgd fun K hK => ?_
  obtain ⟨v', w', hr, h2, h3, h4⟩ := run_append_bytes (ty := o.type) t t2 ht ht2 base v vs xs bs hown hsrc hlen hbase
  unfold Oper.wp execOp
  simp only [ho, resolve, invoke, builtin, Sem.run_bind, Sem.run_pure, Result.andThen_ok, List.map_toArray, List.map_cons, List.map_nil, hs, hx, hr]
  exact hK _ _ (h v' w' h2 h3 h4)

set_option maxRecDepth 100000 in
set_option maxHeartbeats 1000000 in
theorem add_any {p : Nat → Prop} (base b : Nat) (v vs : Value) (xs bs : List UInt8) (w : World) (hb : w.heap[b]? = some (.cells #[v] 65 (0, 0))) (hown : w.ownsRow base 5 1 v xs.length (bytesL xs)) (hne : v.ownBlock ≠ some b)
    (hsrc : IsBytes p w vs bs) (hlen : xs.length + bs.length ≤ 10000000) (hbase : base ≤ w.heap.size) :
    Calls Try.prog 28 #[.pointer (some ⟨b, 0, none⟩), vs] w fun e w' => e = .returned (.tuple #[]) ∧ ∃ v', w'.heap[b]? = some (.cells #[v'] 65 (0, 0)) ∧
      w'.ownsRow base 5 1 v' (xs ++ bs).length (bytesL (xs ++ bs)) ∧ (v'.ownBlock = v.ownBlock ∨ v'.ownBlock = some w.heap.size) ∧ Frame (fun k => k = b ∨ v.ownBlock = some k) w w' := by
  have c0 : w.cell? ⟨b, 0, none⟩ = some v := by rw [cell_of_row _ _ _ _ _ _ hb]; rfl
  obtain ⟨va, vc, rfl⟩ := owns_slice hown
  obtain ⟨sa, sc, rfl, -⟩ := id hsrc
  have HOW := Lib.hid hown
  have HS := Lib.hid hsrc
  have HB := Lib.hid hb
  have HN := Lib.hid hne
  clear hown hsrc hb hne
  go_enter Try.func28, Try.ntmps28
  go_wp2_with (at_builtin; refine wpList_append_row rfl (.tmp 7) (.tmp 8) 63 34 rfl Try.underlying63 Try.underlying34 base _ _ xs bs rfl HOW.out rfl HS.out hlen hbase ?_)
  intro v' w1 ho hg hl
  rw [← List.length_append] at ho
  have hb1 : w1.heap[b]? = some (.cells #[.slice va xs.length vc] 65 (0, 0)) := (hg.block b (Array.getElem?_eq_some_iff.1 HB.out).1 (fun e => HN.out e.symm)).trans HB.out
  have c1 : w1.cell? ⟨b, 0, none⟩ = some (.slice va xs.length vc) := by rw [cell_of_row _ _ _ _ _ _ hb1]; rfl
  have z1 : w1.frozen? ⟨b, 0, none⟩ = false := by simp [World.frozen?, hb1]
  have hf : Frame (fun k => k = b ∨ (Value.slice va xs.length vc).ownBlock = some k) w (w1.setCell ⟨b, 0, none⟩ v') := ((Frame.refl _ w).grown hg (fun k _ e => .inr e)).trans ((Frame.cell w1 ⟨b, 0, none⟩ v').mono (fun k _ e => .inl e))
  have hb2 := setCell_row hb1 0 v'
  have hlt := (Array.getElem?_eq_some_iff.1 HB.out).1
  have ho2 : (w1.setCell ⟨b, 0, none⟩ v').ownsRow base 5 1 v' (xs ++ bs).length (bytesL (xs ++ bs)) := (Frame.cell w1 ⟨b, 0, none⟩ v').owns ho (fun k hk e => by
    have e' : k = b := e
    subst e'
    rcases hl with hl | hl <;> rw [hk] at hl
    · exact HN.out hl.symm
    · cases hl
      omega)
  obtain ⟨va', vc', rfl⟩ := owns_slice ho
  have HL := Lib.hid hl
  have HF := Lib.hid hf
  have HB2 := Lib.hid hb2
  have HO2 := Lib.hid ho2
  clear ho hl hb1 hf hg hb2 ho2
  go_wp2_with fail
  go_end0
  rw [← List.length_append]
  exact ⟨rfl, _, HB2.out, HO2.out, HL.out, HF.out⟩

set_option maxRecDepth 100000 in
set_option maxHeartbeats 1000000 in
theorem size_any (a : Option Addr) (n c : Nat) (w : World) : Calls Try.prog 29 #[.slice a n c] w fun e w' => e = .returned (.int .i64 n) ∧ w' = w := by
  go_enter Try.func29, Try.ntmps29
  go_wp2_with fail
  go_ret
  exact ⟨rfl, rfl⟩

end Go.Proofs.Ytpengkkbmenkpaa
