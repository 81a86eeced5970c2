/- What the document's Copy does, of one stream: the same, in memory of its own. -/
import Derived.Test.YtlflhjgfegflfaaDoorGlaws
import Derived.Test.YtlflhjgfegflfaaDoorSame
import Derived.Outline
namespace Go.Proofs.YtlflhjgfegflfaaDoor
open Go.RowKit

theorem Tryd.info61 : (Tryd.prog.info? 61).map (fun i => (i.zero, i.size, i.bytes)) = some (some (.agg #[.slice none 0 0, .bool false, .int .i64 0, .int .i64 0, .int .i64 0]), 5, 56) := by kernel_rfl

/-- One stream in memory of its own: its block, and its bytes' row. -/
structure OwnStrm (base : Nat) (i : Strm) (v : Value) (w : World) : Prop where
  ex : ∃ gs cap bv cs, v = .slice (some ⟨gs, 0, none⟩) 1 cap ∧ base ≤ gs ∧ w.heap[gs]? = some (.cells (#[bv, .bool i.ended, .int .i64 i.code, .int .i64 i.stage, .int .i64 i.id] ++ cs) 61 (0, 0)) ∧
    w.ownsRow base 5 1 bv i.bytes.length (bytesL i.bytes) ∧ bv.ownBlock ≠ some gs

def CopyEnds (w : World) (i : Strm) (e : Ending) (w' : World) : Prop := ∃ v, e = .returned v ∧ OwnStrm w.heap.size i v w' ∧ Below w.heap.size w w'

set_option maxRecDepth 100000 in
set_option maxHeartbeats 4000000 in
theorem copyOne_any {p : Nat → Prop} (iv : Value) (i : Strm) (w : World) (hI : IsStrms p w iv [i]) (hl : i.bytes.length ≤ 5000) :
    Calls Tryd.prog 22 #[iv] w (CopyEnds w i) := by
  obtain ⟨_, _, e, hcs⟩ := hI
  subst e
  obtain ⟨gb, off, bv, rfl, -, c0, c1, c2, c3, c4, hbytes⟩ := hcs 0 i rfl
  simp only [Nat.zero_mul, Nat.add_zero] at c0 c1 c2 c3 c4
  have hmid : w.rangeAt gb off [bv, .bool i.ended, .int .i64 i.code, .int .i64 i.stage, .int .i64 i.id] := fun j v hv => by
    rcases j with _ | _ | _ | _ | _ | j
    · cases hv; exact c0
    · cases hv; exact c1
    · cases hv; exact c2
    · cases hv; exact c3
    · cases hv; exact c4
    · simp at hv
  have HBy := Lib.hid (show ∀ W, Below w.heap.size w W → IsBytes p W bv i.bytes from fun W hb => hbytes.below hb)
  obtain ⟨ab, cb, rfl, -, -⟩ := hbytes
  clear c0 c1 c2 c3 c4 hcs
  simp only [List.length_cons, List.length_nil, Nat.zero_add]
  go_enter Tryd.func22, Tryd.ntmps22
  go_wp2_with fail
  refine wp_loop_rounds 2 ?_
  rw [rounds_succ]
  go_upto_region 6 with (first | (refine wpList_load_mid rfl 61 (.tmp 14) rfl gb off rfl _ _ hmid Tryd.underlying61 rfl (by kernel_rfl) ?_))
  have hb1 : Below w.heap.size w (w.alloc (.cells #[.slice ab i.bytes.length cb, .bool i.ended, .int .i64 i.code, .int .i64 i.stage, .int .i64 i.id] 61)) := (Below.refl _ _).alloc (Nat.le_refl _) _
  have hr1 := heap_alloc_last w (.cells #[.slice ab i.bytes.length cb, .bool i.ended, .int .i64 i.code, .int .i64 i.stage, .int .i64 i.id] 61)
  have hsz1 : (w.alloc (.cells #[.slice ab i.bytes.length cb, .bool i.ended, .int .i64 i.code, .int .i64 i.stage, .int .i64 i.id] 61)).heap.size = w.heap.size + 1 := by simp
  generalize w.alloc (.cells #[.slice ab i.bytes.length cb, .bool i.ended, .int .i64 i.code, .int .i64 i.stage, .int .i64 i.id] 61) = W1 at hb1 hr1 hsz1 ⊢
  have d0 : (W1.alloc (.cells #[] 5)).cell? ⟨w.heap.size, 0, none⟩ = some (.slice ab i.bytes.length cb) := by
    rw [((Below.refl W1.heap.size W1).alloc (Nat.le_refl _) _).cell (by show w.heap.size < W1.heap.size; omega), cell_of_row _ _ _ _ _ _ hr1]; rfl
  have hown := World.ownsRow_made W1 (e := 5) (base := W1.heap.size) (size := 1) #[] 0 (Nat.le_refl _) (by decide) rfl
  have HOwn := Lib.hid hown
  have HR1 := Lib.hid hr1
  have HB1 := Lib.hid hb1
  have hbA : Below w.heap.size w (W1.alloc (.cells #[] 5)) := hb1.alloc (by omega) _
  have HBA := Lib.hid hbA
  have HSz := Lib.hid hsz1
  have h5 : w.heap.size < W1.heap.size := by omega
  have H5 := Lib.hid h5
  clear hown hr1 hb1 hbA hmid hsz1 h5
  have hold : ∀ w2 : World, (W1.alloc (.cells #[] 5)).grownBy w2 (Value.slice (some ⟨W1.heap.size, 0, none⟩) 0 0).ownBlock → Below W1.heap.size W1 w2 ∧ w2.frozen? ⟨w.heap.size, 0, none⟩ = false ∧ w2.cell? ⟨w.heap.size, 0, none⟩ = some (.slice ab i.bytes.length cb) := by
    intro w2 hg2
    have hb2 : Below W1.heap.size W1 w2 := ((Below.refl W1.heap.size W1).alloc (Nat.le_refl _) (.cells #[] 5)).grown hg2 (by simp) (fun j ej => (HOwn.out.lt j ej).1)
    have hr2 := (hb2.block w.heap.size H5.out).trans HR1.out
    exact ⟨hb2, by simp [World.frozen?, hr2], by rw [cell_of_row _ _ _ _ _ _ hr2]; rfl⟩
  have HOld := Lib.hid hold
  clear hold
  go_upto_region 7 with (at_builtin; refine wpList_append_bytes rfl (.tmp 16) (.tmp 18) rfl W1.heap.size (.slice (some ⟨W1.heap.size, 0, none⟩) 0 0) (.slice ab i.bytes.length cb) [] i.bytes rfl HOwn.out rfl (HBy.out _ HBA.out) (by simp; omega) (by simp) ?_; intro v2 w2 ho2 hg2; obtain ⟨hb2, z2, k2⟩ := HOld.out w2 hg2; obtain ⟨a2, l2, rfl⟩ := owns_slice ho2; have HO2 := Lib.hid ho2; have HB2 := Lib.hid hb2; clear ho2 hg2 hb2)
  have hlen0 : ([] ++ i.bytes).length = i.bytes.length := rfl
  have hr2 := (HB2.out.block w.heap.size H5.out).trans HR1.out
  have hr3 := setCell_row (o := 0) (v := .slice a2 i.bytes.length l2) hr2
  have hf3 := Frame.cell w2 ⟨w.heap.size, 0, none⟩ (.slice a2 i.bytes.length l2)
  have ho3 := hf3.owns HO2.out (fun k hk e => by have := (HO2.out.lt k hk).1; have := H5.out; have e' : k = w.heap.size := e; omega)
  have hb3 : Below w.heap.size w (w2.setCell ⟨w.heap.size, 0, none⟩ (.slice a2 i.bytes.length l2)) := (HB1.out.trans (HB2.out.mono (by have := H5.out; omega))).setCell (Nat.le_refl _) _
  have hlt3 : w.heap.size < (w2.setCell ⟨w.heap.size, 0, none⟩ (.slice a2 i.bytes.length l2)).heap.size := (Array.getElem?_eq_some_iff.1 hr3).1
  change Code.wp _ _ _ _ (w2.setCell ⟨w.heap.size, 0, none⟩ (.slice a2 i.bytes.length l2))
  generalize w2.setCell ⟨w.heap.size, 0, none⟩ (.slice a2 i.bytes.length l2) = W3 at hr3 ho3 hb3 hlt3 ⊢
  have hr3' : W3.heap[w.heap.size]? = some (.cells #[.slice a2 i.bytes.length l2, .bool i.ended, .int .i64 i.code, .int .i64 i.stage, .int .i64 i.id] 61 (0, 0)) := hr3
  have HO3 := Lib.hid ho3
  have HB3 := Lib.hid hb3
  have HLt3 := Lib.hid hlt3
  clear hr2 hr3 hf3 ho3 hb3 hlt3 z2 k2 d0
  go_wp2_with (refine wpList_load_row rfl 61 (.tmp 5) rfl w.heap.size rfl _ _ _ _ hr3' Tryd.underlying61 rfl (by kernel_rfl) ?_)
  rw [rounds_succ]
  go_wp2_with fail
  go_ret
  have hlt := HLt3.out
  have hb4 : ∀ o1 o2, Below W3.heap.size W3 ((W3.alloc o1).alloc o2).drew := fun o1 o2 => (((Below.refl _ _).alloc (Nat.le_refl _) _).alloc (by simp) _).drew
  refine ⟨_, rfl, ⟨W3.heap.size + 1, _, .slice a2 i.bytes.length l2, ?cs, rfl, by omega, ?h2, ?h3, ?h4⟩, ?h5⟩
  case h2 =>
    have := heap_alloc_last (W3.alloc (.cells #[.slice a2 i.bytes.length l2, .bool i.ended, .int .i64 i.code, .int .i64 i.stage, .int .i64 i.id] 61))
    rw [World.size_alloc] at this
    exact this _
  case h3 =>
    obtain ⟨q1, q2⟩ := (Below.toFrame (hb4 _ _) fun _ => False).owns HO3.out (fun _ _ h => h)
    refine ⟨q1, ?_⟩
    rcases q2 with q2 | ⟨kk, cp, cr, e1, e2, e3⟩
    · exact .inl q2
    · exact .inr ⟨kk, cp, cr, e1, by have := H5.out; omega, e3⟩
  case h4 =>
    intro e
    have := (HO3.out.lt _ e).2
    omega
  case h5 => exact HB3.out.trans ((hb4 _ _).mono (by omega))

/-- Bytes behind a row of bytes that is the call's own. -/
theorem wp_append_more {p : Nat → Prop} {o : Oper} {a : Act} {w : World} {K : Act → World → Prop} {Q : Exit → Act → World → Prop} (s x : Operand) (ho : o.op = .call { callee := .builtin .append, args := #[s, x], argTypes := #[22, 22] })
    (base : Nat) (v vs : Value) (xs bs : List UInt8) (hs : a.eval s = v) (hown : w.ownsRow base 5 1 v xs.length (bytesL xs)) (hx : a.eval x = vs) (hsrc : IsBytes p w vs bs) (hlen : xs.length + bs.length ≤ 10000000) (hbase : base ≤ w.heap.size) (d : Tmp) (hd : o.dst = some d)
    (h : ∀ v' w', w'.ownsRow base 5 1 v' (xs ++ bs).length (bytesL (xs ++ bs)) → w.grownBy w' v.ownBlock → (v'.ownBlock = v.ownBlock ∨ v'.ownBlock = some w.heap.size) → K (a.put (some d) v') w') : o.wp Tryd.prog a w K Q := by
  rw [← hd] at h
  obtain ⟨i0, hi, hz0, hz1, hz2⟩ := info_parts Tryd.info5
  obtain ⟨ad, cap, rfl, -, hc⟩ := hsrc
  cases ad with
  | none =>
    have hb : bs = [] := by
      cases bs with
      | nil => rfl
      | cons x r =>
        obtain ⟨_, _, e, _⟩ := hc 0 x rfl
        cases e
    subst hb
    have hrun := run_append_owned_nil (P := Tryd.prog) (w := w) base 22 o.type 5 i0 1 cap Tryd.underlying22 hi v xs.length _ hown
    unfold Oper.wp
    simp [execOp, ho, resolve, invoke, builtin, hs, hx, hrun, Result.andThen]
    exact h v w (by simpa using hown) ⟨rfl, rfl, rfl, Nat.le_refl _, fun _ _ _ => rfl⟩ (.inl rfl)
  | some ad =>
    obtain ⟨v', w', hr, h2, h3, -, h5⟩ := run_append_own_at (P := Tryd.prog) w base 22 o.type 5 i0 (.int .u8 0) 1 1 Tryd.underlying22 hi hz0 hz1 hz2 rfl (by decide) v xs.length _ hown ad bs.length cap (bytesL bs) (by rw [length_bytesL]; omega)
      (fun j u hu => by
        obtain ⟨c, hj, rfl⟩ := bytesL_get hu
        obtain ⟨gb, off, e, _, h⟩ := hc j c hj
        cases e
        rw [Addr.add_mid]
        exact h) (one_bytesL bs) (by unfold maxLen; omega) (by omega) hbase
    unfold Oper.wp execOp
    simp only [ho, resolve, invoke, builtin, Sem.run_bind, Sem.run_pure, Result.andThen_ok, List.map_toArray, List.map_cons, List.map_nil, hs, hx, hr]
    exact h v' w' (by rw [bytesL_append, List.length_append]; exact h2) h3 h5

/-- One stream in a block of its own, whose end is told. -/
theorem live_put {base gs lcap : Nat} {W : World} {bv : Value} {bs : List UInt8} {e0 : Bool} {c g i : Int} {cs : Array Value} (hrow : W.heap[gs]? = some (.cells (#[bv, .bool e0, .int .i64 c, .int .i64 g, .int .i64 i] ++ cs) 61 (0, 0)))
    (hby : W.ownsRow base 5 1 bv bs.length (bytesL bs)) (hne : bv.ownBlock ≠ some gs) (hgs : base ≤ gs) (eb : Bool) : IsStrms (base ≤ ·) (W.setCell ⟨gs, 1, none⟩ (.bool eb)) (.slice (some ⟨gs, 0, none⟩) 1 lcap) [⟨bs, eb, c, g, i⟩] := by
  have hr := setCell_row (o := 1) (v := .bool eb) hrow
  have hb := isBytes_of_owns ((Frame.cell W ⟨gs, 1, none⟩ (.bool eb)).owns hby (fun k hk e => hne (by rw [hk]; have e' : k = gs := e; rw [e'])))
  have hr2 : (W.setCell ⟨gs, 1, none⟩ (.bool eb)).heap[gs]? = some (.cells (#[bv, .bool eb, .int .i64 c, .int .i64 g, .int .i64 i] ++ cs) 61 (0, 0)) := by
    rw [hr]
    congr 2
    apply Array.ext'
    simp
  refine ⟨_, lcap, rfl, fun j t hj => ?_⟩
  match j, hj with
  | 0, hj =>
    simp at hj
    subst hj
    refine ⟨gs, 0, bv, rfl, hgs, ?_, ?_, ?_, ?_, ?_, hb⟩
    all_goals
      rw [cell_of_row _ _ _ _ _ _ hr2]
      first | rfl | simp [Array.getElem?_append]
  | j + 1, hj => simp at hj

end Go.Proofs.YtlflhjgfegflfaaDoor
