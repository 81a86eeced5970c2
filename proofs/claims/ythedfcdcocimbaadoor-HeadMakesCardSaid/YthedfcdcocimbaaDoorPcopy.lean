/- What CopyParams does: the same parameters, in memory of their own. -/
import Derived.Test.YthedfcdcocimbaaDoorPown
import Derived.Deep.RegionHeld3
import Derived.Laws.OwnMore
import Derived.Maps.AppendAt
namespace Go.Proofs.YthedfcdcocimbaaDoor.Pm
open Go.RowKit

/-- The call answers the same parameters, in memory of its own. -/
def CopyEnd (w : World) (k n : Int) (A B : List UInt8) (e : Ending) (w' : World) : Prop := ∃ xa xb, e = .returned (parV k n xa xb) ∧ IsBytes w' xa A ∧ IsBytes w' xb B ∧ Below w.heap.size w w'

theorem take_now {P : Program} {md : Region.Mode} {ops : Array Oper} {Q : Exit → Act → World → Prop} {S : World → Prop} {i : Nat} {oi : Oper} {fuel : Nat} {listed : Array Bool} {a : Act} {w : World} (v : Value) (hi : ops[i]? = some oi)
    (hs : Region.noSelect ops = true) (hf : Region.free md ops listed i = true) (hr : (Region.ready md ops listed).contains i = true)
    (hw : Region.wanted oi (yielded ops a.tmps) = true) (hrun : ∀ W, S W → (execOp a.eval oi).run P W = .ok (.value v) W) (hS : S w)
    (h : wpAnyH P md ops (NoPanic Q) S fuel (listed.setIfInBounds i true) (a.put oi.dst v) w) : wpAnyH P md ops (NoPanic Q) S (fuel + 1) listed a w :=
  wpAnyH_take hi hs hf hr (fun _ _ _ h => h) (.inl ⟨hw, hrun⟩) hS h
theorem take_at {P : Program} {md : Region.Mode} {ops : Array Oper} {Q : Exit → Act → World → Prop} {S : World → Prop} {i : Nat} {oi : Oper} {fuel : Nat} {listed : Array Bool} {a : Act} {w : World} (d : Tmp) (v : Value) (hi : ops[i]? = some oi) (hd : oi.dst = some d)
    (hs : Region.noSelect ops = true) (hf : Region.free md ops listed i = true) (hr : (Region.ready md ops listed).contains i = true)
    (hw : Region.wanted oi (yielded ops a.tmps) = true) (hrun : ∀ W, S W → (execOp a.eval oi).run P W = .ok (.value v) W) (hS : S w)
    (h : wpAnyH P md ops (NoPanic Q) S fuel (listed.setIfInBounds i true) (a.put (some d) v) w) : wpAnyH P md ops (NoPanic Q) S (fuel + 1) listed a w := by
  rw [← hd] at h
  exact take_now v hi hs hf hr hw hrun hS h
/-- One operation alone may come up. -/
theorem one_now {P : Program} {md : Region.Mode} {ops : Array Oper} {Q : Exit → Act → World → Prop} {S : World → Prop} {i : Nat} {oi : Oper} {fuel : Nat} {listed : Array Bool} {a : Act} {w : World} (hi : ops[i]? = some oi)
    (hr : Region.ready md ops listed = [i]) (hw : Region.wanted oi (yielded ops a.tmps) = true)
    (h : oi.wp P a w (fun a' w' => S w' ∧ wpAnyH P md ops Q S fuel (listed.setIfInBounds i true) a' w') Q) : wpAnyH P md ops Q S (fuel + 1) listed a w := by
  refine wpAnyH_all hr (by simp) ?_
  intro j hj
  obtain rfl : j = i := by simpa using hj
  unfold wpOp
  simp only [hi, hw, if_true]
  exact .inl h
theorem wpOp_at {P : Program} {ops : Array Oper} {Q : Exit → Act → World → Prop} {i : Nat} {o : Oper} {K : Act → World → Prop} {a : Act} {w : World} (hi : ops[i]? = some o) (hgd : o.guard = none) (h : o.wp P a w K Q) : wpOp P ops Q i K a w := by
  unfold wpOp
  simp only [hi, Region.wanted, hgd, if_true]
  exact .inl h

/-- Bytes behind a row that is the call's own and holds nothing yet. -/
theorem wp_append_fresh {o : Oper} {a : Act} {w : World} {K : Act → World → Prop} {Q : Exit → Act → World → Prop} (s x : Operand) (ho : o.op = .call { callee := .builtin .append, args := #[s, x], argTypes := #[22, 22] })
    (base : Nat) (v vs : Value) (bs : List UInt8) (hs : a.eval s = v) (hown : w.ownsRow base 5 1 v 0 []) (hx : a.eval x = vs) (hsrc : IsBytes w vs bs) (hlen : bs.length ≤ 2000) (hbase : base ≤ w.heap.size) (d : Tmp) (hd : o.dst = some d)
    (h : ∀ v' w', w'.ownsRow base 5 1 v' bs.length (bytesL bs) → w.grownBy w' v.ownBlock → (v'.ownBlock = v.ownBlock ∨ v'.ownBlock = some w.heap.size) → K (a.put (some d) v') w') : o.wp Tryd.prog a w K Q := by
  rw [← hd] at h
  obtain ⟨i0, hi, hz0, hz1, hz2⟩ := info_parts Tryd.info5
  obtain ⟨ad, cap, rfl, -, hc⟩ := hsrc
  cases ad with
  | none =>
    have hb : bs = [] := by
      cases bs with
      | nil => rfl
      | cons x r =>
        obtain ⟨_, _, e, _⟩ := hc 0 x rfl
        cases e
    subst hb
    have hrun := run_append_owned_none' (P := Tryd.prog) (w := w) base 22 o.type 5 i0 1 cap Tryd.underlying22 hi v 0 _ hown
    unfold Oper.wp
    simp [execOp, ho, resolve, invoke, builtin, hs, hx, hrun, Result.andThen]
    exact h v w (by simpa [bytesL] using hown) ⟨rfl, rfl, rfl, Nat.le_refl _, fun _ _ _ => rfl⟩ (.inl rfl)
  | some ad =>
    obtain ⟨v', w', hr, h2, h3, -, h5⟩ := run_append_own_at (P := Tryd.prog) w base 22 o.type 5 i0 (.int .u8 0) 1 1 Tryd.underlying22 hi hz0 hz1 hz2 rfl (by decide) v 0 _ hown ad bs.length cap (bytesL bs) (by rw [length_bytesL]; omega)
      (fun j u hu => by
        obtain ⟨c, hj, rfl⟩ := bytesL_get hu
        obtain ⟨gb, off, e, h⟩ := hc j c hj
        cases e
        rw [Addr.add_mid]
        exact h) (one_bytesL bs) (by unfold maxLen; omega) (by omega) hbase
    unfold Oper.wp execOp
    simp only [ho, resolve, invoke, builtin, Sem.run_bind, Sem.run_pure, Result.andThen_ok, List.map_toArray, List.map_cons, List.map_nil, hs, hx, hr]
    exact h v' w' (by simpa using h2) h3 h5

theorem Owning.below' {w W W' : World} {k n : Int} {va vb : Value} (h : Owning w k n va vb W) (hb : Below W.heap.size W W') : Owning w k n va vb W' :=
  ⟨(hb.block _ (Array.getElem?_eq_some_iff.1 h.box).1).trans h.box, (hb.block _ (Array.getElem?_eq_some_iff.1 h.res).1).trans h.res, h.below.trans (hb.mono h.below.size)⟩
/-- The box stands, and a result's place. -/
structure Stand (w : World) (k n : Int) (va vb : Value) (W : World) : Prop where
  box : W.heap[w.heap.size]? = some (.cells #[.int .i64 k, .int .i64 n, va, vb] 24 (0, 0))
  below : Below w.heap.size w W
theorem Stand.cells {w W : World} {k n : Int} {va vb : Value} (h : Stand w k n va vb W) :
    W.cell? ⟨w.heap.size, 0, none⟩ = some (.int .i64 k) ∧ W.cell? ⟨w.heap.size, 1, none⟩ = some (.int .i64 n) ∧ W.cell? ⟨w.heap.size, 2, none⟩ = some va ∧ W.cell? ⟨w.heap.size, 3, none⟩ = some vb :=
  ⟨by rw [cell_of_row _ _ _ _ _ _ h.box]; rfl, by rw [cell_of_row _ _ _ _ _ _ h.box]; rfl, by rw [cell_of_row _ _ _ _ _ _ h.box]; rfl, by rw [cell_of_row _ _ _ _ _ _ h.box]; rfl⟩
theorem Owning.stand {w W : World} {k n : Int} {va vb : Value} (h : Owning w k n va vb W) : Stand w k n va vb W := ⟨h.box, h.below⟩
theorem Owning.put {w W : World} {k n : Int} {va vb : Value} (h : Owning w k n va vb W) (cs : Array Value) : Stand w k n va vb (W.setRow (w.heap.size + 1) cs) :=
  ⟨(setRow_other _ _ _ _ (by omega)).trans h.box, h.below.trans ⟨rfl, rfl, rfl, by simp, fun j hj => setRow_other _ _ _ _ (by omega)⟩⟩
theorem Owning.ends {w W : World} {k n : Int} {va vb xa xb : Value} {A B : List UInt8} (h : Owning w k n va vb W) {base : Nat} (hb : w.heap.size + 2 ≤ base) (hx : W.ownsRow base 5 1 xa A.length (bytesL A)) (hy : W.ownsRow base 5 1 xb B.length (bytesL B)) {fn : Func} {p : Tmp} {a : Act}
    (hr : fn.results = #[.cell p 24]) (hd : a.defers = []) (hp : a.tmps.getD p undef = .pointer (some ⟨w.heap.size + 1, 0, none⟩)) :
    bodyPost Tryd.prog fn (CopyEnd w k n A B) .ret a (W.setRow (w.heap.size + 1) #[.int .i64 k, .int .i64 n, xa, xb]) := by
  refine ret_par hr hd hp (setRow_heap _ _ _ _ _ _ h.res) rfl ⟨xa, xb, rfl, ?_, ?_, (h.put _).below⟩
  · exact isBytes_of_owns (owns_keep hx fun j hj => setRow_other _ _ _ _ (by have := (hx.lt j hj).1; omega))
  · exact isBytes_of_owns (owns_keep hy fun j hj => setRow_other _ _ _ _ (by have := (hy.lt j hj).1; omega))

set_option maxRecDepth 100000 in
set_option maxHeartbeats 8000000 in
theorem copy_any (k n : Int) (va vb : Value) (A B : List UInt8) (w : World) (hA : IsBytes w va A) (hB : IsBytes w vb B) (sA : A.length ≤ 2000) (sB : B.length ≤ 2000) :
    Calls Tryd.prog 20 #[parV k n va vb] w (CopyEnd w k n A B) := by
  have HA := Lib.hid (show ∀ W, Below w.heap.size w W → IsBytes W va A from fun W hb => hA.below hb)
  have HB := Lib.hid (show ∀ W, Below w.heap.size w W → IsBytes W vb B from fun W hb => hB.below hb)
  clear hA hB
  unfold parV
  have hO := Owning.start w k n va vb
  have HO := Lib.hid hO
  clear hO
  go_enter Tryd.func20, Tryd.ntmps20
  go_upto_region 1 with fail
  have hO := HO.out
  clear HO
  generalize ((w.alloc (.cells #[.int .i64 k, .int .i64 n, va, vb] 24)).alloc (.cells #[.int .i64 0, .int .i64 0, .slice none 0 0, .slice none 0 0] 24)) = W0 at hO ⊢
  refine wp_region_noPanic ?_
  refine wp_region_held (S := Stand w k n va vb) (by kernel_rfl) ?_
  change wpAnyH _ _ _ _ _ _ _ _ W0.drew
  have hO2 : Owning w k n va vb W0.drew := hO.below' (Below.refl _ _).drew
  clear hO
  generalize W0.drew = W2 at hO2 ⊢
  have hM2 := hO2.stand
  refine take_now (i := 0) (.pointer (some ⟨w.heap.size, 0, none⟩)) rfl (by kernel_rfl) (by kernel_rfl) (by kernel_rfl) rfl (fun _ _ => by go_simp) hM2 ?_
  refine take_now (i := 1) (.int .i64 k) rfl (by kernel_rfl) (by kernel_rfl) (by kernel_rfl) rfl (fun W h => by have hc := h.cells.1; go_simp) hM2 ?_
  refine take_now (i := 2) (.pointer (some ⟨w.heap.size, 1, none⟩)) rfl (by kernel_rfl) (by kernel_rfl) (by kernel_rfl) rfl (fun _ _ => by go_simp) hM2 ?_
  refine take_now (i := 3) (.int .i64 n) rfl (by kernel_rfl) (by kernel_rfl) (by kernel_rfl) rfl (fun W h => by have hc := h.cells.2.1; go_simp) hM2 ?_
  refine take_now (i := 5) (.pointer (some ⟨w.heap.size, 2, none⟩)) rfl (by kernel_rfl) (by kernel_rfl) (by kernel_rfl) rfl (fun _ _ => by go_simp) hM2 ?_
  refine take_now (i := 6) va rfl (by kernel_rfl) (by kernel_rfl) (by kernel_rfl) rfl (fun W h => by have hc := h.cells.2.2.1; go_simp) hM2 ?_
  refine take_now (i := 9) (.pointer (some ⟨w.heap.size, 3, none⟩)) rfl (by kernel_rfl) (by kernel_rfl) (by kernel_rfl) rfl (fun _ _ => by go_simp) hM2 ?_
  refine take_now (i := 10) vb rfl (by kernel_rfl) (by kernel_rfl) (by kernel_rfl) rfl (fun W h => by have hc := h.cells.2.2.2; go_simp) hM2 ?_
  have hsz := hO2.size
  obtain ⟨n2, hn2⟩ : ∃ n2, n2 = W2.heap.size := ⟨_, rfl⟩
  have keep : ∀ W, Below n2 W2 W → Owning w k n va vb W := fun W hb => hO2.below' (hn2 ▸ hb)
  refine wpAnyH_all (rs := [4, 8]) (by kernel_rfl) (by decide) ?_
  intro i hi
  rcases List.mem_cons.1 hi with rfl | hi
  · clear hi
    refine wpOp_at rfl rfl ?_
    go_wp2_with fail
    have hb4 := (Below.refl n2 W2).alloc (Nat.le_trans (Nat.le_of_eq hn2) (Below.refl n2 W2).size) (.cells #[] 5)
    have ho4 := World.ownsRow_made (base := n2) (e := 5) (size := 1) W2 #[] 0 (Nat.le_trans (Nat.le_of_eq hn2) (Below.refl n2 W2).size) (by decide) rfl
    refine ⟨(keep _ hb4).stand, ?_⟩
    refine wpAnyH_all (rs := [7, 8]) (by kernel_rfl) (by decide) ?_
    intro i hi
    rcases List.mem_cons.1 hi with rfl | hi
    · clear hi
      refine wpOp_at rfl rfl ?_
      refine wp_append_fresh (.tmp 7) (.tmp 9) rfl n2 (.slice (some ⟨W2.heap.size, 0, none⟩) 0 0) _ A rfl ho4 rfl (HA.out _ (keep _ hb4).below) sA (Nat.le_trans (Nat.le_of_eq hn2) hb4.size) 10 rfl ?_
      intro v7 W7 ho7 hg7 at7
      have hb7 := hb4.grown hg7 (Nat.le_trans (Nat.le_of_eq hn2) hb4.size) (fun j ej => (ho4.lt j ej).1)
      obtain ⟨a7, c7, rfl⟩ := owns_slice ho7
      have l7 := ho7.lt
      refine ⟨(keep _ hb7).stand, ?_⟩
      simp only [Act.put]
      refine one_now (i := 8) rfl (by kernel_rfl) rfl ?_
      go_wp2_with fail
      have hb8 := hb7.alloc (Nat.le_trans (Nat.le_of_eq hn2) hb7.size) (.cells #[] 5)
      have ho8 := World.ownsRow_made (base := n2) (e := 5) (size := 1) W7 #[] 0 (Nat.le_trans (Nat.le_of_eq hn2) hb7.size) (by decide) rfl
      replace ho7 := ho7.alloc (.cells #[] 5)
      refine ⟨(keep _ hb8).stand, ?_⟩
      refine one_now (i := 11) rfl (by kernel_rfl) rfl ?_
      refine wp_append_fresh (.tmp 11) (.tmp 13) rfl n2 (.slice (some ⟨W7.heap.size, 0, none⟩) 0 0) _ B rfl ho8 rfl (HB.out _ (keep _ hb8).below) sB (Nat.le_trans (Nat.le_of_eq hn2) hb8.size) 14 rfl ?_
      intro v11 W11 ho11 hg11 at11
      have hb11 := hb8.grown hg11 (Nat.le_trans (Nat.le_of_eq hn2) hb8.size) (fun j ej => (ho8.lt j ej).1)
      replace ho7 := ho7.kept hg11 (.inr (fun e => by have := (l7 _ e).2; simp at this))
      obtain ⟨a11, c11, rfl⟩ := owns_slice ho11
      refine ⟨(keep _ hb11).stand, ?_⟩
      simp only [Act.put]
      have hF := keep _ hb11
      refine take_at (i := 12) 15 (.agg #[.int .i64 k, .int .i64 n, .slice a7 A.length c7, .slice a11 B.length c11]) rfl rfl (by kernel_rfl) (by kernel_rfl) (by kernel_rfl) rfl (fun _ _ => by go_simp) hF.stand ?_
      refine one_now (i := 13) rfl (by kernel_rfl) rfl ?_
      refine wp_store_row 24 (.tmp 2) (.tmp 15) rfl (w.heap.size + 1) #[.int .i64 k, .int .i64 n, .slice a7 A.length c7, .slice a11 B.length c11] rfl rfl 24 _ hF.res (by rw [Tryd.size24]; rfl) rfl (by simp [Value.oneCell']) ?_
      refine ⟨hF.put _, ?_⟩
      simp only [Act.put]
      refine wpAnyH_done (by kernel_rfl) (NoPanic.normal ?_) _
      go_wp2_with fail
      exact hF.ends (by omega) ho7 ho11 rfl rfl rfl
    · obtain rfl : i = 8 := by simpa using hi
      clear hi
      refine wpOp_at rfl rfl ?_
      go_wp2_with fail
      have hb8 := hb4.alloc (Nat.le_trans (Nat.le_of_eq hn2) hb4.size) (.cells #[] 5)
      have ho8 := World.ownsRow_made (base := n2) (e := 5) (size := 1) (W2.alloc (.cells #[] 5)) #[] 0 (Nat.le_trans (Nat.le_of_eq hn2) hb4.size) (by decide) rfl
      simp only [World.size_alloc] at ho8
      replace ho4 := ho4.alloc (.cells #[] 5)
      refine ⟨(keep _ hb8).stand, ?_⟩
      refine one_now (i := 7) rfl (by kernel_rfl) rfl ?_
      refine wp_append_fresh (.tmp 7) (.tmp 9) rfl n2 (.slice (some ⟨W2.heap.size, 0, none⟩) 0 0) _ A rfl ho4 rfl (HA.out _ (keep _ hb8).below) sA (Nat.le_trans (Nat.le_of_eq hn2) hb8.size) 10 rfl ?_
      intro v7 W7 ho7 hg7 at7
      have hb7 := hb8.grown hg7 (Nat.le_trans (Nat.le_of_eq hn2) hb8.size) (fun j ej => (ho4.lt j ej).1)
      replace ho8 := ho8.kept hg7 (.inr (by simp [Value.ownBlock]))
      obtain ⟨a7, c7, rfl⟩ := owns_slice ho7
      have l7 := ho7.lt
      refine ⟨(keep _ hb7).stand, ?_⟩
      simp only [Act.put]
      refine one_now (i := 11) rfl (by kernel_rfl) rfl ?_
      refine wp_append_fresh (.tmp 11) (.tmp 13) rfl n2 (.slice (some ⟨W2.heap.size + 1, 0, none⟩) 0 0) _ B rfl ho8 rfl (HB.out _ (keep _ hb7).below) sB (Nat.le_trans (Nat.le_of_eq hn2) hb7.size) 14 rfl ?_
      intro v11 W11 ho11 hg11 at11
      have hb11 := hb7.grown hg11 (Nat.le_trans (Nat.le_of_eq hn2) hb7.size) (fun j ej => (ho8.lt j ej).1)
      replace ho7 := ho7.kept hg11 (.inr (fun e => by rcases at7 with h | h <;> rw [h] at e <;> simp [Value.ownBlock] at e <;> omega))
      obtain ⟨a11, c11, rfl⟩ := owns_slice ho11
      refine ⟨(keep _ hb11).stand, ?_⟩
      simp only [Act.put]
      have hF := keep _ hb11
      refine take_at (i := 12) 15 (.agg #[.int .i64 k, .int .i64 n, .slice a7 A.length c7, .slice a11 B.length c11]) rfl rfl (by kernel_rfl) (by kernel_rfl) (by kernel_rfl) rfl (fun _ _ => by go_simp) hF.stand ?_
      refine one_now (i := 13) rfl (by kernel_rfl) rfl ?_
      refine wp_store_row 24 (.tmp 2) (.tmp 15) rfl (w.heap.size + 1) #[.int .i64 k, .int .i64 n, .slice a7 A.length c7, .slice a11 B.length c11] rfl rfl 24 _ hF.res (by rw [Tryd.size24]; rfl) rfl (by simp [Value.oneCell']) ?_
      refine ⟨hF.put _, ?_⟩
      simp only [Act.put]
      refine wpAnyH_done (by kernel_rfl) (NoPanic.normal ?_) _
      go_wp2_with fail
      exact hF.ends (by omega) ho7 ho11 rfl rfl rfl
  · obtain rfl : i = 8 := by simpa using hi
    clear hi
    refine wpOp_at rfl rfl ?_
    go_wp2_with fail
    have hb8 := (Below.refl n2 W2).alloc (Nat.le_trans (Nat.le_of_eq hn2) (Below.refl n2 W2).size) (.cells #[] 5)
    have ho8 := World.ownsRow_made (base := n2) (e := 5) (size := 1) W2 #[] 0 (Nat.le_trans (Nat.le_of_eq hn2) (Below.refl n2 W2).size) (by decide) rfl
    refine ⟨(keep _ hb8).stand, ?_⟩
    refine one_now (i := 4) rfl (by kernel_rfl) rfl ?_
    go_wp2_with fail
    have hb4 := hb8.alloc (Nat.le_trans (Nat.le_of_eq hn2) hb8.size) (.cells #[] 5)
    have ho4 := World.ownsRow_made (base := n2) (e := 5) (size := 1) (W2.alloc (.cells #[] 5)) #[] 0 (Nat.le_trans (Nat.le_of_eq hn2) hb8.size) (by decide) rfl
    simp only [World.size_alloc] at ho4
    replace ho8 := ho8.alloc (.cells #[] 5)
    refine ⟨(keep _ hb4).stand, ?_⟩
    refine one_now (i := 7) rfl (by kernel_rfl) rfl ?_
    refine wp_append_fresh (.tmp 7) (.tmp 9) rfl n2 (.slice (some ⟨W2.heap.size + 1, 0, none⟩) 0 0) _ A rfl ho4 rfl (HA.out _ (keep _ hb4).below) sA (Nat.le_trans (Nat.le_of_eq hn2) hb4.size) 10 rfl ?_
    intro v7 W7 ho7 hg7 at7
    have hb7 := hb4.grown hg7 (Nat.le_trans (Nat.le_of_eq hn2) hb4.size) (fun j ej => (ho4.lt j ej).1)
    replace ho8 := ho8.kept hg7 (.inr (by simp [Value.ownBlock]))
    obtain ⟨a7, c7, rfl⟩ := owns_slice ho7
    have l7 := ho7.lt
    refine ⟨(keep _ hb7).stand, ?_⟩
    simp only [Act.put]
    refine one_now (i := 11) rfl (by kernel_rfl) rfl ?_
    refine wp_append_fresh (.tmp 11) (.tmp 13) rfl n2 (.slice (some ⟨W2.heap.size, 0, none⟩) 0 0) _ B rfl ho8 rfl (HB.out _ (keep _ hb7).below) sB (Nat.le_trans (Nat.le_of_eq hn2) hb7.size) 14 rfl ?_
    intro v11 W11 ho11 hg11 at11
    have hb11 := hb7.grown hg11 (Nat.le_trans (Nat.le_of_eq hn2) hb7.size) (fun j ej => (ho8.lt j ej).1)
    replace ho7 := ho7.kept hg11 (.inr (fun e => by rcases at7 with h | h <;> rw [h] at e <;> simp [Value.ownBlock] at e <;> omega))
    obtain ⟨a11, c11, rfl⟩ := owns_slice ho11
    refine ⟨(keep _ hb11).stand, ?_⟩
    simp only [Act.put]
    have hF := keep _ hb11
    refine take_at (i := 12) 15 (.agg #[.int .i64 k, .int .i64 n, .slice a7 A.length c7, .slice a11 B.length c11]) rfl rfl (by kernel_rfl) (by kernel_rfl) (by kernel_rfl) rfl (fun _ _ => by go_simp) hF.stand ?_
    refine one_now (i := 13) rfl (by kernel_rfl) rfl ?_
    refine wp_store_row 24 (.tmp 2) (.tmp 15) rfl (w.heap.size + 1) #[.int .i64 k, .int .i64 n, .slice a7 A.length c7, .slice a11 B.length c11] rfl rfl 24 _ hF.res (by rw [Tryd.size24]; rfl) rfl (by simp [Value.oneCell']) ?_
    refine ⟨hF.put _, ?_⟩
    simp only [Act.put]
    refine wpAnyH_done (by kernel_rfl) (NoPanic.normal ?_) _
    go_wp2_with fail
    exact hF.ends (by omega) ho7 ho11 rfl rfl rfl

end Go.Proofs.YthedfcdcocimbaaDoor.Pm
