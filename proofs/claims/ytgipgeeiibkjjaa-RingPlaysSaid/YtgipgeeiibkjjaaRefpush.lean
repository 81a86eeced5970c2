/- What the document's Push does. -/
import Derived.Test.YtgipgeeiibkjjaaRefs
namespace Go.Proofs.Ytgipgeeiibkjjaa
open Go.RowKit

def RefEnd (w : World) (c : Nat) (L : Chunks) (q : Nat) (e : Ending) (w' : World) : Prop :=
  ∃ v, e = .returned (.tuple #[refV c v, .int .i64 q]) ∧ IsTexts w' v L ∧ Below w.heap.size w w'

theorem Try.size36 : (Try.prog.info? 36).map (·.size) = some 2 := by kernel_rfl

theorem ret_ref {fn : Func} {p u : Tmp} (hr : fn.results = #[.cell p 36, .tmp u]) {a : Act} {w : World} {R : Ending → World → Prop} {B : Nat} {cs : Array Value} {t : TypeId} {fr : Nat × Nat}
    (hd : a.defers = []) (hp : a.tmps.getD p undef = .pointer (some ⟨B, 0, none⟩)) (hg : w.heap[B]? = some (.cells cs t fr)) (hs : cs.size = 2)
    (h : R (.returned (.tuple #[.agg cs, a.tmps.getD u undef])) w) : bodyPost Try.prog fn R .ret a w := by
  refine bodyPost_ret (v := .tuple #[.agg cs, a.tmps.getD u undef]) ?_ hd h
  rw [results_cell_tmp hr, hp]
  simp only [asAddr, Sem.run_pure, Result.andThen_ok]
  rw [run_loadVar_row w B t 36 cs fr _ hg Try.underlying36 rfl (by rw [Try.size36, hs])]
  rfl

/-- What is known while the new ring is made. -/
structure Made (w : World) (c : Nat) (v bv : Value) (L : Chunks) (bs : List UInt8) (W : World) : Prop where
  own : W.heap[w.heap.size]? = some (.cells #[.int .i64 c, v] 36 (0, 0))
  res : ∃ cs : Array Value, cs.size = 2 ∧ W.heap[w.heap.size + 1]? = some (.cells cs 36 (0, 0))
  byt : IsBytes w bv bs
  txt : IsTexts W v L
  bel : Below w.heap.size w W
theorem Made.below {w : World} {c : Nat} {v bv : Value} {L : Chunks} {bs : List UInt8} {W W' : World} (h : Made w c v bv L bs W) (hb : Below W.heap.size W W') : Made w c v bv L bs W' :=
  ⟨(hb.block _ (Array.getElem?_eq_some_iff.1 h.own).1).trans h.own, (by obtain ⟨cs, h1, h2⟩ := h.res; exact ⟨cs, h1, (hb.block _ (Array.getElem?_eq_some_iff.1 h2).1).trans h2⟩), h.byt, h.txt.below hb, h.bel.trans (hb.mono h.bel.size)⟩
theorem Made.cell0 {w : World} {c : Nat} {v bv : Value} {L : Chunks} {bs : List UInt8} {W : World} (h : Made w c v bv L bs W) : W.cell? ⟨w.heap.size, 0, none⟩ = some (.int .i64 c) := by rw [cell_of_row _ _ _ _ _ _ h.own]; rfl
theorem Made.cell1 {w : World} {c : Nat} {v bv : Value} {L : Chunks} {bs : List UInt8} {W : World} (h : Made w c v bv L bs W) : W.cell? ⟨w.heap.size, 1, none⟩ = some v := by rw [cell_of_row _ _ _ _ _ _ h.own]; rfl
theorem Made.lt {w : World} {c : Nat} {v bv : Value} {L : Chunks} {bs : List UInt8} {W : World} (h : Made w c v bv L bs W) : w.heap.size + 1 < W.heap.size := by obtain ⟨cs, _, h2⟩ := h.res; exact (Array.getElem?_eq_some_iff.1 h2).1

/-- One list of texts behind an owned one: nothing but the owned one's row turns. -/
theorem wp_append_texts2 {o : Oper} {a : Act} {w : World} {K : Act → World → Prop} {Q : Exit → Act → World → Prop} (s x : Operand) (ho : o.op = .call { callee := .builtin .append, args := #[s, x], argTypes := #[34, 34] })
    (base base2 : Nat) (v vs : Value) (xs ys : Chunks) (hs : a.eval s = v) (hown : w.ownsRow base 9 1 v xs.length (xs.map strV)) (hx : a.eval x = vs) (hsrc : w.ownsRow base2 9 1 vs ys.length (ys.map strV))
    (hlen : xs.length + ys.length ≤ 100000) (hbase : base ≤ w.heap.size)
    (h : ∀ v' w', w'.ownsRow base 9 1 v' (xs.length + ys.length) ((xs ++ ys).map strV) → w.grownBy w' v.ownBlock → K (a.put o.dst v') w') : o.wp Try.prog a w K Q := by
  obtain ⟨i0, hi, hz0, hz1, hz2⟩ := info_parts Try.info9
  have hsrc' := hsrc
  rcases hsrc.2 with ⟨rfl, h0⟩ | ⟨g, cap, cur, rfl, _⟩
  · have hrun := run_append_owned_none (P := Try.prog) (w := w) base 34 o.type 9 i0 1 Try.underlying34 hi v xs.length _ hown
    have hy : ys = [] := List.eq_nil_of_length_eq_zero h0
    unfold Oper.wp
    simp [execOp, ho, resolve, invoke, builtin, hs, hx, hrun, Result.andThen]
    subst hy
    exact h v w (by simpa using hown) ⟨rfl, rfl, rfl, Nat.le_refl _, fun _ _ _ => rfl⟩
  · refine wp_append_own (P := Try.prog) w s x 34 ho base 9 i0 (.string ByteArray.empty) 1 16 Try.underlying34 hi hz0 hz1 hz2 rfl (by decide) v xs.length _ hs hown ⟨g, 0, none⟩ ys.length cap (ys.map strV) hx (by simp)
      (fun j u hu => hsrc'.cells (g := g) rfl j u hu) (fun u hu => by obtain ⟨y, _, rfl⟩ := List.mem_map.1 hu; rfl) (by unfold maxLen; omega) (by omega) hbase ?_
    intro v' w' ho' hg' _
    exact h v' w' (by rw [List.map_append]; exact ho') hg'

/-- Only the row of a value that owns its row from n on turns: what was known is known. -/
theorem Made.grown {w : World} {c : Nat} {v bv : Value} {L : Chunks} {bs : List UInt8} {W W' : World} {n : Nat} (W0 : World) (h0 : Made w c v bv L bs W0) (hn : W0.heap.size ≤ n) (hb : Below W0.heap.size W0 W) {x : Value} {k : Nat} {xs : List Value} (ho : W.ownsRow n 9 1 x k xs) (hg : W.grownBy W' x.ownBlock) : Made w c v bv L bs W' ∧ Below W0.heap.size W0 W' := by
  have hb2 : Below W0.heap.size W0 W' := hb.grown hg hb.size (fun j ej => by
    have := (ho.lt j ej).1
    omega)
  exact ⟨h0.below hb2, hb2⟩

theorem Made.stored {w : World} {c : Nat} {v bv : Value} {L : Chunks} {bs : List UInt8} {W : World} (h : Made w c v bv L bs W) (cs : Array Value) (hs : cs.size = 2) : Made w c v bv L bs (W.setRow (w.heap.size + 1) cs) := by
  obtain ⟨old, ho, hr⟩ := h.res
  exact ⟨(setRow_other _ _ _ _ (by omega)).trans h.own, ⟨cs, hs, setRow_heap _ _ _ _ 36 _ hr⟩, h.byt, owns_setRow_type h.txt hr (by decide) cs, below_setRow h.bel (Nat.le_succ _) cs⟩
theorem IsTexts.stored {w : World} {c : Nat} {v bv : Value} {L : Chunks} {bs : List UInt8} {W : World} (h : Made w c v bv L bs W) {x : Value} {n : Nat} {xs : List Value} (ho : W.ownsRow 0 9 1 x n xs) (cs : Array Value) : (W.setRow (w.heap.size + 1) cs).ownsRow 0 9 1 x n xs := by
  obtain ⟨old, _, hr⟩ := h.res
  exact owns_setRow_type ho hr (by decide) cs

theorem one_row (W : World) (b : List UInt8) : (W.alloc (.cells #[strV b] 9)).ownsRow W.heap.size 9 1 (.slice (some ⟨W.heap.size, 0, none⟩) 1 1) 1 [strV b] :=
  ⟨rfl, .inr ⟨W.heap.size, 1, #[strV b], rfl, Nat.le_refl _, heap_alloc_last W _, Nat.le_refl _, by decide, rfl, rfl⟩⟩

set_option maxRecDepth 100000 in
set_option maxHeartbeats 4000000 in
theorem refPush_yes (c : Nat) (v bv : Value) (L : Chunks) (bs : List UInt8) (w : World) (hG : Good c L) (hT : IsTexts w v L) (hB : IsBytes w bv bs) (h1 : 1 ≤ bs.length) (h2 : bs.length ≤ 32) (hl : L.length < c) :
    Calls Try.prog 23 #[refV c v, bv] w (RefEnd w c (L ++ [bs]) 0) := by
  have h8 := hG.cap
  have hM : Made w c v bv L bs ((w.alloc (.cells #[.int .i64 c, v] 36)).alloc (.cells #[.int .i64 0, .slice none 0 0] 36)) :=
    ⟨heap_alloc2_old w _ _, ⟨_, rfl, heap_alloc2_new w _ _⟩, hB, hT.below (below2 w _ _), below2 w _ _⟩
  have hv : ∃ a cap, v = .slice a L.length cap := by
    rcases hT.slice with ⟨g, cap, rfl, _⟩ | ⟨rfl, rfl⟩
    · exact ⟨_, _, rfl⟩
    · exact ⟨_, _, rfl⟩
  obtain ⟨a, cap, rfl⟩ := hv
  obtain ⟨ab, capb, rfl, _⟩ := hB
  clear hT
  have g3 : ((c : Int) == 0) = false := by simp; omega
  have g4 : ¬ (c : Int) ≤ (L.length : Int) := by omega
  have hch : isChunk bs.length = true := by simp [isChunk]; omega
  have HM := Lib.hid hM
  clear hM
  go_enter Try.func23, Try.ntmps23
  go_wp2_with fail
  refine (refChunk _ _ _ _).mono ?_
  rintro e w' ⟨rfl, rfl⟩
  rw [hch]
  go_upto_region 5 with (fail)
  have hM := HM.out
  clear HM hch
  generalize (w.alloc (.cells #[.int .i64 c, .slice a L.length cap] 36)).alloc (.cells #[.int .i64 0, .slice none 0 0] 36) = W1 at hM ⊢
  obtain ⟨St, hSt⟩ : ∃ St : ByteArray, St = ⟨bs.toArray⟩ := ⟨_, rfl⟩
  have hstr : strV bs = .string St := by rw [hSt]; rfl
  clear hSt
  refine wp_region_noPanic ?_
  refine wp_region_held (S := Made w c (.slice a L.length cap) (.slice ab bs.length capb) L bs) (by kernel_rfl) ?_
  change wpAnyH _ _ _ _ _ _ _ _ W1.drew
  have hM2 := hM.below (Below.drew (Below.refl _ _))
  clear hM
  generalize W1.drew = W2 at hM2 ⊢
  refine take_now (i := 0) (.pointer (some ⟨w.heap.size, 0, none⟩)) rfl (by kernel_rfl) (by kernel_rfl) (by kernel_rfl) rfl (fun _ _ => by go_simp) hM2 ?_
  refine take_now (i := 1) (.int .i64 c) rfl (by kernel_rfl) (by kernel_rfl) (by kernel_rfl) rfl (fun W h => by have hc := h.cell0; go_simp) hM2 ?_
  refine take_now (i := 3) (.pointer (some ⟨w.heap.size, 1, none⟩)) rfl (by kernel_rfl) (by kernel_rfl) (by kernel_rfl) rfl (fun _ _ => by go_simp) hM2 ?_
  refine take_now (i := 4) (.slice a L.length cap) rfl (by kernel_rfl) (by kernel_rfl) (by kernel_rfl) rfl (fun W h => by have hc := h.cell1; go_simp) hM2 ?_
  refine take_now (i := 6) (.slice ab bs.length capb) rfl (by kernel_rfl) (by kernel_rfl) (by kernel_rfl) rfl (fun _ _ => rfl) hM2 ?_
  refine take_now (i := 7) (.string St) rfl (by kernel_rfl) (by kernel_rfl) (by kernel_rfl) rfl (fun W h => by have hc := conv_bytes (h.byt.below h.bel) h1; rw [hstr] at hc; go_simp) hM2 ?_
  obtain ⟨n2, hn2⟩ : ∃ n2, n2 = W2.heap.size := ⟨_, rfl⟩
  have keep : ∀ W, Below n2 W2 W → Made w c (.slice a L.length cap) (.slice ab bs.length capb) L bs W := fun W hb => hM2.below (hn2 ▸ hb)
  refine wpAnyH_all (rs := [2, 8]) (by kernel_rfl) (by decide) ?_
  intro i hi
  rcases List.mem_cons.1 hi with rfl | hi
  · clear hi
    refine wpOp_at rfl rfl ?_
    go_wp2_with fail
    have hbA : Below n2 W2 (W2.alloc (.cells #[] 9)) := (Below.refl _ _).alloc (Nat.le_of_eq hn2) _
    have hoA := World.ownsRow_made (base := n2) (e := 9) (size := 1) W2 #[] 0 (Nat.le_of_eq hn2) (by decide) rfl
    refine ⟨keep _ hbA, ?_⟩
    refine wpAnyH_all (rs := [5, 8]) (by kernel_rfl) (by decide) ?_
    intro i hi
    rcases List.mem_cons.1 hi with rfl | hi
    · clear hi
      refine wpOp_at rfl rfl ?_
      refine wp_append_texts2 (.tmp 24) (.tmp 26) rfl n2 0 _ _ [] L rfl hoA rfl (keep _ hbA).txt (by simp; omega) (by rw [hn2]; simp) ?_
      intro v5 W5 ho5 hg5
      have hb5 : Below n2 W2 W5 := hbA.grown hg5 (by rw [hn2]; simp) (fun j ej => (hoA.lt j ej).1)
      simp only [List.length_nil, Nat.zero_add, List.nil_append] at ho5
      refine ⟨keep _ hb5, ?_⟩
      simp only [Act.put]
      refine one_now (i := 8) rfl (by kernel_rfl) rfl ?_
      go_wp2_with fail
      have hbW := hb5.alloc (Nat.le_trans (Nat.le_of_eq hn2) hb5.size) (.cells #[.string St] 9)
      have ho8 := ownsRow_base (one_row W5 bs) (base' := n2) (Nat.le_trans (Nat.le_of_eq hn2) hb5.size)
      rw [hstr] at ho8
      replace ho5 := ho5.alloc (.cells #[.string St] 9)
      rw [← hstr] at ho8 hbW ho5
      rw [← hstr]
      refine ⟨keep _ hbW, ?_⟩
      refine one_now (i := 9) rfl (by kernel_rfl) rfl ?_
      refine wp_append_texts2 (.tmp 27) (.tmp 30) rfl n2 n2 v5 _ L [bs] rfl ho5 rfl ho8 (by simp; omega) (Nat.le_trans (Nat.le_of_eq hn2) hbW.size) ?_
      intro v9 W9 ho9 hg9
      have hb9 : Below n2 W2 W9 := hbW.grown hg9 (Nat.le_trans (Nat.le_of_eq hn2) hbW.size) (fun j ej => (ho5.lt j ej).1)
      obtain ⟨g9, cap9, rfl⟩ := ownsRow_succ (k := L.length) (by simpa using ho9)
      have hM9 := keep W9 hb9
      refine ⟨hM9, ?_⟩
      simp only [Act.put]
      refine take_now (i := 10) (.agg #[.int .i64 c, .slice (some ⟨g9, 0, none⟩) (L.length + 1) cap9]) rfl (by kernel_rfl) (by kernel_rfl) (by kernel_rfl) rfl (fun _ _ => by go_simp) hM9 ?_
      refine one_now (i := 11) rfl (by kernel_rfl) rfl ?_
      obtain ⟨cs, hcs, hres⟩ := hM9.res
      refine wp_store_row 36 (.tmp 4) (.tmp 32) rfl (w.heap.size + 1) #[.int .i64 c, .slice (some ⟨g9, 0, none⟩) (L.length + 1) cap9] rfl rfl 36 cs hres (by rw [Try.size36]; rfl) hcs (by simp [Value.oneCell']) ?_
      have hlt := hM9.lt
      have hMs : Made w c (.slice a L.length cap) (.slice ab bs.length capb) L bs (W9.setRow (w.heap.size + 1) #[.int .i64 c, .slice (some ⟨g9, 0, none⟩) (L.length + 1) cap9]) :=
        hM9.stored _ rfl
      have hos := IsTexts.stored hM9 (ownsRow_base ho9 (Nat.zero_le _)) #[.int .i64 c, .slice (some ⟨g9, 0, none⟩) (L.length + 1) cap9]
      refine ⟨hMs, ?_⟩
      refine one_now (i := 12) rfl (by kernel_rfl) rfl ?_
      go_wp2_with fail
      refine wpAnyH_done (by kernel_rfl) (NoPanic.normal ?_) _
      go_wp2_with fail
      exact ret_ref rfl rfl rfl (setRow_heap _ _ _ _ 36 _ hres) rfl ⟨_, rfl, by simpa [IsTexts] using hos, hMs.bel⟩
    · obtain rfl : i = 8 := by simpa using hi
      clear hi
      refine wpOp_at rfl rfl ?_
      go_wp2_with fail
      have hb8 := hbA.alloc (Nat.le_trans (Nat.le_of_eq hn2) hbA.size) (.cells #[.string St] 9)
      have ho8a := ownsRow_base (one_row (W2.alloc (.cells #[] 9)) bs) (base' := n2) (by rw [hn2]; simp)
      rw [hstr] at ho8a
      have hoA8 := hoA.alloc (.cells #[.string St] 9)
      refine ⟨keep _ hb8, ?_⟩
      simp only [World.size_alloc] at ho8a
      refine one_now (i := 5) rfl (by kernel_rfl) rfl ?_
      refine wp_append_texts2 (.tmp 24) (.tmp 26) rfl n2 0 (.slice (some ⟨W2.heap.size, 0, none⟩) 0 0) _ [] L rfl hoA8 rfl (keep _ hb8).txt (by simp; omega) (by rw [hn2]; simp; omega) ?_
      intro v5 W5 ho5 hg5
      have hbW : Below n2 W2 W5 := hb8.grown hg5 (by rw [hn2]; simp; omega) (fun j ej => (hoA8.lt j ej).1)
      simp only [List.length_nil, Nat.zero_add, List.nil_append] at ho5
      have ho8 := ho8a.kept hg5 (.inr (by simp [Value.ownBlock]))
      rw [← hstr] at ho8
      refine ⟨keep _ hbW, ?_⟩
      simp only [Act.put]
      refine one_now (i := 9) rfl (by kernel_rfl) rfl ?_
      refine wp_append_texts2 (.tmp 27) (.tmp 30) rfl n2 n2 v5 _ L [bs] rfl ho5 rfl ho8 (by simp; omega) (Nat.le_trans (Nat.le_of_eq hn2) hbW.size) ?_
      intro v9 W9 ho9 hg9
      have hb9 : Below n2 W2 W9 := hbW.grown hg9 (Nat.le_trans (Nat.le_of_eq hn2) hbW.size) (fun j ej => (ho5.lt j ej).1)
      obtain ⟨g9, cap9, rfl⟩ := ownsRow_succ (k := L.length) (by simpa using ho9)
      have hM9 := keep W9 hb9
      refine ⟨hM9, ?_⟩
      simp only [Act.put]
      refine take_now (i := 10) (.agg #[.int .i64 c, .slice (some ⟨g9, 0, none⟩) (L.length + 1) cap9]) rfl (by kernel_rfl) (by kernel_rfl) (by kernel_rfl) rfl (fun _ _ => by go_simp) hM9 ?_
      refine one_now (i := 11) rfl (by kernel_rfl) rfl ?_
      obtain ⟨cs, hcs, hres⟩ := hM9.res
      refine wp_store_row 36 (.tmp 4) (.tmp 32) rfl (w.heap.size + 1) #[.int .i64 c, .slice (some ⟨g9, 0, none⟩) (L.length + 1) cap9] rfl rfl 36 cs hres (by rw [Try.size36]; rfl) hcs (by simp [Value.oneCell']) ?_
      have hlt := hM9.lt
      have hMs : Made w c (.slice a L.length cap) (.slice ab bs.length capb) L bs (W9.setRow (w.heap.size + 1) #[.int .i64 c, .slice (some ⟨g9, 0, none⟩) (L.length + 1) cap9]) :=
        hM9.stored _ rfl
      have hos := IsTexts.stored hM9 (ownsRow_base ho9 (Nat.zero_le _)) #[.int .i64 c, .slice (some ⟨g9, 0, none⟩) (L.length + 1) cap9]
      refine ⟨hMs, ?_⟩
      refine one_now (i := 12) rfl (by kernel_rfl) rfl ?_
      go_wp2_with fail
      refine wpAnyH_done (by kernel_rfl) (NoPanic.normal ?_) _
      go_wp2_with fail
      exact ret_ref rfl rfl rfl (setRow_heap _ _ _ _ 36 _ hres) rfl ⟨_, rfl, by simpa [IsTexts] using hos, hMs.bel⟩
  · obtain rfl : i = 8 := by simpa using hi
    clear hi
    refine wpOp_at rfl rfl ?_
    go_wp2_with fail
    have hbA : Below n2 W2 (W2.alloc (.cells #[.string St] 9)) := (Below.refl _ _).alloc (Nat.le_of_eq hn2) _
    have ho8a := ownsRow_base (one_row W2 bs) (base' := n2) (Nat.le_of_eq hn2)
    rw [hstr] at ho8a
    refine ⟨keep _ hbA, ?_⟩
    refine one_now (i := 2) rfl (by kernel_rfl) rfl ?_
    go_wp2_with fail
    have hb8 := hbA.alloc (Nat.le_trans (Nat.le_of_eq hn2) hbA.size) (.cells #[] 9)
    have hoA8 := World.ownsRow_made (base := n2) (e := 9) (size := 1) (W2.alloc (.cells #[.string St] 9)) #[] 0 (by rw [hn2]; simp) (by decide) rfl
    have ho8b := ho8a.alloc (.cells #[] 9)
    simp only [World.size_alloc] at hoA8
    refine ⟨keep _ hb8, ?_⟩
    refine one_now (i := 5) rfl (by kernel_rfl) rfl ?_
    refine wp_append_texts2 (.tmp 24) (.tmp 26) rfl n2 0 (.slice (some ⟨W2.heap.size + 1, 0, none⟩) 0 0) _ [] L rfl hoA8 rfl (keep _ hb8).txt (by simp; omega) (by rw [hn2]; simp; omega) ?_
    intro v5 W5 ho5 hg5
    have hbW : Below n2 W2 W5 := hb8.grown hg5 (by rw [hn2]; simp; omega) (fun j ej => (hoA8.lt j ej).1)
    simp only [List.length_nil, Nat.zero_add, List.nil_append] at ho5
    have ho8 := ho8b.kept hg5 (.inr (by simp [Value.ownBlock]))
    rw [← hstr] at ho8
    refine ⟨keep _ hbW, ?_⟩
    simp only [Act.put]
    refine one_now (i := 9) rfl (by kernel_rfl) rfl ?_
    refine wp_append_texts2 (.tmp 27) (.tmp 30) rfl n2 n2 v5 _ L [bs] rfl ho5 rfl ho8 (by simp; omega) (Nat.le_trans (Nat.le_of_eq hn2) hbW.size) ?_
    intro v9 W9 ho9 hg9
    have hb9 : Below n2 W2 W9 := hbW.grown hg9 (Nat.le_trans (Nat.le_of_eq hn2) hbW.size) (fun j ej => (ho5.lt j ej).1)
    obtain ⟨g9, cap9, rfl⟩ := ownsRow_succ (k := L.length) (by simpa using ho9)
    have hM9 := keep W9 hb9
    refine ⟨hM9, ?_⟩
    simp only [Act.put]
    refine take_now (i := 10) (.agg #[.int .i64 c, .slice (some ⟨g9, 0, none⟩) (L.length + 1) cap9]) rfl (by kernel_rfl) (by kernel_rfl) (by kernel_rfl) rfl (fun _ _ => by go_simp) hM9 ?_
    refine one_now (i := 11) rfl (by kernel_rfl) rfl ?_
    obtain ⟨cs, hcs, hres⟩ := hM9.res
    refine wp_store_row 36 (.tmp 4) (.tmp 32) rfl (w.heap.size + 1) #[.int .i64 c, .slice (some ⟨g9, 0, none⟩) (L.length + 1) cap9] rfl rfl 36 cs hres (by rw [Try.size36]; rfl) hcs (by simp [Value.oneCell']) ?_
    have hlt := hM9.lt
    have hMs : Made w c (.slice a L.length cap) (.slice ab bs.length capb) L bs (W9.setRow (w.heap.size + 1) #[.int .i64 c, .slice (some ⟨g9, 0, none⟩) (L.length + 1) cap9]) :=
      hM9.stored _ rfl
    have hos := IsTexts.stored hM9 (ownsRow_base ho9 (Nat.zero_le _)) #[.int .i64 c, .slice (some ⟨g9, 0, none⟩) (L.length + 1) cap9]
    refine ⟨hMs, ?_⟩
    refine one_now (i := 12) rfl (by kernel_rfl) rfl ?_
    go_wp2_with fail
    refine wpAnyH_done (by kernel_rfl) (NoPanic.normal ?_) _
    go_wp2_with fail
    exact ret_ref rfl rfl rfl (setRow_heap _ _ _ _ 36 _ hres) rfl ⟨_, rfl, by simpa [IsTexts] using hos, hMs.bel⟩

set_option maxRecDepth 100000 in
set_option maxHeartbeats 400000 in
theorem refPush_arg (c : Nat) (v bv : Value) (L : Chunks) (bs : List UInt8) (w : World) (hT : IsTexts w v L) (hB : IsBytes w bv bs) (h : isChunk bs.length = false ∨ c = 0) :
    Calls Try.prog 23 #[refV c v, bv] w (RefEnd w c L 1) := by
  have hT2 := hT.below (below2 w (.cells #[.int .i64 c, v] 36) (.cells #[.int .i64 c, v] 36))
  have hv : ∃ a cap, v = .slice a L.length cap := by
    rcases hT.slice with ⟨g, cap, rfl, _⟩ | ⟨rfl, rfl⟩
    · exact ⟨_, _, rfl⟩
    · exact ⟨_, _, rfl⟩
  obtain ⟨a, cap, rfl⟩ := hv
  obtain ⟨ab, capb, rfl, _⟩ := hB
  have HT := Lib.hid hT2
  have HH := Lib.hid h
  clear hT hT2 h
  go_enter Try.func23, Try.ntmps23
  go_wp2_with fail
  refine (refChunk _ _ _ _).mono ?_
  rintro e w' ⟨rfl, rfl⟩
  by_cases hc : isChunk bs.length = false
  · rw [hc]
    go_wp2_with fail
    exact bodyPost_ret (v := .tuple #[refV c (.slice a L.length cap), .int .i64 1]) (by simp [results, Try.results23, go_sem]) rfl ⟨_, rfl, HT.out, below2 w _ _⟩
  · have h0 : c = 0 := by rcases HH.out with h | h; exact absurd h hc; exact h
    have t0 : ((c : Int) == 0) = true := by simp [h0]
    have hct : isChunk bs.length = true := by simpa using hc
    rw [hct]
    clear hc hct h0
    go_wp2_with fail
    exact bodyPost_ret (v := .tuple #[refV c (.slice a L.length cap), .int .i64 1]) (by simp [results, Try.results23, go_sem]) rfl ⟨_, rfl, HT.out, below2 w _ _⟩

set_option maxRecDepth 100000 in
set_option maxHeartbeats 400000 in
theorem refPush_full (c : Nat) (v bv : Value) (L : Chunks) (bs : List UInt8) (w : World) (hT : IsTexts w v L) (hB : IsBytes w bv bs) (h1 : 1 ≤ bs.length) (h2 : bs.length ≤ 32) (h0 : c ≠ 0) (hl : c ≤ L.length) :
    Calls Try.prog 23 #[refV c v, bv] w (RefEnd w c L 2) := by
  have hT2 := hT.below (below2 w (.cells #[.int .i64 c, v] 36) (.cells #[.int .i64 c, v] 36))
  have hv : ∃ a cap, v = .slice a L.length cap := by
    rcases hT.slice with ⟨g, cap, rfl, _⟩ | ⟨rfl, rfl⟩
    · exact ⟨_, _, rfl⟩
    · exact ⟨_, _, rfl⟩
  obtain ⟨a, cap, rfl⟩ := hv
  obtain ⟨ab, capb, rfl, _⟩ := hB
  have HT := Lib.hid hT2
  have t0 : ((c : Int) == 0) = false := by simp [h0]
  have g4 : (c : Int) ≤ (L.length : Int) := by omega
  have hch : isChunk bs.length = true := by simp [isChunk]; omega
  clear hT hT2 h0
  go_enter Try.func23, Try.ntmps23
  go_wp2_with fail
  refine (refChunk _ _ _ _).mono ?_
  rintro e w' ⟨rfl, rfl⟩
  rw [hch]
  go_wp2_with fail
  exact bodyPost_ret (v := .tuple #[refV c (.slice a L.length cap), .int .i64 2]) (by simp [results, Try.results23, go_sem]) rfl ⟨_, rfl, HT.out, below2 w _ _⟩

/-- THE CONTRACT. -/
theorem refPush_any (c : Nat) (v bv : Value) (L : Chunks) (bs : List UInt8) (w : World) (hG : Good c L) (hT : IsTexts w v L) (hB : IsBytes w bv bs) :
    Calls Try.prog 23 #[refV c v, bv] w (RefEnd w c (pushL c L bs) (pushE c L bs)) := by
  unfold pushL pushE
  by_cases h : bs.length < 1 ∨ 32 < bs.length ∨ c = 0
  · rw [if_pos h, if_neg (by decide)]
    refine refPush_arg c v bv L bs w hT hB ?_
    by_cases h0 : c = 0
    · exact .inr h0
    · refine .inl ?_
      simp [isChunk]
      omega
  · rw [if_neg h]
    by_cases h4 : L.length = c
    · rw [if_pos h4, if_neg (by decide)]
      exact refPush_full c v bv L bs w hT hB (by omega) (by omega) (by omega) (by omega)
    · rw [if_neg h4, if_pos rfl]
      exact refPush_yes c v bv L bs w hG hT hB (by omega) (by omega) (by have := hG.len; omega)

end Go.Proofs.Ytgipgeeiibkjjaa
