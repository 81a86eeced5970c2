/- What stands does, of a ring and the document's ring of the same chunks: true. -/
import Derived.Test.YtgipgeeiibkjjaaRound
namespace Go.Proofs.Ytgipgeeiibkjjaa
open Go.RowKit Go.Shelf
attribute [local go_sem] Oper.semAt_some

/-- What is known while both are looked at. -/
structure Looked (w : World) (c : Nat) (L : Chunks) (v : Value) (W : World) : Prop where
  ring : W.heap[w.heap.size]? = some (.cells (ringA c L) 30 (0, 0))
  ref : W.heap[w.heap.size + 1]? = some (.cells #[.int .i64 c, v] 36 (0, 0))
  res : Boxed W (w.heap.size + 2) 4 (.bool false)
  txt : IsTexts W v L
  bel : Below w.heap.size w W
theorem Looked.below {w : World} {c : Nat} {L : Chunks} {v : Value} {W W' : World} (h : Looked w c L v W) (hb : Below W.heap.size W W') : Looked w c L v W' :=
  ⟨(hb.block _ (Array.getElem?_eq_some_iff.1 h.ring).1).trans h.ring, (hb.block _ (Array.getElem?_eq_some_iff.1 h.ref).1).trans h.ref, (hb.block _ h.res.lt).trans h.res, h.txt.below hb, h.bel.trans (hb.mono h.bel.size)⟩
theorem Looked.cell0 {w : World} {c : Nat} {L : Chunks} {v : Value} {W : World} (h : Looked w c L v W) : W.cell? ⟨w.heap.size + 1, 0, none⟩ = some (.int .i64 c) := by rw [cell_of_row _ _ _ _ _ _ h.ref]; rfl
theorem Looked.cell1 {w : World} {c : Nat} {L : Chunks} {v : Value} {W : World} (h : Looked w c L v W) : W.cell? ⟨w.heap.size + 1, 1, none⟩ = some v := by rw [cell_of_row _ _ _ _ _ _ h.ref]; rfl
theorem Looked.alloc {w : World} {c : Nat} {L : Chunks} {v : Value} {W : World} (h : Looked w c L v W) (o : Obj) : Looked w c L v (W.alloc o) := h.below ((Below.refl _ _).alloc (Nat.le_refl _) _)

theorem looked_stays {s : Nat} {w : World} {c : Nat} {L : Chunks} {v : Value} (h : w.heap.size ≤ s) : Stays s (Looked w c L v) := fun A B row hs hg hr =>
  ⟨stays_block s _ _ _ _ A B row hs.ring hg hr, stays_block s _ _ _ _ A B row hs.ref hg hr, stays_block s _ _ _ _ A B row hs.res hg hr, stays_owns s _ _ _ _ _ _ A B row hs.txt hg hr, stays_below s _ w h (Nat.le_refl _) A B row hs.bel hg hr⟩
/-- A store into a block that is none of these. -/
theorem Looked.wrote {w : World} {c : Nat} {L : Chunks} {v : Value} {W : World} (h : Looked w c L v W) {g j : Nat} {cs : Array Value} {t : TypeId} (hg : W.heap[g]? = some (.cells cs t (0, 0))) (ht : t ≠ 9) (hlow : w.heap.size ≤ g)
    (h0 : w.heap.size ≠ g) (h1 : w.heap.size + 1 ≠ g) (h2 : w.heap.size + 2 ≠ g) {u : Value} : Looked w c L v (W.setCell ⟨g, j, none⟩ u) := by
  refine ⟨(Below.heap_setCell _ _ _ _ h0).trans h.ring, (Below.heap_setCell _ _ _ _ h1).trans h.ref, (Below.heap_setCell _ _ _ _ h2).trans h.res, ?_, h.bel.setCell (p := ⟨g, j, none⟩) hlow _⟩
  obtain ⟨e1, e2⟩ := h.txt
  refine ⟨e1, ?_⟩
  rcases e2 with e2 | ⟨k, cap, cur, e3, e4, e5, e6⟩
  · exact .inl e2
  · refine .inr ⟨k, cap, cur, e3, e4, (Below.heap_setCell _ _ _ _ ?_).trans e5, e6⟩
    rintro rfl
    rw [hg] at e5
    cases e5
    exact ht rfl
/-- A row of bytes that may be written. -/
def RowU8 (W : World) (g len : Nat) : Prop := ∃ cur : Array Value, W.heap[g]? = some (.cells cur 5 (0, 0)) ∧ ∀ j, j < len → ∃ n : Int, cur[j]? = some (.int .u8 n)
theorem rowU8_of {W : World} {base : Nat} {v : Value} {b : List UInt8} (h : W.ownsRow base 5 1 v b.length (bytesL b)) (h1 : 1 ≤ b.length) : ∀ g cap, v = .slice (some ⟨g, 0, none⟩) b.length cap → RowU8 W g b.length := by
  intro g cap e
  have h' := h
  rcases h.2 with ⟨_, h0⟩ | ⟨g', cap', cur, rfl, _, h5, _⟩
  · omega
  · cases e
    refine ⟨cur, h5, fun j hj => ⟨b[j].toNat, ?_⟩⟩
    have := World.ownsRow.cells h' (g := g) rfl j (.int .u8 b[j].toNat) (by simp [bytesL, hj])
    rwa [Addr.add_mid, Nat.zero_add, cell_of_row _ _ _ _ _ _ h5] at this
theorem RowU8.set {W : World} {g len j : Nat} (h : RowU8 W g len) (m : Int) : RowU8 (W.setCell ⟨g, j, none⟩ (.int .u8 m)) g len := by
  obtain ⟨cur, h1, h2⟩ := h
  refine ⟨cur.setIfInBounds j (.int .u8 m), heap_setCell_same W g j cur 5 _ h1, fun i hi => ?_⟩
  obtain ⟨n, hn⟩ := h2 i hi
  by_cases hij : j = i
  · subst hij
    have hlt : j < cur.size := (Array.getElem?_eq_some_iff.1 hn).1
    exact ⟨m, by simp [hlt]⟩
  · exact ⟨n, by rw [Array.getElem?_setIfInBounds_ne hij]; exact hn⟩
theorem RowU8.other {W : World} {g len B : Nat} (h : RowU8 W g len) {cs : Array Value} {t : TypeId} {fr : Nat × Nat} (hB : W.heap[B]? = some (.cells cs t fr)) (ht : t ≠ 5) : B ≠ g := by
  rintro rfl
  obtain ⟨cur, h1, _⟩ := h
  rw [hB] at h1
  cases h1
  exact ht rfl

set_option maxRecDepth 100000 in
set_option maxHeartbeats 8000000 in
theorem stands_true (c : Nat) (L : Chunks) (v : Value) (w : World) (hG : Good c L) (hT : IsTexts w v L) : Calls Try.prog 10 #[.agg (ringA c L), refV c v] w (TrueBelow w) := by
  refine (callsIn_wide (n := 3)).1 ?_
  have hnil := run_eql_func_nil
  have hl8 : L.length ≤ 8 := Nat.le_trans hG.len hG.cap
  have hb3 : Below w.heap.size w (((w.alloc (.cells (ringA c L) 30)).alloc (.cells #[.int .i64 c, v] 36)).alloc (.cells #[.bool false] 4)) := (((Below.refl _ _).alloc (Nat.le_refl _) _).alloc (by simp) _).alloc (by simp; omega) _
  have hK : Looked w c L v (((w.alloc (.cells (ringA c L) 30)).alloc (.cells #[.int .i64 c, v] 36)).alloc (.cells #[.bool false] 4)) :=
    ⟨heap_first3 w _ _ _, heap_second3 w _ _ _, heap_at (by simp), hT.below hb3, hb3⟩
  have hv : ∃ a cap, v = .slice a L.length cap := by
    rcases hT.slice with ⟨g, cap, rfl, _⟩ | ⟨rfl, rfl⟩
    · exact ⟨_, _, rfl⟩
    · exact ⟨_, _, rfl⟩
  obtain ⟨a, cap, rfl⟩ := hv
  have HK := Lib.hid hK
  clear hK hT hb3
  refine callsIn_of_wp_marks Try.func10 rfl trivial ?_ rfl
  simp only [Try.ntmps10, List.size_toArray, List.length_cons, List.length_nil, Nat.reduceAdd, Nat.reduceSub, Array.replicate_succ, Array.replicate_zero, List.push_toArray, List.append_toArray, List.nil_append, List.cons_append]
  gi_wp2_with fail
  have hS0 := HK.out
  clear HK
  generalize (((w.alloc (.cells (ringA c L) 30)).alloc (.cells #[.int .i64 c, .slice a L.length cap] 36)).alloc (.cells #[.bool false] 4)) = W1 at hS0 ⊢
  refine wpIn_wide.2 ?_
  refine wp_region_noPanic ?_
  refine wp_region_held (S := Looked w c L (.slice a L.length cap)) (by kernel_rfl) ?_
  change wpAnyH _ _ _ _ _ _ _ _ W1.drew
  have hS := hS0.below (Below.drew (Below.refl _ _))
  clear hS0
  generalize W1.drew = W2 at hS ⊢
  have nl : ((L.length : Int) != (L.length : Int)) = false := by simp
  have nc : ((c : Int) != (c : Int)) = false := by simp
  have ns : ((sizeOfL L : Int) != (sizeOfL L : Int)) = false := by simp
  refine take_now (i := 0) ((.agg (ringA c L))) rfl (by kernel_rfl) (by kernel_rfl) (by kernel_rfl) rfl (fun W h => run_load30 hG rfl rfl h.ring) hS ?_
  simp only [Act.put]
  refine one_now (i := 1) rfl (by kernel_rfl) rfl ?_
  have HS := Lib.hid hS
  clear hS
  go_wp2_with fail
  refine (all_any c L _).mono ?_
  rintro e w' ⟨rfl, rfl⟩
  have hS := HS.out.alloc (.cells (ringA c L) 30)
  clear HS
  obtain ⟨x2, hx2⟩ : ∃ x2, x2 = W2.heap.size := ⟨_, rfl⟩
  rw [← hx2]
  clear hx2
  generalize W2.alloc (.cells (ringA c L) 30) = W3 at hS ⊢
  refine ⟨hS, ?_⟩
  refine take_now (i := 2) (.bool false) rfl (by kernel_rfl) (by kernel_rfl) (by kernel_rfl) rfl (fun _ _ => by go_simp) hS ?_
  simp only [Act.put]
  refine take_now (i := 3) (.bool false) rfl (by kernel_rfl) (by kernel_rfl) (by kernel_rfl) rfl (fun _ _ => rfl) hS ?_
  simp only [Act.put]
  refine take_now (i := 4) ((.agg (ringA c L))) rfl (by kernel_rfl) (by kernel_rfl) (by kernel_rfl) rfl (fun W h => run_load30 hG rfl rfl h.ring) hS ?_
  simp only [Act.put]
  refine take_now (i := 6) (.pointer (some ⟨w.heap.size + 1, 1, none⟩)) rfl (by kernel_rfl) (by kernel_rfl) (by kernel_rfl) rfl (fun _ _ => by go_simp) hS ?_
  simp only [Act.put]
  refine take_now (i := 7) (.slice a L.length cap) rfl (by kernel_rfl) (by kernel_rfl) (by kernel_rfl) rfl (fun W h => by have hc := h.cell1; go_simp) hS ?_
  simp only [Act.put]
  refine take_now (i := 8) (.int .i64 L.length) rfl (by kernel_rfl) (by kernel_rfl) (by kernel_rfl) rfl (fun _ _ => by go_simp) hS ?_
  simp only [Act.put]
  refine one_now (i := 5) rfl (by kernel_rfl) rfl ?_
  have HS := Lib.hid hS
  clear hS
  go_wp2_with fail
  refine (len_any c L _).mono ?_
  rintro e w' ⟨rfl, rfl⟩
  have hS := HS.out.alloc (.cells (ringA c L) 30)
  clear HS
  generalize W3.alloc (.cells (ringA c L) 30) = W4 at hS ⊢
  refine ⟨hS, ?_⟩
  refine take_now (i := 9) (.bool false) rfl (by kernel_rfl) (by kernel_rfl) (by kernel_rfl) rfl (fun _ _ => by go_simp) hS ?_
  simp only [Act.put]
  refine take_now (i := 10) (.bool false) rfl (by kernel_rfl) (by kernel_rfl) (by kernel_rfl) rfl (fun _ _ => by go_simp) hS ?_
  simp only [Act.put]
  refine take_now (i := 11) (.bool false) rfl (by kernel_rfl) (by kernel_rfl) (by kernel_rfl) rfl (fun _ _ => rfl) hS ?_
  simp only [Act.put]
  refine take_now (i := 12) ((.agg (ringA c L))) rfl (by kernel_rfl) (by kernel_rfl) (by kernel_rfl) rfl (fun W h => run_load30 hG rfl rfl h.ring) hS ?_
  simp only [Act.put]
  refine take_now (i := 14) (.pointer (some ⟨w.heap.size + 1, 0, none⟩)) rfl (by kernel_rfl) (by kernel_rfl) (by kernel_rfl) rfl (fun _ _ => by go_simp) hS ?_
  simp only [Act.put]
  refine take_now (i := 15) (.int .i64 c) rfl (by kernel_rfl) (by kernel_rfl) (by kernel_rfl) rfl (fun W h => by have hc := h.cell0; go_simp) hS ?_
  simp only [Act.put]
  refine one_now (i := 13) rfl (by kernel_rfl) rfl ?_
  have HS := Lib.hid hS
  clear hS
  go_wp2_with fail
  refine (cap_any c L _).mono ?_
  rintro e w' ⟨rfl, rfl⟩
  have hS := HS.out.alloc (.cells (ringA c L) 30)
  clear HS
  generalize W4.alloc (.cells (ringA c L) 30) = W5 at hS ⊢
  refine ⟨hS, ?_⟩
  refine take_now (i := 16) (.bool false) rfl (by kernel_rfl) (by kernel_rfl) (by kernel_rfl) rfl (fun _ _ => by go_simp) hS ?_
  simp only [Act.put]
  refine take_now (i := 17) (.bool false) rfl (by kernel_rfl) (by kernel_rfl) (by kernel_rfl) rfl (fun _ _ => by go_simp) hS ?_
  simp only [Act.put]
  refine take_now (i := 18) (.bool false) rfl (by kernel_rfl) (by kernel_rfl) (by kernel_rfl) rfl (fun _ _ => rfl) hS ?_
  simp only [Act.put]
  refine take_now (i := 19) ((.agg (ringA c L))) rfl (by kernel_rfl) (by kernel_rfl) (by kernel_rfl) rfl (fun W h => run_load30 hG rfl rfl h.ring) hS ?_
  simp only [Act.put]
  refine take_now (i := 21) (refV c (.slice a L.length cap)) rfl (by kernel_rfl) (by kernel_rfl) (by kernel_rfl) rfl (fun W h => by have hc := h.cell0; have hd := h.cell1; go_simp) hS ?_
  simp only [Act.put]
  refine one_now (i := 20) rfl (by kernel_rfl) rfl ?_
  have HS := Lib.hid hS
  clear hS
  go_wp2_with fail
  refine (bytes_any c L _ hG).mono ?_
  rintro e W6 ⟨rfl, hb⟩
  have hS := HS.out.below hb
  clear HS hb
  refine ⟨hS, ?_⟩
  refine one_now (i := 22) rfl (by kernel_rfl) rfl ?_
  have HS := Lib.hid hS
  clear hS
  go_wp2_with fail
  refine (refBytes c _ L _ hG HS.out.txt).mono ?_
  rintro e W7 ⟨rfl, hb⟩
  have hS := HS.out.below hb
  clear HS hb
  refine ⟨hS, ?_⟩
  refine take_now (i := 23) (.bool false) rfl (by kernel_rfl) (by kernel_rfl) (by kernel_rfl) rfl (fun _ _ => by go_simp) hS ?_
  simp only [Act.put]
  refine take_now (i := 24) (.bool false) rfl (by kernel_rfl) (by kernel_rfl) (by kernel_rfl) rfl (fun _ _ => by go_simp) hS ?_
  simp only [Act.put]
  refine wpAnyH_done (by kernel_rfl) (NoPanic.normal ?_) _
  have HS := Lib.hid hS
  clear hS nl nc ns
  have E8 := Lib.hid (HS.out.alloc (.cells #[.int .i64 0] 3)).ring
  have E9 := Lib.hid ((HS.out.alloc (.cells #[.int .i64 0] 3)).alloc (.cells (ringA c L) 30)).ring
  gi_wp2_with ((with_reducible refine wpListIn_load_row rfl 30 (.tmp 2) rfl w.heap.size rfl 30 (ringA c L) (0, 0) _ E8.out Try.underlying30 rfl (by rw [Try.size30, size_ringA hG]) ?_))
  refine ⟨trivial, (callsIn_wide.2 (all_any c L _)).mono ?_⟩
  rintro e w' ⟨rfl, rfl⟩
  gi_wp2_with ((with_reducible refine wpListIn_load_row rfl 30 (.tmp 2) rfl w.heap.size rfl 30 (ringA c L) (0, 0) _ E9.out Try.underlying30 rfl (by rw [Try.size30, size_ringA hG]) ?_))
  refine ⟨trivial, (callsIn_wide.2 (all_any c L _)).mono ?_⟩
  rintro e w' ⟨rfl, rfl⟩
  gi_wp2_with fail
  obtain ⟨W0, hW0⟩ : ∃ W0, W0 = (((W7.alloc (.cells #[.int .i64 0] 3)).alloc (.cells (ringA c L) 30)).alloc (.cells (ringA c L) 30)) := ⟨_, rfl⟩
  have hs0 : W0.heap.size = W7.heap.size + 3 := by rw [hW0]; simp
  have hbx : Boxed W0 W7.heap.size 3 (.int .i64 0) := by
    rw [hW0]
    exact ((Boxed.new W7 3 (.int .i64 0)).alloc _).alloc _
  have hrg : W0.heap[W7.heap.size + 1 + 1]? = some (.cells (ringA c L) 30 (0, 0)) := by rw [hW0]; exact heap_at (by simp)
  have hLk : Looked w c L (.slice a L.length cap) W0 := by rw [hW0]; exact ((HS.out.alloc _).alloc _).alloc _
  have hw7 : w.heap.size + 2 < W7.heap.size := HS.out.res.lt
  rw [← hW0]
  clear E8 E9 hW0 HS hnil
  refine range_ring hG (Br := W7.heap.size + 1 + 1) rfl rfl
    (fun k W => Boxed W W7.heap.size 3 (.int .i64 k) ∧ W.heap[W7.heap.size + 1 + 1]? = some (.cells (ringA c L) 30 (0, 0)) ∧ Looked w c L (.slice a L.length cap) W)
    (fun _ _ => False) (fun k => (stays_block _ _ _ _ _).and ((stays_block _ _ _ _ _).and (looked_stays (by omega)))) (fun _ => stays_pure _ _)
    ⟨hbx, hrg, hLk⟩ (fun k W h => h.2.1)
    (fun k x => { tmps := #[Value.agg (ringA c L), refV (↑c) (Value.slice a (List.length L) cap),
          Value.pointer (some { block := w.heap.size, off := 0 }),
          Value.pointer (some { block := w.heap.size + 1, off := 0 }),
          Value.pointer (some { block := w.heap.size + 1 + 1, off := 0 }),
          Value.pointer (some { block := W7.heap.size, off := 0 }), .int .i64 k, x, undef, Value.agg (ringA c L),
          Value.func (Fn.func 28) #[] #[Value.pointer (some { block := x2, off := 0 })], Value.bool false,
          Value.bool false, Value.agg (ringA c L), Value.int IntKind.i64 ↑(List.length L),
          Value.pointer (some { block := w.heap.size + 1, off := 1 }), Value.slice a (List.length L) cap,
          Value.int IntKind.i64 ↑(List.length L), Value.bool false, Value.bool false, Value.bool false,
          Value.agg (ringA c L), Value.int IntKind.i64 ↑c, Value.pointer (some { block := w.heap.size + 1, off := 0 }),
          Value.int IntKind.i64 ↑c, Value.bool false, Value.bool false, Value.bool false, Value.agg (ringA c L),
          Value.int IntKind.i64 ↑(sizeOfL L), refV (↑c) (Value.slice a (List.length L) cap),
          Value.int IntKind.i64 ↑(sizeOfL L), Value.bool false, Value.bool false, Value.agg (ringA c L),
          Value.func (Fn.func 28) #[] #[Value.pointer (some { block := W7.heap.size + 1, off := 0 })], Value.bool false,
          Value.agg (ringA c L),
          Value.func (Fn.func 28) #[] #[Value.pointer (some { block := W7.heap.size + 1 + 1, off := 0 })], .int .i64 k, x, undef, undef, undef, undef, undef, undef, undef, undef, undef, undef, undef, undef, undef, undef, undef, undef, undef, undef, undef, undef, undef, undef, undef, undef, undef, undef, undef, undef, undef, undef, undef, undef, undef, undef, undef, undef, undef, undef, undef], defers := [] }) ?assign ?body ?done ?stop
  case assign =>
    intro l k v W K hK
    gi_wp2
    exact hK
  case body =>
    rintro l k b vb W hk ⟨hn, hrg1, hlk⟩ ho
    have hkL : k < L.length := (List.getElem?_eq_some_iff.1 hk).1
    have hb1 := (hG.each b (List.mem_of_getElem? hk)).1
    have hb32 := hG.le b (List.mem_of_getElem? hk)
    have hU := rowU8_of ho hb1
    have hgo := ho.lt
    obtain ⟨g, capb, rfl, hcells⟩ := owns_cells ho hb1
    have hU := hU g capb rfl
    have hgw : w.heap.size ≤ g := by have := (hgo g rfl).1; omega
    clear hgo hs0
    rcases hlk.txt.slice with ⟨g2, cap2, e2, _, hc2⟩ | ⟨_, h0⟩
    case inr => rw [h0] at hkL; simp at hkL
    cases e2
    have hck := hc2 k b hk
    have hkd : KeepsFrom W0.heap.size W W.drew := ⟨Nat.le_refl _, fun _ _ _ h _ => h⟩
    have hbd : Below W.heap.size W W.drew := (Below.refl _ _).drew
    have hconv := run_convert_bytes_back (P := Try.prog) W.drew 42 9 5 ⟨g, 0, none⟩ capb b Try.underlying42 Try.underlying5 Try.underlying9 hcells
    obtain ⟨St, hSt⟩ : ∃ St : ByteArray, St = ⟨b.toArray⟩ := ⟨_, rfl⟩
    rw [← hSt] at hconv
    rw [strV, ← hSt] at hck
    have hn2 : Boxed W.drew W7.heap.size 3 (.int .i64 k) := hn
    have hrg2 : W.drew.heap[W7.heap.size + 1 + 1]? = some (.cells (ringA c L) 30 (0, 0)) := hrg1
    have hlk2 := hlk.below hbd
    have hU2 : RowU8 W.drew g b.length := hU
    have hck2 : W.drew.cell? ⟨g2, k, none⟩ = some (.string St) := hck
    have hcn := hn2.cell
    have hcv := hlk2.cell1
    have HN := Lib.hid hn2
    have HR := Lib.hid hrg2
    have HL := Lib.hid hlk2
    have HU := Lib.hid hU2
    have nk : ((k : Int) != (k : Int)) = false := by simp
    have gk : ¬ (L.length : Int) ≤ (k : Int) := by omega
    have gk0 : (0 : Int) ≤ (k : Int) := by omega
    have gk1 : (k : Int) < (L.length : Int) := by omega
    clear hSt hk hcells hc2 hck ho hbx hrg hLk hn hrg1 hlk hU hn2 hrg2 hlk2 hU2 hbd
    gi_wp2_with fail
    refine region_still_in (by kernel_rfl) (by kernel_rfl) (by kernel_rfl) ?_
    change wpStill _ _ W.drew _ _ _
    repeat still_step
    refine wpStill_nil ?_
    clear hconv hck2 hcv nk gk gk0 gk1
    gi_wp2_with fail
    have hbl : b.length ≤ 32 := hb32
    gi_loopw [8] (fun i wr => ∃ j : Nat, j ≤ b.length ∧ i = .int .i64 j ∧ RowU8 wr g b.length ∧ Boxed wr W7.heap.size 3 (.int .i64 k) ∧ wr.heap[W7.heap.size + 1 + 1]? = some (.cells (ringA c L) 30 (0, 0)) ∧ Looked w c L (.slice (some ⟨g2, 0, none⟩) L.length cap) wr ∧ KeepsFrom W0.heap.size W wr) (fun i _ => b.length - (intOf i).toNat)
    case atStart => exact ⟨0, Nat.zero_le _, rfl, HU.out, HN.out, HR.out, HL.out, hkd⟩
    case round =>
      clear HU HN HR HL hkd hcn
      obtain ⟨j, hj, rfl, hU, hn, hrg, hlk, hkd⟩ := hrel
      by_cases hlt : j < b.length
      · have hgX := hU.other hn (by decide)
        have hgR := hU.other hrg (by decide)
        have hg0 := hU.other hlk.ring (by decide)
        have hg1 := hU.other hlk.ref (by decide)
        have hg2 := hU.other hlk.res (by decide)
        have hlow : w.heap.size ≤ g := hgw
        obtain ⟨cur, hcur, hcj⟩ := id hU
        obtain ⟨m, hm⟩ := hcj j hlt
        have hcell : wr.cell? ⟨g, j, none⟩ = some (.int .u8 m) := (cell_of_row _ _ _ _ _ _ hcur).trans hm
        have hfro := frozen_of_row wr g j _ _ hcur
        have j0 : (0 : Int) ≤ (j : Int) := by omega
        have j1 : (j : Int) < (b.length : Int) := by omega
        have HU := Lib.hid hU
        have HN := Lib.hid hn
        have HR := Lib.hid hrg
        have HL := Lib.hid hlk
        have HC := Lib.hid hcur
        clear hU hn hrg hlk hcur hcj hm
        gi_wp2
        go_roundw
        case rel => exact ⟨j + 1, by omega, by go_num, HU.out.set _, (Below.heap_setCell _ _ _ _ hgX).trans HN.out, (Below.heap_setCell _ _ _ _ hgR).trans HR.out, HL.out.wrote HC.out (by decide) hlow hg0 hg1 hg2, hkd.trans ((KeepsOthers.setCell _ _ _).from _)⟩
        case measure => simp [intOf]; omega
      · have j1 : ¬ (j : Int) < (b.length : Int) := by omega
        have hcn := hn.cell
        have hfn := hn.frozen
        have hXR : W7.heap.size + 1 + 1 ≠ W7.heap.size := by omega
        have HN := Lib.hid hn
        have HR := Lib.hid hrg
        have HL := Lib.hid hlk
        have hk8 : k ≤ 8 := by omega
        clear hn hrg hlk hU hlt
        gi_wp2
        refine ⟨hkd.trans ((KeepsOthers.setCell _ _ _).from _), ?_, ?_, ?_⟩
        · have := HN.out.set (.int .i64 ((k : Int) + 1))
          simpa using this
        · exact (Below.heap_setCell _ _ _ _ hXR).trans HR.out
        · exact HL.out.wrote HN.out (by decide) (by omega) (by omega) (by omega) (by omega)
  case done =>
    rintro D W hD ⟨hn, _, hlk⟩ hK
    have hcn := hn.cell
    have hcv := hlk.cell1
    have hcr := hlk.res.cell
    have hfr := hlk.res.frozen
    have nl : ((L.length : Int) == (L.length : Int)) = true := by simp
    have HL := Lib.hid hlk
    clear hlk hn
    gi_wp2
    have hK' := (KeepsOthers.setCell W ⟨w.heap.size + 1 + 1, 0, none⟩ (.bool true)).same D _ hK rfl
    refine ⟨by simp, .inl ⟨_, _, rfl, run_takeDeferred hK', ?_⟩⟩
    have hc5 := cell_kept (World.cell?_setCell_same' W ⟨w.heap.size + 1 + 1, 0, none⟩ (.bool true) (by rw [hcr]; rfl)) (grownBy_putObj' _ D (.deferred none)) (fun r e => by cases e; exact ⟨_, hK', rfl⟩)
    refine ⟨.bool true, ?_, rfl, ?_⟩
    · simp [results, Try.f10, go_sem, hc5]
    · exact (HL.out.bel.setCell (p := ⟨w.heap.size + 1 + 1, 0, none⟩) (by simp; omega) _).trans (belowK_b (w := w) (Nat.le_refl _) _ D _ _ (by omega) hK' rfl rfl)
  case stop =>
    rintro D x W _ h _
    exact h.elim

end Go.Proofs.Ytgipgeeiibkjjaa
