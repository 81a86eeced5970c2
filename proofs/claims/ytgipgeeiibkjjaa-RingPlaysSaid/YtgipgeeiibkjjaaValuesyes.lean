/- RingValues: the walk where the ring is made. -/
import Derived.Test.YtgipgeeiibkjjaaValues
namespace Go.Proofs.Ytgipgeeiibkjjaa
open Go.RowKit

theorem IsCalls.parts {w : World} {v : Value} {l : List Call} (h : IsCalls w v l) : ∃ a cap, v = .slice a l.length cap ∧ (l ≠ [] → ∃ b off, a = some ⟨b, off, none⟩ ∧ CallsAt w b off l) := by
  rcases h with ⟨rfl, a, cap, rfl⟩ | ⟨b, off, cap, rfl, hc⟩
  · exact ⟨a, cap, rfl, fun h => absurd rfl h⟩
  · exact ⟨_, cap, rfl, fun _ => ⟨b, off, rfl, hc⟩⟩

/-- A block is a variable that holds a ring that may be. -/
def HoldsRing (W : World) (B : Nat) : Prop := ∃ c L, Good c L ∧ W.heap[B]? = some (.cells (ringA c L) 30 (0, 0))

/-- A whole load, in a region's part that only reads. -/
theorem wpStill_load_row {P : Program} {ops : Array Oper} {w : World} {Q : Act → Prop} {a : Act} {o : Oper} {rest : List Oper} (hgd : o.guard = none) (ty : TypeId) (x : Operand) (ho : o.op = .load ty x)
    (g : Nat) (hx : a.eval x = .pointer (some ⟨g, 0, none⟩)) (t : TypeId) (cs : Array Value) (fr : Nat × Nat) (d : TypeDesc) (hg : w.heap[g]? = some (.cells cs t fr))
    (hu : P.underlying ty = some d) (hd : (match d with | .struct _ | .array _ _ => true | _ => false) = true) (hi : (P.info? ty).map (·.size) = some cs.size)
    (h : wpStill P ops w Q rest (a.put o.dst (.agg cs))) : wpStill P ops w Q (o :: rest) a := by
  refine wpStill_step fun K hK => ?_
  simp only [Region.wanted, hgd, if_true]
  unfold Oper.still execOp
  simp only [ho, hx, Instr.loadAt, Instr.sureAddr, Sem.run_bind, Sem.run_pure, Result.andThen_ok, run_loadVar_row w g t ty cs fr d hg hu hd hi]
  exact ⟨rfl, hK _ h⟩

/-- A whole load, in a region that draws its order, in every world in which the block is known. -/
theorem yieldsIf_load_row {P : Program} {ops : Array Oper} {S : World → Prop} {o : Oper} {a : Act} (hgd : o.guard = none) (ty : TypeId) (x : Operand) (ho : o.op = .load ty x)
    (g : Nat) (hx : a.eval x = .pointer (some ⟨g, 0, none⟩)) (t : TypeId) (cs : Array Value) (fr : Nat × Nat) (d : TypeDesc) (hS : ∀ w, S w → w.heap[g]? = some (.cells cs t fr))
    (hu : P.underlying ty = some d) (hd : (match d with | .struct _ | .array _ _ => true | _ => false) = true) (hi : (P.info? ty).map (·.size) = some cs.size) : YieldsIf P ops S o (.agg cs) a :=
  .inl ⟨by simp [Region.wanted, hgd], fun w hw => by
    unfold execOp
    simp only [ho, hx, Instr.loadAt, Instr.sureAddr, Sem.run_bind, Sem.run_pure, Result.andThen_ok, run_loadVar_row w g t ty cs fr d (hS w hw) hu hd hi]⟩

theorem wpOp_at {P : Program} {ops : Array Oper} {Q : Exit → Act → World → Prop} {i : Nat} {o : Oper} {K : Act → World → Prop} {a : Act} {w : World} (hi : ops[i]? = some o) (hgd : o.guard = none) (h : o.wp P a w K Q) : wpOp P ops Q i K a w := by
  unfold wpOp
  simp only [hi, Region.wanted, hgd, if_true]
  exact .inl h

theorem owns_setRow_type {W : World} {base : Nat} {e : TypeId} {size : Nat} {v : Value} {n : Nat} {xs : List Value} (h : W.ownsRow base e size v n xs) {g : Nat} {cs : Array Value} {t : TypeId} {fr : Nat × Nat} (hg : W.heap[g]? = some (.cells cs t fr)) (hte : t ≠ e) (new : Array Value) : (W.setRow g new).ownsRow base e size v n xs := by
  obtain ⟨h1, h2⟩ := h
  refine ⟨h1, ?_⟩
  rcases h2 with h2 | ⟨k, cap, cur, h3, h4, h5, h6⟩
  · exact .inl h2
  · have hne : k ≠ g := by
      rintro rfl
      rw [hg] at h5
      cases h5
      exact hte rfl
    exact .inr ⟨k, cap, cur, h3, h4, (setRow_other _ _ _ _ hne).trans h5, h6⟩

theorem map_strV (L : Chunks) : (L.map fun b => (⟨b.toArray⟩ : ByteArray)).map Value.string = L.map strV := by
  rw [List.map_map]
  rfl

/-- What stands behind 'was, cap, s := told(r), r.Cap(), r'. -/
def Both (w : World) (c : Nat) (L : Chunks) (x y z : Value) (W : World) : Prop :=
  ∃ Bs, y = .int .i64 c ∧ z = .pointer (some ⟨Bs, 0, none⟩) ∧ w.heap.size ≤ Bs ∧ Bs ≠ w.heap.size + 1 ∧ W.ownsRow w.heap.size 9 1 x L.length (L.map strV) ∧
    W.heap[Bs]? = some (.cells (ringA c L) 30 (0, 0)) ∧ W.heap[w.heap.size + 1]? = some (.cells (ringA c L) 30 (0, 0)) ∧ Below w.heap.size w W

set_option maxRecDepth 100000 in
set_option maxHeartbeats 1600000 in
theorem values_yes (c : Nat) (va vb : Value) (la lb : List Call) (w : World) (h1 : 1 ≤ c) (h8 : c ≤ 8) (hA : IsCalls w va la) (hB : IsCalls w vb lb) (sA : Sized la) (sB : Sized lb) :
    Calls Try.prog 5 #[.int .i64 c, va, vb] w (TrueBelow w) := by
  have hz := Try.zero30
  have hG := good_empty h8
  have HA0 := Lib.hid hA.parts
  have HB0 := Lib.hid hB.parts
  have HA := Lib.hid (hA.below (below2 w (.cells (ringA c []) 30) (.cells (ringA c []) 30)))
  have HB := Lib.hid (hB.below (below2 w (.cells (ringA c []) 30) (.cells (ringA c []) 30)))
  clear hA hB
  go_enter Try.func5, Try.ntmps5
  go_wp2_with fail
  refine (new_ok c _ h1 h8).mono ?_
  rintro e w' ⟨rfl, rfl⟩
  go_wp2_with (with_reducible refine wpList_store_at rfl 30 (.tmp 7) (.tmp 17) rfl (ringA c []) (ringA 0 []) 30 (w.heap.size + 1) (by simp) rfl rfl 266 Try.size30 (size_ringA hG) size_zero (one_ringA _ _) ?_)
  refine (few_any va la _ HA.out sA.len sA.each).mono ?_
  rintro e w' ⟨b1, rfl, hs1, rfl⟩
  cases b1
  · go_wp2_with fail
    refine (awake_true _).mono ?_
    rintro e w' ⟨rfl, hb⟩
    go_wp2_with fail
    go_ret
    exact ⟨rfl, (below2 w _ _).trans (hb.mono (by simp; omega))⟩
  have hS1 := hs1 rfl
  clear hs1
  go_wp2_with fail
  refine (few_any vb lb _ HB.out sB.len sB.each).mono ?_
  rintro e w' ⟨b2, rfl, hs2, rfl⟩
  cases b2
  · go_wp2_with fail
    refine (awake_true _).mono ?_
    rintro e w' ⟨rfl, hb⟩
    go_wp2_with fail
    go_ret
    exact ⟨rfl, (below2 w _ _).trans (hb.mono (by simp; omega))⟩
  have hS2 := hs2 rfl
  clear hs2 HA HB
  have hRing : HoldsRing ((w.alloc (.cells (ringA c []) 30)).alloc (.cells (ringA c []) 30)) (w.heap.size + 1) := ⟨c, [], hG, heap_alloc2_new w _ _⟩
  have hBel := below2 w (.cells (ringA c []) 30) (.cells (ringA c []) 30)
  generalize (w.alloc (.cells (ringA c []) 30)).alloc (.cells (ringA c []) 30) = W1 at hRing hBel ⊢
  obtain ⟨aa, capa, rfl, hCA⟩ := HA0.out
  obtain ⟨ab, capb, rfl, hCB⟩ := HB0.out
  have HCA := Lib.hid hCA
  have HCB := Lib.hid hCB
  clear HA0 HB0 hCA hCB
  have hlA := hS1.1
  have hlB := hS2.1
  go_wp2_with fail
  go_loopw [9] (fun i wr => ∃ k : Nat, k ≤ la.length ∧ i = .int .i64 k ∧ HoldsRing wr (w.heap.size + 1) ∧ Below w.heap.size w wr) (fun i _ => la.length - (intOf i).toNat)
  case atStart => exact ⟨0, Nat.zero_le _, rfl, hRing, hBel⟩
  case round =>
    clear hRing hBel
    obtain ⟨k, hk, rfl, ⟨c1, L1, hG1, hR1⟩, hB1⟩ := hrel
    by_cases hlt : k < la.length
    · obtain ⟨x, hx⟩ : ∃ x, la[k]? = some x := ⟨la[k], by simp [hlt]⟩
      obtain ⟨b, off, rfl, hca⟩ := HCA.out (by rintro rfl; simp at hlt)
      obtain ⟨bv, hc1, hc2, hbv⟩ := hca.below hB1 k x hx
      have g1 : (0 : Int) ≤ (k : Int) := by omega
      have g2 : (k : Int) < (la.length : Int) := by omega
      have HR1 := Lib.hid hR1
      obtain ⟨a3, c3, rfl⟩ := hbv.slice
      have HBV := Lib.hid hbv
      clear hR1 hca hx hbv
      go_wp2_with fail
      refine wp_region_still_tail 5 (by kernel_rfl) (by kernel_rfl) ?_
      simp only [List.take_succ_cons, List.take_zero, List.drop_succ_cons, List.drop_zero]
      refine wpStill_load_row rfl 30 (.tmp 7) rfl (w.heap.size + 1) rfl 30 (ringA c1 L1) (0, 0) _ HR1.out Try.underlying30 rfl (by rw [Try.size30, size_ringA hG1]) ?_
      repeat still_step
      refine wpStill_nil ?_
      change wpList _ _ _ _ _ wr.drew
      go_wp2_with fail
      refine (after_any c1 L1 x.op _ x.bytes _ hG1 (HBV.out.below (Below.drew (Below.refl _ _)))).mono ?_
      rintro e w4 ⟨c2, L2, rfl, hG2, hb4⟩
      obtain ⟨hx4, hB4⟩ := step_ring0 (W := wr.drew) HR1.out hB1.drew (Nat.le_succ _) hb4
      have HX4 := Lib.hid hx4
      clear hx4 hb4 HBV hc1 hc2 HR1
      go_wp2_with (with_reducible refine wpList_store_row rfl 30 (.tmp 7) (.tmp 51) rfl (w.heap.size + 1) (ringA c2 L2) rfl rfl 30 (ringA c1 L1) HX4.out (by rw [Try.size30, size_ringA hG2]) (by rw [size_ringA hG1, size_ringA hG2]) (one_ringA _ _) ?_)
      go_roundw
      case rel => exact ⟨k + 1, by omega, by go_num, ⟨c2, L2, hG2, setRow_heap _ _ _ _ 30 _ HX4.out⟩, below_setRow hB4 (Nat.le_succ _) _⟩
      case measure => simp [intOf]; omega
    · have g2 : ¬ (k : Int) < (la.length : Int) := by omega
      clear hlt HCA
      have HR1 := Lib.hid hR1
      clear hR1
      go_upto_region 8 with (fail)
      go_cut [10, 11, 12] (fun x y z W => Both w c1 L1 x y z W)
      case first =>
        refine wp_region_noPanic ?_
        refine wp_region_held (S := fun W => W.heap[w.heap.size + 1]? = some (.cells (ringA c1 L1) 30 (0, 0)) ∧ Below w.heap.size w W) (by kernel_rfl) ?_
        refine wpAnyH_take (i := 0) (v := .agg (ringA c1 L1)) rfl (by kernel_rfl) (by kernel_rfl) (by kernel_rfl) (fun _ _ _ h => h) (yieldsIf_load_row rfl 30 (.tmp 7) rfl (w.heap.size + 1) rfl 30 _ (0, 0) _ (fun W h => h.1) Try.underlying30 rfl (by rw [Try.size30, size_ringA hG1])) ⟨HR1.out, hB1.drew⟩ ?_
        refine wpAnyH_take (i := 2) (v := .agg (ringA c1 L1)) rfl (by kernel_rfl) (by kernel_rfl) (by kernel_rfl) (fun _ _ _ h => h) (yieldsIf_load_row rfl 30 (.tmp 7) rfl (w.heap.size + 1) rfl 30 _ (0, 0) _ (fun W h => h.1) Try.underlying30 rfl (by rw [Try.size30, size_ringA hG1])) ⟨HR1.out, hB1.drew⟩ ?_
        refine wpAnyH_take (i := 4) (v := .agg (ringA c1 L1)) rfl (by kernel_rfl) (by kernel_rfl) (by kernel_rfl) (fun _ _ _ h => h) (yieldsIf_load_row rfl 30 (.tmp 7) rfl (w.heap.size + 1) rfl 30 _ (0, 0) _ (fun W h => h.1) Try.underlying30 rfl (by rw [Try.size30, size_ringA hG1])) ⟨HR1.out, hB1.drew⟩ ?_
        have hS : (wr.drew).heap[w.heap.size + 1]? = some (.cells (ringA c1 L1) 30 (0, 0)) ∧ Below w.heap.size w wr.drew := ⟨HR1.out, hB1.drew⟩
        change wpAnyH _ _ _ _ _ _ _ _ wr.drew
        generalize wr.drew = W2 at hS ⊢
        obtain ⟨hR2, hB2⟩ := hS
        refine wpAnyH_all (rs := [1, 5]) (by kernel_rfl) (by decide) ?_
        intro i hi
        rcases List.mem_cons.1 hi with rfl | hi
        · clear hi
          refine wpOp_at rfl rfl ?_
          go_wp2_with fail
          refine (told_any c1 L1 _ hG1).mono ?_
          rintro e W3 ⟨v, rfl, ho3, hb3⟩
          obtain ⟨hR3, hB3⟩ := step_ring0 hR2 hB2 (Nat.le_succ _) hb3
          have hof3 := ownsRow_base ho3 hB2.size
          have hlt3 : w.heap.size + 1 < W3.heap.size := (Array.getElem?_eq_some_iff.1 hR3).1
          clear ho3 hb3 hR2 hB2
          refine ⟨⟨hR3, hB3⟩, ?_⟩
          refine wpAnyH_all (rs := [3, 5]) (by kernel_rfl) (by decide) ?_
          intro i hi
          rcases List.mem_cons.1 hi with rfl | hi
          · clear hi
            refine wpOp_at rfl rfl ?_
            go_wp2_with fail
            refine (cap_any c1 L1 _).mono ?_
            rintro e w' ⟨rfl, rfl⟩
            refine ⟨⟨(Below.heap_alloc _ _ _ hlt3).trans hR3, hB3.alloc hB3.size _⟩, ?_⟩
            refine wpAnyH_all (rs := [5]) (by kernel_rfl) (by decide) ?_
            intro i hi
            obtain rfl : i = 5 := by simpa using hi
            clear hi
            refine wpOp_at rfl rfl ?_
            go_wp2_with fail
            obtain ⟨Wf, hWf⟩ : ∃ Wf, Wf = (W3.alloc (.cells (ringA c1 L1) 30)).alloc (.cells (ringA 0 []) 30) := ⟨_, rfl⟩
            obtain ⟨Bs, hBs⟩ : ∃ Bs, Bs = W3.heap.size + 1 := ⟨_, rfl⟩
            have hRf : Wf.heap[w.heap.size + 1]? = some (.cells (ringA c1 L1) 30 (0, 0)) := by rw [hWf]; exact ((below2 W3 _ _).block _ hlt3).trans hR3
            have hBf : Below w.heap.size w Wf := by rw [hWf]; exact hB3.trans ((below2 W3 _ _).mono hB3.size)
            have hZf : Wf.heap[Bs]? = some (.cells (ringA 0 []) 30 (0, 0)) := by rw [hWf, hBs]; exact heap_alloc2_new _ _ _
            have hof := owns_below hof3 (hWf ▸ below2 W3 (.cells (ringA c1 L1) 30) (.cells (ringA 0 []) 30))
            have hBlt : w.heap.size + 1 < Bs := by omega
            rw [← hWf, ← hBs]
            clear hWf hBs hof3 hR3 hB3 hlt3
            refine ⟨⟨hRf, hBf⟩, ?_⟩
            refine wpAnyH_all (rs := [6]) (by kernel_rfl) (by decide) ?_
            intro i hi
            obtain rfl : i = 6 := by simpa using hi
            clear hi
            refine wpOp_at rfl rfl ?_
            go_wp2_with fail
            refine wpAnyH_all (rs := [7]) (by kernel_rfl) (by decide) ?_
            intro i hi
            obtain rfl : i = 7 := by simpa using hi
            clear hi
            refine wpOp_at rfl rfl ?_
            go_wp2_with fail
            refine wpAnyH_all (rs := [8]) (by kernel_rfl) (by decide) ?_
            intro i hi
            obtain rfl : i = 8 := by simpa using hi
            clear hi
            refine wpOp_at rfl rfl ?_
            refine wp_store_row 30 (.tmp 12) (.tmp 56) rfl Bs (ringA c1 L1) rfl rfl 30 (ringA 0 []) hZf (by rw [Try.size30, size_ringA hG1]) (by rw [size_zero, size_ringA hG1]) (one_ringA _ _) ?_
            have hRg := (setRow_other Wf Bs (w.heap.size + 1) (ringA c1 L1) (by omega)).trans hRf
            have hBg := below_setRow hBf (by omega : w.heap.size ≤ Bs) (ringA c1 L1)
            refine ⟨⟨hRg, hBg⟩, wpAnyH_done (by kernel_rfl) ?_ _⟩
            refine NoPanic.normal ?_
            have HRg := Lib.hid hRg
            have HBg := Lib.hid hBg
            have HZf := Lib.hid hZf
            have HOf := Lib.hid hof
            clear hRg hBg hZf hof hRf hBf
            go_wp2_with fail
            go_meet
            case rel => exact ⟨Bs, rfl, rfl, by omega, by omega, owns_setRow_type HOf.out HZf.out (by decide) _, setRow_heap _ _ _ _ 30 _ HZf.out, HRg.out, HBg.out⟩
          · obtain rfl : i = 5 := by simpa using hi
            clear hi
            refine wpOp_at rfl rfl ?_
            go_wp2_with fail
            refine ⟨⟨(Below.heap_alloc _ _ _ hlt3).trans hR3, hB3.alloc hB3.size _⟩, ?_⟩
            refine wpAnyH_all (rs := [3]) (by kernel_rfl) (by decide) ?_
            intro i hi
            obtain rfl : i = 3 := by simpa using hi
            clear hi
            refine wpOp_at rfl rfl ?_
            go_wp2_with fail
            refine (cap_any c1 L1 _).mono ?_
            rintro e w' ⟨rfl, rfl⟩
            obtain ⟨Wf, hWf⟩ : ∃ Wf, Wf = (W3.alloc (.cells (ringA 0 []) 30)).alloc (.cells (ringA c1 L1) 30) := ⟨_, rfl⟩
            obtain ⟨Bs, hBs⟩ : ∃ Bs, Bs = W3.heap.size := ⟨_, rfl⟩
            have hRf : Wf.heap[w.heap.size + 1]? = some (.cells (ringA c1 L1) 30 (0, 0)) := by rw [hWf]; exact ((below2 W3 _ _).block _ hlt3).trans hR3
            have hBf : Below w.heap.size w Wf := by rw [hWf]; exact hB3.trans ((below2 W3 _ _).mono hB3.size)
            have hZf : Wf.heap[Bs]? = some (.cells (ringA 0 []) 30 (0, 0)) := by rw [hWf, hBs]; exact heap_alloc2_old _ _ _
            have hof := owns_below hof3 (hWf ▸ below2 W3 (.cells (ringA 0 []) 30) (.cells (ringA c1 L1) 30))
            have hBlt : w.heap.size + 1 < Bs := by omega
            rw [← hWf, ← hBs]
            clear hWf hBs hof3 hR3 hB3 hlt3
            refine ⟨⟨hRf, hBf⟩, ?_⟩
            refine wpAnyH_all (rs := [6]) (by kernel_rfl) (by decide) ?_
            intro i hi
            obtain rfl : i = 6 := by simpa using hi
            clear hi
            refine wpOp_at rfl rfl ?_
            go_wp2_with fail
            refine wpAnyH_all (rs := [7]) (by kernel_rfl) (by decide) ?_
            intro i hi
            obtain rfl : i = 7 := by simpa using hi
            clear hi
            refine wpOp_at rfl rfl ?_
            go_wp2_with fail
            refine wpAnyH_all (rs := [8]) (by kernel_rfl) (by decide) ?_
            intro i hi
            obtain rfl : i = 8 := by simpa using hi
            clear hi
            refine wpOp_at rfl rfl ?_
            refine wp_store_row 30 (.tmp 12) (.tmp 56) rfl Bs (ringA c1 L1) rfl rfl 30 (ringA 0 []) hZf (by rw [Try.size30, size_ringA hG1]) (by rw [size_zero, size_ringA hG1]) (one_ringA _ _) ?_
            have hRg := (setRow_other Wf Bs (w.heap.size + 1) (ringA c1 L1) (by omega)).trans hRf
            have hBg := below_setRow hBf (by omega : w.heap.size ≤ Bs) (ringA c1 L1)
            refine ⟨⟨hRg, hBg⟩, wpAnyH_done (by kernel_rfl) ?_ _⟩
            refine NoPanic.normal ?_
            have HRg := Lib.hid hRg
            have HBg := Lib.hid hBg
            have HZf := Lib.hid hZf
            have HOf := Lib.hid hof
            clear hRg hBg hZf hof hRf hBf
            go_wp2_with fail
            go_meet
            case rel => exact ⟨Bs, rfl, rfl, by omega, by omega, owns_setRow_type HOf.out HZf.out (by decide) _, setRow_heap _ _ _ _ 30 _ HZf.out, HRg.out, HBg.out⟩
        · obtain rfl : i = 5 := by simpa using hi
          clear hi
          have hlt2 : w.heap.size + 1 < W2.heap.size := (Array.getElem?_eq_some_iff.1 hR2).1
          refine wpOp_at rfl rfl ?_
          go_wp2_with fail
          refine ⟨⟨(Below.heap_alloc _ _ _ hlt2).trans hR2, hB2.alloc hB2.size _⟩, ?_⟩
          refine wpAnyH_all (rs := [1]) (by kernel_rfl) (by decide) ?_
          intro i hi
          obtain rfl : i = 1 := by simpa using hi
          clear hi
          refine wpOp_at rfl rfl ?_
          go_wp2_with fail
          refine (told_any c1 L1 _ hG1).mono ?_
          rintro e W3 ⟨v, rfl, ho3, hb3⟩
          obtain ⟨hR3, hB3⟩ := step_ring0 ((Below.heap_alloc _ (.cells (ringA 0 []) 30) _ hlt2).trans hR2) (hB2.alloc hB2.size _) (Nat.le_succ _) hb3
          have hof3 := ownsRow_base ho3 (base' := w.heap.size) (by have := hB2.size; simp; omega)
          have hZ3 : W3.heap[W2.heap.size]? = some (.cells (ringA 0 []) 30 (0, 0)) := (hb3.block _ (by simp)).trans (heap_alloc_last W2 _)
          have hlt3 : W2.heap.size < W3.heap.size := (Array.getElem?_eq_some_iff.1 hZ3).1
          refine ⟨⟨hR3, hB3⟩, ?_⟩
          refine wpAnyH_all (rs := [3]) (by kernel_rfl) (by decide) ?_
          intro i hi
          obtain rfl : i = 3 := by simpa using hi
          clear hi
          refine wpOp_at rfl rfl ?_
          go_wp2_with fail
          refine (cap_any c1 L1 _).mono ?_
          rintro e w' ⟨rfl, rfl⟩
          obtain ⟨Wf, hWf⟩ : ∃ Wf, Wf = W3.alloc (.cells (ringA c1 L1) 30) := ⟨_, rfl⟩
          obtain ⟨Bs, hBs⟩ : ∃ Bs, Bs = W2.heap.size := ⟨_, rfl⟩
          have hbw : Below W3.heap.size W3 Wf := by rw [hWf]; exact (Below.refl _ _).alloc (Nat.le_refl _) _
          have hRf : Wf.heap[w.heap.size + 1]? = some (.cells (ringA c1 L1) 30 (0, 0)) := (hbw.block _ (by omega)).trans hR3
          have hBf : Below w.heap.size w Wf := hB3.trans (hbw.mono hB3.size)
          have hZf : Wf.heap[Bs]? = some (.cells (ringA 0 []) 30 (0, 0)) := by rw [hBs]; exact (hbw.block _ hlt3).trans hZ3
          have hof := owns_below hof3 hbw
          have hBlt : w.heap.size + 1 < Bs := by omega
          rw [← hWf, ← hBs]
          clear hWf hBs hof3 hR3 hB3 hlt3 hZ3 hR2 hB2 hb3 ho3 hlt2 hbw
          refine ⟨⟨hRf, hBf⟩, ?_⟩
          refine wpAnyH_all (rs := [6]) (by kernel_rfl) (by decide) ?_
          intro i hi
          obtain rfl : i = 6 := by simpa using hi
          clear hi
          refine wpOp_at rfl rfl ?_
          go_wp2_with fail
          refine wpAnyH_all (rs := [7]) (by kernel_rfl) (by decide) ?_
          intro i hi
          obtain rfl : i = 7 := by simpa using hi
          clear hi
          refine wpOp_at rfl rfl ?_
          go_wp2_with fail
          refine wpAnyH_all (rs := [8]) (by kernel_rfl) (by decide) ?_
          intro i hi
          obtain rfl : i = 8 := by simpa using hi
          clear hi
          refine wpOp_at rfl rfl ?_
          refine wp_store_row 30 (.tmp 12) (.tmp 56) rfl Bs (ringA c1 L1) rfl rfl 30 (ringA 0 []) hZf (by rw [Try.size30, size_ringA hG1]) (by rw [size_zero, size_ringA hG1]) (one_ringA _ _) ?_
          have hRg := (setRow_other Wf Bs (w.heap.size + 1) (ringA c1 L1) (by omega)).trans hRf
          have hBg := below_setRow hBf (by omega : w.heap.size ≤ Bs) (ringA c1 L1)
          refine ⟨⟨hRg, hBg⟩, wpAnyH_done (by kernel_rfl) ?_ _⟩
          refine NoPanic.normal ?_
          have HRg := Lib.hid hRg
          have HBg := Lib.hid hBg
          have HZf := Lib.hid hZf
          have HOf := Lib.hid hof
          clear hRg hBg hZf hof hRf hBf
          go_wp2_with fail
          go_meet
          case rel => exact ⟨Bs, rfl, rfl, by omega, by omega, owns_setRow_type HOf.out HZf.out (by decide) _, setRow_heap _ _ _ _ 30 _ HZf.out, HRg.out, HBg.out⟩
      case rest =>
        clear HR1 hB1
        obtain ⟨Bs, rfl, rfl, hBs, hne, hox, hRs, hRr, hBw⟩ := hcut
        go_wp2_with fail
        go_loopw [13] (fun i wr => ∃ k : Nat, k ≤ lb.length ∧ i = .int .i64 k ∧ HoldsRing wr Bs ∧ wr.heap[w.heap.size + 1]? = some (.cells (ringA c1 L1) 30 (0, 0)) ∧ wr.ownsRow w.heap.size 9 1 u10 L1.length (L1.map strV) ∧ Below w.heap.size w wr) (fun i _ => lb.length - (intOf i).toNat)
        case atStart => exact ⟨0, Nat.zero_le _, rfl, ⟨c1, L1, hG1, hRs⟩, hRr, hox, hBw⟩
        case round =>
          clear hRs hRr hox hBw
          obtain ⟨k2, hk2, rfl, ⟨c3, L3, hG3, hR3⟩, hRr, hox, hB3⟩ := hrel
          by_cases hlt : k2 < lb.length
          · obtain ⟨x, hx⟩ : ∃ x, lb[k2]? = some x := ⟨lb[k2], by simp [hlt]⟩
            obtain ⟨b, off, rfl, hca⟩ := HCB.out (by rintro rfl; simp at hlt)
            obtain ⟨bv, hc1, hc2, hbv⟩ := hca.below hB3 k2 x hx
            have g1 : (0 : Int) ≤ (k2 : Int) := by omega
            have g3 : (k2 : Int) < (lb.length : Int) := by omega
            have HR3 := Lib.hid hR3
            have HRr := Lib.hid hRr
            have HOX := Lib.hid hox
            obtain ⟨a3, cp3, rfl⟩ := hbv.slice
            have HBV := Lib.hid hbv
            clear hR3 hca hx hbv hRr hox
            go_wp2_with fail
            refine wp_region_still_tail 5 (by kernel_rfl) (by kernel_rfl) ?_
            simp only [List.take_succ_cons, List.take_zero, List.drop_succ_cons, List.drop_zero]
            refine wpStill_load_row rfl 30 (.tmp 12) rfl Bs rfl 30 (ringA c3 L3) (0, 0) _ HR3.out Try.underlying30 rfl (by rw [Try.size30, size_ringA hG3]) ?_
            repeat still_step
            refine wpStill_nil ?_
            change wpList _ _ _ _ _ wr.drew
            go_wp2_with fail
            refine (after_any c3 L3 x.op _ x.bytes _ hG3 (HBV.out.below (Below.drew (Below.refl _ _)))).mono ?_
            rintro e w4 ⟨c4, L4, rfl, hG4, hb4⟩
            obtain ⟨hx4, hB4⟩ := step_ring0 (W := wr.drew) HR3.out hB3.drew hBs hb4
            obtain ⟨hr4, _⟩ := step_ring0 (W := wr.drew) HRr.out hB3.drew (Nat.le_succ _) hb4
            have ho4 := owns_below (W := wr.drew) HOX.out hb4
            have HX4 := Lib.hid hx4
            have HR4 := Lib.hid hr4
            have HO4 := Lib.hid ho4
            clear hx4 hb4 HBV hc1 hc2 HR3 HRr HOX hr4 ho4
            go_wp2_with (with_reducible refine wpList_store_row rfl 30 (.tmp 12) (.tmp 68) rfl Bs (ringA c4 L4) rfl rfl 30 (ringA c3 L3) HX4.out (by rw [Try.size30, size_ringA hG4]) (by rw [size_ringA hG3, size_ringA hG4]) (one_ringA _ _) ?_)
            go_roundw
            case rel => exact ⟨k2 + 1, by omega, by go_num, ⟨c4, L4, hG4, setRow_heap _ _ _ _ 30 _ HX4.out⟩, (setRow_other _ _ _ _ (by omega)).trans HR4.out, owns_setRow_type HO4.out HX4.out (by decide) _, below_setRow hB4 hBs _⟩
            case measure => simp [intOf]; omega
          · have g3 : ¬ (k2 : Int) < (lb.length : Int) := by omega
            have HRr := Lib.hid hRr
            have HOX := Lib.hid hox
            clear hlt HCB hRr hox hR3
            go_wp2_with (with_reducible refine wpList_load_row rfl 30 (.tmp 7) rfl (w.heap.size + 1) rfl 30 (ringA c1 L1) (0, 0) _ HRr.out Try.underlying30 rfl (by rw [Try.size30, size_ringA hG1]) ?_)
            refine (told_any c1 L1 _ hG1).mono ?_
            rintro e w5 ⟨v5, rfl, ho5, hb5⟩
            obtain ⟨hr5, hB5⟩ := step_ring0 HRr.out hB3 (Nat.le_succ _) hb5
            have hox5 := owns_below HOX.out hb5
            have HR5 := Lib.hid hr5
            clear hb5 hr5 HRr HOX
            go_wp2_with fail
            refine (same_true v5 u10 L1.length _ _ (L1.map fun b => ⟨b.toArray⟩) _ (by have := hG1.len; have := hG1.cap; omega) (by rw [map_strV]; exact ho5) (by rw [map_strV]; exact hox5)).mono ?_
            rintro e w6 ⟨rfl, n6, rfl⟩
            clear ho5 hox5
            go_wp2_with fail
            refine wp_load_row 30 (.tmp 7) rfl (w.heap.size + 1) rfl 30 (ringA c1 L1) (0, 0) _ HR5.out Try.underlying30 rfl (by rw [Try.size30, size_ringA hG1]) ?_
            go_wp2_with fail
            refine (cap_any c1 L1 _).mono ?_
            rintro e w' ⟨rfl, rfl⟩
            go_wp2_with fail
            refine (awake_true _).mono ?_
            rintro e w7 ⟨rfl, hb7⟩
            go_wp2_with fail
            go_ret
            refine ⟨rfl, ?_⟩
            have hq : Below w.heap.size w (w5.drewN n6) := hB5.trans (Quiet.below ⟨n6, rfl⟩ _)
            exact (hq.alloc hq.size _).trans (hb7.mono (by have := hq.size; simp at this ⊢; omega))

end Go.Proofs.Ytgipgeeiibkjjaa
