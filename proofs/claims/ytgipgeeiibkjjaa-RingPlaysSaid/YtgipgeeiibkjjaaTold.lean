/- What All and told do. -/
import Derived.Test.YtgipgeeiibkjjaaRange
import Derived.Maps.AppendAt
namespace Go.Proofs.Ytgipgeeiibkjjaa
open Go.RowKit Go.Shelf
attribute [local go_sem] Oper.semAt_some

set_option maxRecDepth 100000 in
set_option maxHeartbeats 400000 in
theorem all_any (c : Nat) (L : Chunks) (w : World) :
    Calls Try.prog 20 #[.agg (ringA c L)] w fun e w' => e = .returned (.func (.func 28) #[] #[.pointer (some ⟨w.heap.size, 0, none⟩)]) ∧ w' = w.alloc (.cells (ringA c L) 30) := by
  go_enter Try.func20, Try.ntmps20
  go_wp2
  go_ret
  exact ⟨rfl, rfl⟩

theorem run_equalIn_func_nil (w : World) (d : Nat) (f : Fn) (a b : Array Value) : (Op.equalIn (d + 1) 56 (.func f a b) .nilFunc).run Try.prog w = .ok false w := by
  simp [Op.equalIn, run_underlying Try.underlying56]
theorem run_eql_func_nil (w : World) (f : Fn) (a b : Array Value) : (binOp .eql 56 (.func f a b) .nilFunc).run Try.prog w = .ok (.bool false) w := by
  simp only [binOp]
  simp [Op.equal, Op.maxDepth, run_equalIn_func_nil w 9999 f a b]

/-- A whole load, inside a fence. -/
theorem wpListIn_load_row {F : Fence} {n : Nat} {P : Program} {ops : Array Oper} {rest : List Oper} {o : Oper} {a : Act} {w : World} {Q : Exit → Act → World → Prop} (hgd : o.guard = none) (ty : TypeId) (x : Operand) (ho : o.op = .load ty x)
    (g : Nat) (hx : a.eval x = .pointer (some ⟨g, 0, none⟩)) (t : TypeId) (cs : Array Value) (fr : Nat × Nat) (d : TypeDesc) (hg : w.heap[g]? = some (.cells cs t fr))
    (hu : P.underlying ty = some d) (hd : (match d with | .struct _ | .array _ _ => true | _ => false) = true) (hi : (P.info? ty).map (·.size) = some cs.size)
    (h : wpListIn F n P ops Q rest (a.put o.dst (.agg cs)) w) : wpListIn F n P ops Q (o :: rest) a w := by
  refine wpListIn_plain hgd fun K hK => ?_
  unfold Oper.wpIn
  refine ⟨by simp [Oper.about, ho], ?_⟩
  rw [Oper.semAt_plain F _ _ (by rw [ho]; intro c hc'; cases hc')]
  simp only [execOp, ho, hx, Instr.loadAt, Instr.sureAddr, Sem.run_bind, Sem.run_pure, Result.andThen_ok, run_loadVar_row w g t ty cs fr d hg hu hd hi]
  exact hK _ _ h

/-- A chunk as a text. -/
def strV (b : List UInt8) : Value := .string ⟨b.toArray⟩

/-- The call answers a list of its own that holds these texts. -/
def Texts (w : World) (L : Chunks) (e : Ending) (w' : World) : Prop :=
  ∃ v, e = .returned v ∧ w'.ownsRow w.heap.size 9 1 v L.length (L.map strV) ∧ Below w.heap.size w w'

theorem Try.info9 : (Try.prog.info? 9).map (fun i => (i.zero, i.size, i.bytes)) = some (some (.string ByteArray.empty), 1, 16) := by kernel_rfl

theorem take_snoc_map {L : Chunks} {k : Nat} {b : List UInt8} (h : L[k]? = some b) : (L.take (k + 1)).map strV = (L.take k).map strV ++ [strV b] := by
  obtain ⟨hk, rfl⟩ := List.getElem?_eq_some_iff.1 h
  rw [List.take_succ_eq_append_getElem hk, List.map_append]
  rfl

theorem owns_cells {W : World} {base : Nat} {v : Value} {b : List UInt8} (h : W.ownsRow base 5 1 v b.length (bytesL b)) (h1 : 1 ≤ b.length) :
    ∃ g cap, v = .slice (some ⟨g, 0, none⟩) b.length cap ∧ ∀ j (hj : j < b.length), W.cell? ((⟨g, 0, none⟩ : Addr).add j) = some (.int .u8 (b[j].toNat : Int)) := by
  have h' := h
  rcases h.2 with ⟨_, h0⟩ | ⟨g, cap, cur, rfl, _⟩
  · omega
  · refine ⟨g, cap, rfl, fun j hj => h'.cells (g := g) rfl j _ ?_⟩
    simp [bytesL, hj]

theorem block_not_row {W : World} {B : Nat} {cs : Array Value} {t e : TypeId} {fr : Nat × Nat} (h : W.heap[B]? = some (.cells cs t fr)) (hte : t ≠ e) {base size k : Nat} {v : Value} {xs : List Value} (hr : W.ownsRow base e size v k xs) : some B ≠ v.ownBlock := by
  rcases hr.2 with ⟨rfl, _⟩ | ⟨g, cap, cur, rfl, _, hgb, _⟩
  · simp [Value.ownBlock]
  · intro e'
    obtain rfl : B = g := by simpa [Value.ownBlock] using e'
    rw [h] at hgb
    cases hgb
    exact hte rfl

set_option maxRecDepth 100000 in
set_option maxHeartbeats 1000000 in
theorem told_any (c : Nat) (L : Chunks) (w : World) (hG : Good c L) : Calls Try.prog 16 #[.agg (ringA c L)] w (Texts w L) := by
  refine (callsIn_wide (n := 3)).1 ?_
  have hnil := run_eql_func_nil
  have hsz := size_ringA hG
  refine callsIn_of_wp_marks Try.func16 rfl trivial ?_ rfl
  simp only [Try.ntmps16, List.size_toArray, List.length_cons, List.length_nil, Nat.reduceAdd, Nat.reduceSub, Array.replicate_succ, Array.replicate_zero, List.push_toArray, List.append_toArray, List.nil_append, List.cons_append]
  have e2 := heap_alloc2_old w (.cells (ringA c L) 30) (.cells #[.slice none 0 0] 34)
  have e3 := heap_first3 w (.cells (ringA c L) 30) (.cells #[.slice none 0 0] 34) (.cells (ringA c L) 30)
  have e4 : ((((w.alloc (.cells (ringA c L) 30)).alloc (.cells #[.slice none 0 0] 34)).alloc (.cells (ringA c L) 30)).alloc (.cells (ringA c L) 30)).heap[w.heap.size]? = some (.cells (ringA c L) 30 (0, 0)) :=
    (Below.heap_alloc _ _ _ (by simp; omega)).trans e3
  have E2 := Lib.hid e2
  have E3 := Lib.hid e3
  have E4 := Lib.hid e4
  clear e2 e3 e4
  gi_wp2_with ((with_reducible refine wpListIn_load_row rfl 30 (.tmp 1) rfl w.heap.size rfl 30 (ringA c L) (0, 0) _ E2.out Try.underlying30 rfl (by rw [Try.size30, hsz]) ?_))
  refine ⟨trivial, (callsIn_wide.2 (all_any c L _)).mono ?_⟩
  rintro e w' ⟨rfl, rfl⟩
  gi_wp2_with ((with_reducible refine wpListIn_load_row rfl 30 (.tmp 1) rfl w.heap.size rfl 30 (ringA c L) (0, 0) _ E3.out Try.underlying30 rfl (by rw [Try.size30, hsz]) ?_))
  refine ⟨trivial, (callsIn_wide.2 (all_any c L _)).mono ?_⟩
  rintro e w' ⟨rfl, rfl⟩
  gi_wp2_with ((with_reducible refine wpListIn_load_row rfl 30 (.tmp 1) rfl w.heap.size rfl 30 (ringA c L) (0, 0) _ E4.out Try.underlying30 rfl (by rw [Try.size30, hsz]) ?_))
  refine ⟨trivial, (callsIn_wide.2 (all_any c L _)).mono ?_⟩
  rintro e w' ⟨rfl, rfl⟩
  gi_wp2_with fail
  obtain ⟨W0, hW0⟩ : ∃ W0, W0 = (((((w.alloc (.cells (ringA c L) 30)).alloc (.cells #[.slice none 0 0] 34)).alloc (.cells (ringA c L) 30)).alloc (.cells (ringA c L) 30)).alloc (.cells (ringA c L) 30)) := ⟨_, rfl⟩
  have hs0 : W0.heap.size = w.heap.size + 5 := by rw [hW0]; simp
  have hbx : Boxed W0 (w.heap.size + 1) 34 (.slice none 0 0) := by
    rw [hW0]
    refine (((Boxed.alloc ?_ _).alloc _).alloc _)
    have := Boxed.new (w.alloc (.cells (ringA c L) 30)) 34 (.slice none 0 0)
    rwa [World.size_alloc] at this
  have hrg : W0.heap[w.heap.size + 1 + 1 + 1 + 1]? = some (.cells (ringA c L) 30 (0, 0)) := by rw [hW0]; exact heap_at (by simp)
  have hbl : Below w.heap.size w W0 := by
    rw [hW0]
    exact (((((Below.refl _ _).alloc (Nat.le_refl _) _).alloc (by simp) _).alloc (by simp; omega) _).alloc (by simp; omega) _).alloc (by simp; omega) _
  rw [← hW0]
  clear E2 E3 E4 hW0
  obtain ⟨i0, hi, hz0, hz1, hz2⟩ := info_parts Try.info9
  have hL8 : L.length ≤ 8 := Nat.le_trans hG.len hG.cap
  refine range_ring hG (Br := w.heap.size + 1 + 1 + 1 + 1) rfl rfl
    (fun k W => (∃ v, Boxed W (w.heap.size + 1) 34 v ∧ W.ownsRow w.heap.size 9 1 v k ((L.take k).map strV)) ∧ W.heap[w.heap.size + 1 + 1 + 1 + 1]? = some (.cells (ringA c L) 30 (0, 0)) ∧ Below w.heap.size w W)
    (fun _ _ => False) (fun k => (stays_ex fun v => (stays_block _ _ _ _ _).and (stays_owns _ _ _ _ _ _ _)).and ((stays_block _ _ _ _ _).and (stays_below _ _ _ (by omega) (Nat.le_refl _)))) (fun _ => stays_pure _ _)
    ⟨⟨_, hbx, by simpa using World.ownsRow_nil W0 w.heap.size 9 1⟩, hrg, hbl⟩ (fun k W h => h.2.1)
    (fun k v => { tmps := #[Value.agg (ringA c L), Value.pointer (some { block := w.heap.size, off := 0 }), Value.slice none 0 0,
          Value.pointer (some { block := w.heap.size + 1, off := 0 }), undef, v, Value.agg (ringA c L),
          Value.func (Fn.func 28) #[] #[Value.pointer (some { block := w.heap.size + 1 + 1, off := 0 })],
          Value.bool false, Value.agg (ringA c L),
          Value.func (Fn.func 28) #[] #[Value.pointer (some { block := w.heap.size + 1 + 1 + 1, off := 0 })],
          Value.bool false, Value.agg (ringA c L),
          Value.func (Fn.func 28) #[] #[Value.pointer (some { block := w.heap.size + 1 + 1 + 1 + 1, off := 0 })], .int .i64 k,
          v, undef, undef, undef, undef, undef, undef], defers := [] }) ?assign ?body ?done ?stop
  case assign =>
    intro l k v W K hK
    gi_wp2
    exact hK
  case body =>
    rintro l k b v W hk ⟨⟨v0, hv, hrow⟩, hrg1, hB⟩ ho
    have hkL : k < L.length := (List.getElem?_eq_some_iff.1 hk).1
    have hb1 := (hG.each b (List.mem_of_getElem? hk)).1
    obtain ⟨g, cap, rfl, hcells⟩ := owns_cells ho hb1
    have hconv := run_convert_bytes_back (P := Try.prog) W 42 9 5 ⟨g, 0, none⟩ cap b Try.underlying42 Try.underlying5 Try.underlying9 hcells
    obtain ⟨S, hS⟩ : ∃ S : ByteArray, S = ⟨b.toArray⟩ := ⟨_, rfl⟩
    rw [← hS] at hconv
    have hc := hv.cell
    have HS := Lib.hid hS
    have HK := Lib.hid hk
    have HV := Lib.hid hv
    have HG1 := Lib.hid hrg1
    have HO := Lib.hid hrow
    clear hS hk hcells ho hv hrg1 hrow hbx hrg
    gi_wp2_with (gi_at_builtin; refine wpListIn_append_own _ rfl _ _ 34 rfl w.heap.size 9 i0 (.string ByteArray.empty) 1 16 Try.underlying34 hi hz0 hz1 hz2 rfl (by decide) _ _ _ rfl (HO.out.alloc _) ⟨W.heap.size, 0, none⟩ 1 1 [.string S] rfl rfl (cell_one_new _ _ _) (by simp [Value.oneCell']) (by unfold maxLen; omega) (by omega) (by have := hB.size; simp; omega) ?_; intro v' w1 hown' hgrow _; obtain ⟨g', cap', rfl⟩ := ownsRow_succ hown'; obtain ⟨hv1, hv2, hr2, hk2, hb2⟩ := HV.out.appended (by decide) HO.out hB.size (Nat.le_succ _) hown' hgrow; have hc1 := hv1.cell; have hf1 := hv1.frozen)
    have hne := block_not_row HG1.out (by decide) HO.out
    have hlt : w.heap.size + 1 + 1 + 1 + 1 < W.heap.size := (Array.getElem?_eq_some_iff.1 HG1.out).1
    refine ⟨hk2.from _, ⟨_, hv2, ?_⟩, ?_, hB.trans hb2⟩
    · rw [take_snoc_map HK.out, strV, ← HS.out]; exact hr2
    · rw [Below.heap_setCell _ _ _ _ (by simp; omega), hgrow.block _ (by simp; omega) hne, Below.heap_alloc _ _ _ hlt]
      exact HG1.out
  case done =>
    rintro D W hD ⟨⟨v, hv, hrow⟩, _, hB⟩ hK
    have hc := hv.cell
    gi_wp2
    refine ⟨by simp, .inl ⟨_, _, rfl, run_takeDeferred hK, ?_⟩⟩
    exact ⟨_, results_tmp rfl _ _ _, v, rfl, ownsRow_putObj (by simpa using hrow) _ hK rfl, hB.trans (belowK_b (w := w) (Nat.le_refl _) W D _ _ (by omega) hK rfl rfl)⟩
  case stop =>
    rintro D x W _ h _
    exact h.elim

end Go.Proofs.Ytgipgeeiibkjjaa
