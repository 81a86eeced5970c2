/- What a machine that is driven keeps to; what Drive keeps from round to round. -/
import Derived.Test.YtlflhjgfegflfaaDoorDput
import Derived.StillTailTactics
namespace Go.Proofs.YtlflhjgfegflfaaDoor
open Go.RowKit

/-- The value is a list of these streams, in blocks of p. -/
def IsStrms (p : Nat → Prop) (w : World) (v : Value) (L : List Strm) : Prop :=
  ∃ a cap, v = .slice a L.length cap ∧ ∀ j t, L[j]? = some t → ∃ gb off bv, a = some ⟨gb, off, none⟩ ∧ p gb ∧ w.cell? ⟨gb, off + j * 5, none⟩ = some bv ∧ w.cell? ⟨gb, off + j * 5 + 1, none⟩ = some (.bool t.ended) ∧
    w.cell? ⟨gb, off + j * 5 + 2, none⟩ = some (.int .i64 t.code) ∧ w.cell? ⟨gb, off + j * 5 + 3, none⟩ = some (.int .i64 t.stage) ∧ w.cell? ⟨gb, off + j * 5 + 4, none⟩ = some (.int .i64 t.id) ∧ IsBytes p w bv t.bytes
theorem IsStrms.frame {p q : Nat → Prop} {w w' : World} {v : Value} {L : List Strm} (h : IsStrms p w v L) (hf : Frame q w w') (hpq : ∀ k, p k → ¬ q k) : IsStrms p w' v L := by
  obtain ⟨a, cap, rfl, hc⟩ := h
  refine ⟨a, cap, rfl, fun j t hj => ?_⟩
  obtain ⟨gb, off, bv, rfl, hp, h1, h2, h3, h4, h5, hb⟩ := hc j t hj
  exact ⟨gb, off, bv, rfl, hp, hf.cell? h1 (hpq _ hp), hf.cell? h2 (hpq _ hp), hf.cell? h3 (hpq _ hp), hf.cell? h4 (hpq _ hp), hf.cell? h5 (hpq _ hp), hb.frame hf hpq⟩
theorem IsStrms.below {p : Nat → Prop} {w w' : World} {v : Value} {L : List Strm} (h : IsStrms p w v L) (hb : Below w.heap.size w w') : IsStrms p w' v L := h.frame (Below.toFrame hb fun _ => False) (fun _ _ h => h)
theorem IsStrms.mono {p q : Nat → Prop} {w : World} {v : Value} {L : List Strm} (h : IsStrms p w v L) (hpq : ∀ k, k < w.heap.size → p k → q k) : IsStrms q w v L := by
  obtain ⟨a, cap, rfl, hc⟩ := h
  refine ⟨a, cap, rfl, fun j t hj => ?_⟩
  obtain ⟨gb, off, bv, rfl, hp, h1, h2, h3, h4, h5, hb⟩ := hc j t hj
  exact ⟨gb, off, bv, rfl, hpq _ (block_lt_of_cell h1) hp, h1, h2, h3, h4, h5, hb.mono hpq⟩

/-! A machine that is driven. -/
/-- The call answers as the model does; the machine is as told; nothing else has turned. -/
def Answers {S : Type} (own : Nat → Prop) (Rep : S → (Nat → Prop) → World → Prop) (r : S × Outs × Int) (w : World) (e : Ending) (w' : World) : Prop :=
  ∃ v, e = .returned (.tuple #[v, .int .i64 r.2.2]) ∧ IsOuts (w.heap.size ≤ ·) w' v r.2.1 ∧ (∃ own', Rep r.1 own' w' ∧ ∀ k, own' k → own k ∨ w.heap.size ≤ k) ∧ Frame own w w' ∧ OutsOk r.2.1 ∧ r.2.1.length ≤ 1000000
/-- The call answers this; of what was there nothing has turned. -/
def SaysN (w : World) (v : Value) (e : Ending) (w' : World) : Prop := e = .returned v ∧ Below w.heap.size w w'
theorem Says.quiet {w : World} {v : Value} {e : Ending} {w' : World} (h : Says w v e w') : SaysN w v e w' := ⟨h.1, h.2 ▸ Below.refl _ _⟩
/-- A method of the dynamic type: which function, and the receiver. -/
def Goes (T : TypeId) (rv : Value) (name : String) (f : FuncId) (r : Value) : Prop := ∀ w, (method 253 T rv name).run Tryd.prog w = .ok (f, r) w
/-- 'Rep s own w': the machine is as told, the blocks of own are its own. What the driver turns lies from 'base' on. -/
structure Driven {S : Type} (M : Mach S) (base : Nat) (Rep : S → (Nat → Prop) → World → Prop) (T : TypeId) (rv : Value) (fN fH fF fE fM : FuncId) (rN rH rF rE rM : Value) : Prop where
  goN : Goes T rv "Need" fN rN
  goH : Goes T rv "Held" fH rH
  goF : Goes T rv "Feed" fF rF
  goE : Goes T rv "End" fE rE
  goM : Goes T rv "More" fM rM
  inN : Enters fN
  inH : Enters fH
  inF : Enters fF
  inE : Enters fE
  inM : Enters fM
  keep : ∀ s own w w' p, Rep s own w → Frame p w w' → (∀ k, own k ∨ k < base → ¬ p k) → Rep s own w'
  old : ∀ s own w, Rep s own w → ∀ k, own k → k < w.heap.size
  need : ∀ s own w, Rep s own w → Calls Tryd.prog fN #[rN] w (Says w (.int .i64 (M.need s)))
  held : ∀ s own w, Rep s own w → Calls Tryd.prog fH #[rH] w (SaysN w (.int .i64 (M.held s)))
  feed : ∀ s own w v x, Rep s own w → 0 ≤ M.need s → IsBytes (fun k => ¬ own k) w v x → 1 ≤ x.length → x.length ≤ 32 → Calls Tryd.prog fF #[rF, .int .i64 (M.need s), v] w (Answers own Rep (M.feed s x) w)
  fin : ∀ s own w, Rep s own w → 0 ≤ M.need s → Calls Tryd.prog fE #[rE, .int .i64 (M.need s)] w (Answers own Rep (M.fin s) w)
  more : ∀ s own w, Rep s own w → M.need s = -2 → Calls Tryd.prog fM #[rM] w (Answers own Rep (M.more s) w)
  heldB : ∀ s own w, Rep s own w → 0 ≤ M.held s ∧ M.held s ≤ 1000000

def toldA (f : Nat → Bool) : Array Value := #[.bool (f 0), .bool (f 1), .bool (f 2), .bool (f 3)]
theorem told_at (f : Nat → Bool) {k : Nat} (hk : k ≤ 3) : (toldA f)[k]? = some (.bool (f k)) := by
  obtain rfl | rfl | rfl | rfl : k = 0 ∨ k = 1 ∨ k = 2 ∨ k = 3 := by omega
  all_goals rfl
theorem told_set (f : Nat → Bool) {k : Nat} (hk : k ≤ 3) : (toldA f).setIfInBounds k (.bool true) = toldA fun i => if i = k then true else f i := by
  obtain rfl | rfl | rfl | rfl : k = 0 ∨ k = 1 ∨ k = 2 ∨ k = 3 := by omega
  all_goals rfl
def zeroG : GotL := ⟨fun _ => [], 0, 0, 0, fun _ => 0⟩
section
variable {B : Nat} {g : GotL} {w : World}
theorem IsGot.needC (h : IsGot B g w) : w.cell? ⟨B, 4, none⟩ = some (.int .i64 g.need) := by rw [cell_of_row _ _ _ _ _ _ h]; rfl
theorem IsGot.errC (h : IsGot B g w) : w.cell? ⟨B, 5, none⟩ = some (.int .i64 g.err) := by rw [cell_of_row _ _ _ _ _ _ h]; rfl
theorem IsGot.heldC (h : IsGot B g w) : w.cell? ⟨B, 6, none⟩ = some (.int .i64 g.held) := by rw [cell_of_row _ _ _ _ _ _ h]; rfl
theorem IsGot.takenC (h : IsGot B g w) {k : Nat} (hk : k ≤ 3) : w.cell? ⟨B, 7 + k, none⟩ = some (.int .i64 (g.taken k)) := by
  rw [cell_of_row _ _ _ _ _ _ h]
  obtain rfl | rfl | rfl | rfl : k = 0 ∨ k = 1 ∨ k = 2 ∨ k = 3 := by omega
  all_goals rfl
theorem IsGot.past {W : World} (h : IsGot B g w) (hb : Below w.heap.size w W) : IsGot B g W := (Below.toFrame hb fun _ => False).heap (show w.heap[B]? = _ from h) (fun h => h)
theorem IsGot.putNeed (h : IsGot B g w) (e : Int) : IsGot B { g with need := e } (w.setCell ⟨B, 4, none⟩ (.int .i64 e)) := by
  unfold IsGot
  rw [setCell_row h]
  rfl
theorem IsGot.putHeld (h : IsGot B g w) (e : Int) : IsGot B { g with held := e } (w.setCell ⟨B, 6, none⟩ (.int .i64 e)) := by
  unfold IsGot
  rw [setCell_row h]
  rfl
theorem IsGot.putTaken (h : IsGot B g w) {k : Nat} (hk : k ≤ 3) (q : Nat) : IsGot B { g with taken := fun i => if i = k then q else g.taken i } (w.setCell ⟨B, 7 + k, none⟩ (.int .i64 q)) := by
  unfold IsGot
  rw [setCell_row h]
  obtain rfl | rfl | rfl | rfl : k = 0 ∨ k = 1 ∨ k = 2 ∨ k = 3 := by omega
  all_goals rfl
end
theorem Tryd.built_got (n : Int) : Tryd.prog.built 42 [(1, .int .i64 n)] = some (gotA { zeroG with need := n }) := by kernel_rfl
theorem Tryd.size_got : (Tryd.prog.info? 42).map (·.size) = some 12 := by kernel_rfl
theorem size_gotA (g : GotL) : (gotA g).size = 12 := rfl
theorem one_gotA (g : GotL) : (gotA g).all (·.oneCell') = true := by
  refine all_oneCell_toArray fun v hv => ?_
  simp only [gotL, List.mem_cons, List.not_mem_nil, or_false] at hv
  rcases hv with rfl | rfl | rfl | rfl | rfl | rfl | rfl | rfl | rfl | rfl | rfl | rfl <;> rfl

structure DInv {S : Type} (M : Mach S) (own : Nat → Prop) (Rep : S → (Nat → Prop) → World → Prop) (ins : List Strm) (cuts : List Int) (w : World) (D : DS S) (n : Nat) (x : DS S) (now : Nat → Prop) (wr : World) : Prop where
  le : n ≤ 100000
  eq : D = drive M ins cuts (100000 - n) n x
  rep : Rep x.s now wr
  here : ∀ k, now k → (own k ∧ k < w.heap.size) ∨ w.heap.size + 3 ≤ k
  need : x.got.need = M.need x.s
  got : IsGot (w.heap.size + 1) x.got wr
  told : wr.heap[w.heap.size + 2]? = some (.cells (toldA x.told) 83 (0, 0))
  res : wr.heap[w.heap.size]? = some (.cells (gotA zeroG) 42 (0, 0))
  fr : Frame (fun k => own k ∨ w.heap.size ≤ k) w wr
  outs : ∀ i, i ≤ 3 → (x.got.outs i).length ≤ 1024 * n
  taken : ∀ (i : Nat) t, ins[i]? = some t → x.got.taken i ≤ t.bytes.length
  heldB : 0 ≤ x.got.held ∧ x.got.held ≤ 1000000
def DriveEnd {S : Type} (own : Nat → Prop) (Rep : S → (Nat → Prop) → World → Prop) (w : World) (D : DS S) (e : Ending) (w' : World) : Prop := e = .returned (.agg (gotA D.got)) ∧ (∃ now, Rep D.s now w' ∧ ∀ k, now k → (own k ∧ k < w.heap.size) ∨ w.heap.size + 3 ≤ k) ∧ Frame (fun k => own k ∨ w.heap.size ≤ k) w w'

theorem ret_got {fn : Func} {p : Tmp} (hr : fn.results = #[.cell p 42]) {a : Act} {w : World} {R : Ending → World → Prop} {B : Nat} {g : GotL}
    (hd : a.defers = []) (hp : a.tmps.getD p undef = .pointer (some ⟨B, 0, none⟩)) (hg : IsGot B g w) (h : R (.returned (.agg (gotA g))) w) : bodyPost Tryd.prog fn R .ret a w := by
  refine bodyPost_ret (v := .agg (gotA g)) ?_ hd h
  have hp' : a.tmps[p]?.getD undef = .pointer (some ⟨B, 0, none⟩) := by simpa using hp
  have hl := run_loadVar_row (P := Tryd.prog) w B 42 42 (gotA g) (0, 0) _ hg Tryd.underlying42 rfl (by rw [Tryd.size_got, size_gotA])
  simp [results, hr, hp', asAddr, hl]
theorem DInv.done {S : Type} {M : Mach S} {own : Nat → Prop} {base : Nat} {Rep : S → (Nat → Prop) → World → Prop} {ins : List Strm} {cuts : List Int} {w : World} {D : DS S} {n : Nat} {x : DS S} {now : Nat → Prop} {wr : World} (h : DInv M own Rep ins cuts w D n x now wr)
    (hk : ∀ s own w w' p, Rep s own w → Frame p w w' → (∀ k, own k ∨ k < base → ¬ p k) → Rep s own w') (ho : ∀ k, now k ∨ k < base → (k < w.heap.size ∨ w.heap.size + 3 ≤ k) ∧ k < wr.heap.size) (hx : D = x) :
    DriveEnd own Rep w D (.returned (.agg (gotA x.got))) (wr.setRow w.heap.size (gotA x.got)) ∧ IsGot w.heap.size x.got (wr.setRow w.heap.size (gotA x.got)) := by
  subst hx
  have hf := Frame.row wr w.heap.size (gotA D.got)
  refine ⟨⟨rfl, ⟨now, hk _ _ _ _ _ h.rep hf (fun k hk e => by have := ho k hk; omega), h.here⟩, h.fr.trans (hf.mono (fun k _ e => .inr (by omega)))⟩, setRow_heap _ _ _ _ _ _ h.res⟩
theorem drive_stop {S : Type} (M : Mach S) (ins : List Strm) (cuts : List Int) (f n : Nat) (x : DS S) (h : ¬ (x.got.err = 0 ∧ x.got.need ≠ -1)) : drive M ins cuts f n x = x := by
  cases f with
  | zero => rfl
  | succ f => rw [drive, if_neg h]
theorem drive_none {S : Type} (M : Mach S) (ins : List Strm) (cuts : List Int) (f n : Nat) (x : DS S) (h : step M ins cuts n x = none) : drive M ins cuts f n x = x := by
  cases f with
  | zero => rfl
  | succ f => rw [drive, h]; simp
theorem drive_some {S : Type} (M : Mach S) (ins : List Strm) (cuts : List Int) (f n : Nat) (x y : DS S) (hf : n < f) (h : step M ins cuts n x = some y) (h1 : x.got.err = 0 ∧ x.got.need ≠ -1) : drive M ins cuts (f - n) n x = drive M ins cuts (f - (n + 1)) (n + 1) y := by
  obtain ⟨d, rfl⟩ : ∃ d, f = n + 1 + d := ⟨f - (n + 1), by omega⟩
  rw [show n + 1 + d - n = d + 1 by omega, show n + 1 + d - (n + 1) = d by omega, drive, if_pos h1, h]

theorem DInv.next {S : Type} {M : Mach S} {own : Nat → Prop} {Rep : S → (Nat → Prop) → World → Prop} {ins : List Strm} {cuts : List Int} {w : World} {D : DS S} {n : Nat} {x : DS S} {now : Nat → Prop} {wr : World} (h : DInv M own Rep ins cuts w D n x now wr)
    (hn : (n : Int) < 100000) (h1 : x.got.err = 0 ∧ x.got.need ≠ -1) (x' : DS S) (r : S × Outs × Int) {now' : Nat → Prop} {W : World} (hs : step M ins cuts n x = some (after M x' r)) (hrep : Rep r.1 now' W) (hnow : ∀ k, now' k → (own k ∧ k < w.heap.size) ∨ w.heap.size + 3 ≤ k) (hgot : IsGot (w.heap.size + 1) (after M x' r).got W)
    (htold : W.heap[w.heap.size + 2]? = some (.cells (toldA x'.told) 83 (0, 0))) (hfr : Frame (fun k => now k ∨ k = w.heap.size + 1 ∨ k = w.heap.size + 2) wr W) (hok : OutsOk r.2.1)
    (ho : x'.got.outs = x.got.outs) (ht : ∀ (i : Nat) t, ins[i]? = some t → x'.got.taken i ≤ t.bytes.length) (hh : x'.got.held = x.got.held) (hb : 0 ≤ M.held r.1 ∧ M.held r.1 ≤ 1000000) : DInv M own Rep ins cuts w D (n + 1) (after M x' r) now' W := by
  refine ⟨by omega, by rw [h.eq]; exact drive_some M ins cuts 100000 n x _ (by omega) hs h1, hrep, hnow, rfl, hgot, htold, hfr.heap h.res (fun e => by rcases e with e | e | e; (have := h.here _ e; omega); omega; omega), h.fr.trans (hfr.mono fun k _ e => by rcases e with e | e; (rcases h.here k e with e | e; exact .inl e.1; exact .inr (by omega)); exact .inr (by omega)), ?_, ht, ?_⟩
  · intro i hi
    have h2 := putOuts_le x'.got.outs i r.2.1
    have h3 := h.outs i hi
    have h4 := hok.sum
    show (putOuts x'.got.outs r.2.1 i).length ≤ 1024 * (n + 1)
    rw [ho] at h2 ⊢
    omega
  · have h3 := h.heldB
    show 0 ≤ max x'.got.held (M.held r.1) ∧ max x'.got.held (M.held r.1) ≤ 1000000
    rw [hh]
    omega

theorem heap3 (w : World) (o1 o2 o3 : Obj) : (((w.alloc o1).alloc o2).alloc o3).heap[w.heap.size]? = some o1 ∧ (((w.alloc o1).alloc o2).alloc o3).heap[w.heap.size + 1]? = some o2 ∧ (((w.alloc o1).alloc o2).alloc o3).heap[w.heap.size + 2]? = some o3 := by
  refine ⟨?_, ?_, ?_⟩
  · rw [Below.heap_alloc _ _ _ (by simp; omega), Below.heap_alloc _ _ _ (by simp)]
    exact heap_alloc_last w o1
  · rw [Below.heap_alloc _ _ _ (by simp)]
    have := heap_alloc_last (w.alloc o1) o2
    simpa using this
  · have := heap_alloc_last ((w.alloc o1).alloc o2) o3
    simpa using this

end Go.Proofs.YtlflhjgfegflfaaDoor
