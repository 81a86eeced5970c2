/- What does does: one call of a ring and of the document's ring of the same chunks comes to such two again. -/
import Derived.Test.YtgipgeeiibkjjaaStands
namespace Go.Proofs.Ytgipgeeiibkjjaa
open Go.RowKit

/-- Both, behind the call. -/
def BothAre (w : World) (e : Ending) (w' : World) : Prop :=
  ∃ c L v, e = .returned (.tuple #[.agg (ringA c L), refV c v, .bool true]) ∧ Good c L ∧ IsTexts w' v L ∧ Below w.heap.size w w'

/-- What is known while the call is made. -/
structure Doing (w : World) (c : Nat) (L : Chunks) (v : Value) (q : Int) (bv : Value) (W : World) : Prop where
  ring : W.heap[w.heap.size]? = some (.cells (ringA c L) 30 (0, 0))
  ref : W.heap[w.heap.size + 1]? = some (.cells #[.int .i64 c, v] 36 (0, 0))
  act : W.heap[w.heap.size + 2]? = some (.cells #[.int .i64 q, bv] 44 (0, 0))
  r1 : ∃ cs : Array Value, cs.size = 266 ∧ W.heap[w.heap.size + 3]? = some (.cells cs 30 (0, 0))
  r2 : ∃ cs : Array Value, cs.size = 2 ∧ W.heap[w.heap.size + 4]? = some (.cells cs 36 (0, 0))
  txt : IsTexts W v L
  bel : Below w.heap.size w W
theorem Doing.below {w : World} {c : Nat} {L : Chunks} {v : Value} {q : Int} {bv : Value} {W W' : World} (h : Doing w c L v q bv W) (hb : Below W.heap.size W W') : Doing w c L v q bv W' :=
  ⟨(hb.block _ (Array.getElem?_eq_some_iff.1 h.ring).1).trans h.ring, (hb.block _ (Array.getElem?_eq_some_iff.1 h.ref).1).trans h.ref, (hb.block _ (Array.getElem?_eq_some_iff.1 h.act).1).trans h.act,
   (by obtain ⟨cs, h1, h2⟩ := h.r1; exact ⟨cs, h1, (hb.block _ (Array.getElem?_eq_some_iff.1 h2).1).trans h2⟩),
   (by obtain ⟨cs, h1, h2⟩ := h.r2; exact ⟨cs, h1, (hb.block _ (Array.getElem?_eq_some_iff.1 h2).1).trans h2⟩), h.txt.below hb, h.bel.trans (hb.mono h.bel.size)⟩
theorem Doing.cell0 {w : World} {c : Nat} {L : Chunks} {v : Value} {q : Int} {bv : Value} {W : World} (h : Doing w c L v q bv W) : W.cell? ⟨w.heap.size + 1, 0, none⟩ = some (.int .i64 c) := by rw [cell_of_row _ _ _ _ _ _ h.ref]; rfl
theorem Doing.cell1 {w : World} {c : Nat} {L : Chunks} {v : Value} {q : Int} {bv : Value} {W : World} (h : Doing w c L v q bv W) : W.cell? ⟨w.heap.size + 1, 1, none⟩ = some v := by rw [cell_of_row _ _ _ _ _ _ h.ref]; rfl
theorem Doing.op {w : World} {c : Nat} {L : Chunks} {v : Value} {q : Int} {bv : Value} {W : World} (h : Doing w c L v q bv W) : W.cell? ⟨w.heap.size + 2, 0, none⟩ = some (.int .i64 q) := by rw [cell_of_row _ _ _ _ _ _ h.act]; rfl
theorem Doing.byt {w : World} {c : Nat} {L : Chunks} {v : Value} {q : Int} {bv : Value} {W : World} (h : Doing w c L v q bv W) : W.cell? ⟨w.heap.size + 2, 1, none⟩ = some bv := by rw [cell_of_row _ _ _ _ _ _ h.act]; rfl
theorem Doing.alloc {w : World} {c : Nat} {L : Chunks} {v : Value} {q : Int} {bv : Value} {W : World} (h : Doing w c L v q bv W) (o : Obj) : Doing w c L v q bv (W.alloc o) := h.below ((Below.refl _ _).alloc (Nat.le_refl _) _)

theorem ret_both {fn : Func} {p u x : Tmp} (hr : fn.results = #[.cell p 30, .cell u 36, .tmp x]) {a : Act} {w : World} {R : Ending → World → Prop} {B B' : Nat} {cs cs' : Array Value}
    (hd : a.defers = []) (hp : a.tmps.getD p undef = .pointer (some ⟨B, 0, none⟩)) (hu : a.tmps.getD u undef = .pointer (some ⟨B', 0, none⟩)) (hg : w.heap[B]? = some (.cells cs 30 (0, 0))) (hs : cs.size = 266)
    (hg' : w.heap[B']? = some (.cells cs' 36 (0, 0))) (hs' : cs'.size = 2)
    (h : R (.returned (.tuple #[.agg cs, .agg cs', a.tmps.getD x undef])) w) : bodyPost Try.prog fn R .ret a w := by
  refine bodyPost_ret (v := .tuple #[.agg cs, .agg cs', a.tmps.getD x undef]) ?_ hd h
  have hp' : a.tmps[p]?.getD undef = .pointer (some ⟨B, 0, none⟩) := by simpa using hp
  have hu' : a.tmps[u]?.getD undef = .pointer (some ⟨B', 0, none⟩) := by simpa using hu
  have hl := run_loadVar_row (P := Try.prog) w B 30 30 cs (0, 0) _ hg Try.underlying30 rfl (by rw [Try.size30, hs])
  have hl' := run_loadVar_row (P := Try.prog) w B' 36 36 cs' (0, 0) _ hg' Try.underlying36 rfl (by rw [Try.size36, hs'])
  simp [results, hr, hp', hu', asAddr, hl, hl']

theorem doing_start (w : World) (c : Nat) (L : Chunks) (v : Value) (q : Int) (bv : Value) (hT : IsTexts w v L) :
    Doing w c L v q bv (((((w.alloc (.cells (ringA c L) 30)).alloc (.cells #[.int .i64 c, v] 36)).alloc (.cells #[.int .i64 q, bv] 44)).alloc (.cells (ringA 0 []) 30)).alloc (.cells #[.int .i64 0, .slice none 0 0] 36)) := by
  have hb3 : Below w.heap.size w (((w.alloc (.cells (ringA c L) 30)).alloc (.cells #[.int .i64 c, v] 36)).alloc (.cells #[.int .i64 q, bv] 44)) := (((Below.refl _ _).alloc (Nat.le_refl _) _).alloc (by simp) _).alloc (by simp; omega) _
  have hb5 := (hb3.alloc hb3.size (.cells (ringA 0 []) 30)).alloc (by simp; omega) (.cells #[.int .i64 0, .slice none 0 0] 36)
  refine ⟨?_, ?_, ?_, ⟨_, size_zero, ?_⟩, ⟨_, rfl, heap_at (by simp)⟩, hT.below hb5, hb5⟩
  · rw [Below.heap_alloc _ _ _ (by simp; omega), Below.heap_alloc _ _ _ (by simp; omega)]; exact heap_first3 w _ _ _
  · rw [Below.heap_alloc _ _ _ (by simp), Below.heap_alloc _ _ _ (by simp)]; exact heap_second3 w _ _ _
  · rw [Below.heap_alloc _ _ _ (by simp), Below.heap_alloc _ _ _ (by simp)]; exact heap_at (by simp)
  · rw [Below.heap_alloc _ _ _ (by simp)]; exact heap_at (by simp)

end Go.Proofs.Ytgipgeeiibkjjaa
