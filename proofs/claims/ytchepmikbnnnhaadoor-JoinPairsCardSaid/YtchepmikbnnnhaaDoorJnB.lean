/- Join's machine in memory: its own block with both sides in it, the blocks of the lines that wait and of the groups. -/
import Derived.Test.YtchepmikbnnnhaaDoorQA
import Derived.Test.YtchepmikbnnnhaaDoorJnA
import Derived.Test.YtchepmikbnnnhaaDoorCutby
import Derived.Test.YtchepmikbnnnhaaDoorDone
import Derived.Outline
import Derived.Deep.RegionHeld3
import Derived.Deep.QuietTactic
import Derived.BigQuiet
import Derived.Test.YtchepmikbnnnhaaDoorReadto
import Derived.Test.YtchepmikbnnnhaaDoorIpieces
import Derived.Lib.SliceRun
import Derived.Handy
import Derived.Test.YtchepmikbnnnhaaDoorJoinby
import Derived.Test.YtchepmikbnnnhaaDoorItell
import Derived.Test.YtchepmikbnnnhaaDoorRC
namespace Go.Proofs.YtchepmikbnnnhaaDoor
open Go.RowKit

/-! One side. -/
section
variable {g o : Nat} {T : TypeId} {pre post : List Value} {f : Bool} {b : List UInt8} {w : World} {wv ovv kv gv : Value}
theorem Spl.c68 (h : Spl g o T pre (wv :: ovv :: kv :: gv :: post) f b w) : w.cell? ⟨g, o + 68, none⟩ = some kv := by
  rw [cell_of_row _ _ _ _ _ _ h.heap, ← h.off]
  simp only [rowA, List.getElem?_toArray]
  rw [List.getElem?_append_right (by simp [length_splL h.le])]
  simp [length_splL h.le, show pre.length + 68 - (pre.length + 66) = 2 by omega]
theorem Spl.c69 (h : Spl g o T pre (wv :: ovv :: kv :: gv :: post) f b w) : w.cell? ⟨g, o + 69, none⟩ = some gv := by
  rw [cell_of_row _ _ _ _ _ _ h.heap, ← h.off]
  simp only [rowA, List.getElem?_toArray]
  rw [List.getElem?_append_right (by simp [length_splL h.le])]
  simp [length_splL h.le, show pre.length + 69 - (pre.length + 66) = 3 by omega]
theorem Spl.put68 (h : Spl g o T pre (wv :: ovv :: kv :: gv :: post) f b w) (v : Value) : Spl g o T pre (wv :: ovv :: v :: gv :: post) f b (w.setCell ⟨g, o + 68, none⟩ v) := by
  refine ⟨?_, h.off, h.le, h.fail⟩
  rw [setCell_row h.heap, ← h.off]
  simp only [rowA, List.setIfInBounds_toArray]
  rw [List.set_append_right _ _ (by simp [length_splL h.le])]
  simp [length_splL h.le, show pre.length + 68 - (pre.length + 66) = 2 by omega]
theorem Spl.put69 (h : Spl g o T pre (wv :: ovv :: kv :: gv :: post) f b w) (v : Value) : Spl g o T pre (wv :: ovv :: kv :: v :: post) f b (w.setCell ⟨g, o + 69, none⟩ v) := by
  refine ⟨?_, h.off, h.le, h.fail⟩
  rw [setCell_row h.heap, ← h.off]
  simp only [rowA, List.setIfInBounds_toArray]
  rw [List.set_append_right _ _ (by simp [length_splL h.le])]
  simp [length_splL h.le, show pre.length + 69 - (pre.length + 66) = 3 by omega]
theorem Spl.preAt (h : Spl g o T pre post f b w) {i : Nat} {v : Value} (hi : pre[i]? = some v) : w.cell? ⟨g, i, none⟩ = some v := by
  rw [cell_of_row _ _ _ _ _ _ h.heap]
  simp only [rowA, List.getElem?_toArray]
  have := (List.getElem?_eq_some_iff.1 hi).1
  rw [List.append_assoc, List.getElem?_append_left this]
  exact hi
end
/-- A side lies in block g, from offset o on: its queue, its group (in the block of Y), the group's key. -/
structure SRepK (kv : Value) (g o : Nat) (pre post : List Value) (f : Bool) (b : List UInt8) (X : Nat → Prop) (W : Lines) (ov : Bool) (Y : Nat → Prop) (G : Lines) (wv gv : Value) (w : World) : Prop where
  q : QRep g o 92 pre (kv :: gv :: post) f b X W ov wv w
  grp : KeptIn w gv Y G
  away : ¬ Y g
  apart : ∀ k, X k → ¬ Y k
  max : MaxAt w
  low : g ≠ 1 ∧ (∀ k, X k → k ≠ 1) ∧ ∀ k, Y k → k ≠ 1
/-- .. the key is that of the group. -/
abbrev SRep (a : UInt8) (g o : Nat) (pre post : List Value) (f : Bool) (b : List UInt8) (X : Nat → Prop) (W : Lines) (ov : Bool) (Y : Nat → Prop) (G : Lines) (wv gv : Value) (w : World) : Prop := SRepK (strV (keyG a G)) g o pre post f b X W ov Y G wv gv w
/-- The side is as told; nothing else has turned. -/
def STurns (a : UInt8) (g o : Nat) (pre post : List Value) (f : Bool) (b : List UInt8) (X : Nat → Prop) (W : Lines) (ov : Bool) (Y : Nat → Prop) (G : Lines) (w : World) (v : Value) (e : Ending) (w' : World) : Prop :=
  ∃ X' Y' wv' gv', e = .returned v ∧ SRep a g o pre post f b X' W ov Y' G wv' gv' w' ∧ (∀ k, X' k ∨ Y' k → X k ∨ Y k ∨ w.heap.size ≤ k) ∧ Frame (fun k => k = g ∨ X k ∨ Y k) w w'
section
variable {kv : Value} {a : UInt8} {g o : Nat} {pre post : List Value} {f : Bool} {b : List UInt8} {X : Nat → Prop} {W : Lines} {ov : Bool} {Y : Nat → Prop} {G : Lines} {wv gv : Value} {w w' : World}
theorem SRepK.c68 (h : SRepK kv g o pre post f b X W ov Y G wv gv w) : w.cell? ⟨g, o + 68, none⟩ = some kv := h.q.spl.c68
theorem SRepK.c69 (h : SRepK kv g o pre post f b X W ov Y G wv gv w) : w.cell? ⟨g, o + 69, none⟩ = some gv := h.q.spl.c69
theorem SRepK.froz (h : SRepK kv g o pre post f b X W ov Y G wv gv w) (k : Nat) : w.frozen? ⟨g, k, none⟩ = false := h.q.spl.froz k
theorem SRepK.old (h : SRepK kv g o pre post f b X W ov Y G wv gv w) : g < w.heap.size ∧ (∀ k, X k → k < w.heap.size) ∧ ∀ k, Y k → k < w.heap.size := ⟨h.q.spl.lt, h.q.kept.old, h.grp.old⟩
theorem SRepK.frame {p : Nat → Prop} (h : SRepK kv g o pre post f b X W ov Y G wv gv w) (hf : Frame p w w') (hp : ∀ k, k = g ∨ X k ∨ Y k ∨ k = 1 → ¬ p k) : SRepK kv g o pre post f b X W ov Y G wv gv w' :=
  ⟨⟨h.q.spl.frame hf (hp g (.inl rfl)), h.q.kept.frame hf (fun k hk => hp k (.inr (.inl hk))), h.q.away⟩, h.grp.frame hf (fun k hk => hp k (.inr (.inr (.inl hk)))), h.away, h.apart, h.max.frame hf (hp _ (.inr (.inr (.inr rfl)))), h.low⟩
theorem SRepK.below (h : SRepK kv g o pre post f b X W ov Y G wv gv w) (hb : Below w.heap.size w w') : SRepK kv g o pre post f b X W ov Y G wv gv w' := h.frame (Below.toFrame hb fun _ => False) (fun _ _ h => h)
theorem SRepK.drewN (h : SRepK kv g o pre post f b X W ov Y G wv gv w) (n : Nat) : SRepK kv g o pre post f b X W ov Y G wv gv (w.drewN n) := h.frame ((Frame.refl (fun _ => False) w).drewN n) (fun _ _ h => h)
/-- The queue is turned. -/
theorem SRepK.turn (h : SRepK kv g o pre post f b X W ov Y G wv gv w) {f' : Bool} {b' : List UInt8} {X' : Nat → Prop} {W' : Lines} {ov' : Bool} {wv' : Value} (hq : QRep g o 92 pre (kv :: gv :: post) f' b' X' W' ov' wv' w') (hX : ∀ k, X' k → X k ∨ w.heap.size ≤ k) (hf : Frame (fun k => k = g ∨ X k) w w') :
    SRepK kv g o pre post f' b' X' W' ov' Y G wv' gv w' := by
  have ho := h.old
  have hm := h.max.lt
  refine ⟨hq, h.grp.frame hf (fun k hk e => ?_), h.away, fun k hk hy => ?_, h.max.frame hf (fun e => ?_), h.low.1, fun k hk => ?_, h.low.2.2⟩
  · rcases e with e | e
    · subst e; exact h.away hk
    · exact h.apart k e hk
  · rcases hX k hk with e | e
    · exact h.apart k e hy
    · have := ho.2.2 k hy; omega
  · rcases e with e | e
    · exact h.low.1 e.symm
    · exact h.low.2.1 _ e rfl
  · rcases hX k hk with e | e
    · exact h.low.2.1 k e
    · omega
/-- The group and its key are set. -/
theorem SRepK.put (h : SRepK kv g o pre post f b X W ov Y G wv gv w) {w1 w2 : World} {kv' : Value} {G' : Lines} {gv' : Value} {Y' : Nat → Prop} (hs : Spl g o 92 pre (wv :: .bool ov :: kv' :: gv' :: post) f b w2) (hk : KeptIn w1 gv' Y' G') (hf : Frame Y w w1) (hc : Frame (· = g) w1 w2) (hY : ∀ k, Y' k → Y k ∨ w.heap.size ≤ k) :
    SRepK kv' g o pre post f b X W ov Y' G' wv gv' w2 := by
  have ho := h.old
  have hm := h.max.lt
  have hYg : ∀ k, Y' k → k ≠ g := fun k hk e => by
    subst e
    rcases hY k hk with e | e
    · exact h.away e
    · omega
  have hXY : ∀ k, X k → ¬ Y' k := fun k hx hy => by
    rcases hY k hy with e | e
    · exact h.apart k hx e
    · have := ho.2.1 k hx; omega
  refine ⟨⟨hs, (h.q.kept.frame hf (fun k hk => h.apart k hk)).frame hc (fun k hk e => h.q.away (by have e' : k = g := e; rw [← e']; exact hk)), h.q.away⟩, hk.frame hc hYg, fun e => hYg g e rfl, hXY, (h.max.frame hf (fun e => h.low.2.2 _ e rfl)).frame hc (fun e => h.low.1 e.symm), h.low.1, h.low.2.1, fun k hk => ?_⟩
  rcases hY k hk with e | e
  · exact h.low.2.2 k e
  · omega
/-- The key alone is set. -/
theorem SRepK.setKey (h : SRepK kv g o pre post f b X W ov Y G wv gv w) (kv' : Value) : SRepK kv' g o pre post f b X W ov Y G wv gv (w.setCell ⟨g, o + 68, none⟩ kv') :=
  h.put (w1 := w) (h.q.spl.put68 kv') h.grp (Frame.refl _ w) (Frame.cell w ⟨g, o + 68, none⟩ kv') (fun _ e => .inl e)
/-- The group has grown. -/
theorem SRepK.grown (h : SRepK kv g o pre post f b X W ov Y G wv gv w) {w1 : World} {G' : Lines} {gv' : Value} {Y' : Nat → Prop} (hk : KeptIn w1 gv' Y' G') (hf : Frame Y w w1) (hY : ∀ k, Y' k → Y k ∨ w.heap.size ≤ k) : SRepK kv g o pre post f b X W ov Y' G' wv gv' (w1.setCell ⟨g, o + 69, none⟩ gv') :=
  h.put (w1 := w1) ((h.q.spl.frame hf h.away).put69 gv') hk hf (Frame.cell w1 ⟨g, o + 69, none⟩ gv') hY
end

/-! The machine. -/
def sideL (a : UInt8) (f : Bool) (b : List UInt8) (wv : Value) (ov : Bool) (G : Lines) (gv : Value) : List Value := splL f b ++ [wv, .bool ov, strV (keyG a G), gv]
theorem length_sideL {a : UInt8} {f : Bool} {b : List UInt8} {wv : Value} {ov : Bool} {G : Lines} {gv : Value} (h : b.length ≤ 64) : (sideL a f b wv ov G gv).length = 70 := by simp [sideL, length_splL h]
def headV (N : Nat) (a : UInt8) (g : Nat) (nd : Int) : List Value :=
  [.int .i64 nd, .func (.func 33) #[.pointer (some ⟨g, 0, none⟩)] #[], .func (.func 31) #[.pointer (some ⟨g, 0, none⟩)] #[], .func (.func 32) #[.pointer (some ⟨g, 0, none⟩)] #[], .func (.func 34) #[.pointer (some ⟨g, 0, none⟩)] #[], strV [a], .int .i64 N]
theorem length_headV (N : Nat) (a : UInt8) (g : Nat) (nd : Int) : (headV N a g nd).length = 7 := rfl
def jRow (N : Nat) (a : UInt8) (g : Nat) (nd : Int) (f : Nat → Bool) (b : Nat → List UInt8) (t : JT) (told : Nat) (val gval : Nat → Value) : Array Value :=
  (headV N a g nd ++ (sideL a (f 0) (b 0) (val 0) (t.ov 0) (t.G 0) (gval 0) ++ (sideL a (f 1) (b 1) (val 1) (t.ov 1) (t.G 1) (gval 1) ++ [Value.int .i64 told]))).toArray
structure JRep (N : Nat) (a : UInt8) (g : Nat) (nd : Int) (f : Nat → Bool) (b : Nat → List UInt8) (t : JT) (told : Nat) (X Y : Nat → Nat → Prop) (val gval : Nat → Value) (w : World) : Prop where
  mach : w.heap[g]? = some (.cells (jRow N a g nd f b t told val gval) 92 (0, 0))
  le : ∀ j, j < 2 → (b j).length ≤ 64
  fail : ∀ j, j < 2 → f j = true → b j = []
  kept : ∀ j, j < 2 → KeptIn w (val j) (X j) (t.W j)
  grp : ∀ j, j < 2 → KeptIn w (gval j) (Y j) (t.G j)
  away : ∀ j k, j < 2 → X j k ∨ Y j k → k ≠ g ∧ k ≠ 1
  apart : ∀ k, ¬ ((X 0 k ∨ Y 0 k) ∧ (X 1 k ∨ Y 1 k))
  apart2 : ∀ j k, j < 2 → X j k → ¬ Y j k
  max : MaxAt w
  low : g ≠ 1
/-- What is the machine's own. -/
def ownJ (g : Nat) (X Y : Nat → Nat → Prop) (k : Nat) : Prop := k = g ∨ X 0 k ∨ Y 0 k ∨ X 1 k ∨ Y 1 k
theorem ownJ_at {g : Nat} {X Y : Nat → Nat → Prop} {j k : Nat} (hj : j < 2) (h : X j k ∨ Y j k) : ownJ g X Y k := by
  obtain rfl | rfl : j = 0 ∨ j = 1 := by omega
  · rcases h with h | h
    · exact .inr (.inl h)
    · exact .inr (.inr (.inl h))
  · rcases h with h | h
    · exact .inr (.inr (.inr (.inl h)))
    · exact .inr (.inr (.inr (.inr h)))
theorem ownJ_cases {g : Nat} {X Y : Nat → Nat → Prop} {k : Nat} (h : ownJ g X Y k) : k = g ∨ ∃ j, j < 2 ∧ (X j k ∨ Y j k) := by
  rcases h with h | h | h | h | h
  · exact .inl h
  · exact .inr ⟨0, by decide, .inl h⟩
  · exact .inr ⟨0, by decide, .inr h⟩
  · exact .inr ⟨1, by decide, .inl h⟩
  · exact .inr ⟨1, by decide, .inr h⟩
section
variable {N : Nat} {a : UInt8} {g : Nat} {nd : Int} {f : Nat → Bool} {b : Nat → List UInt8} {t : JT} {told : Nat} {X Y : Nat → Nat → Prop} {val gval : Nat → Value} {w w' : World}
theorem jRow_at {i : Nat} (hi : i < 7) : (jRow N a g nd f b t told val gval)[i]? = (headV N a g nd)[i]? := by
  unfold jRow
  rw [List.getElem?_toArray, List.getElem?_append_left (by simp [headV]; omega)]
theorem jRow_told (hb : ∀ j, j < 2 → (b j).length ≤ 64) : (jRow N a g nd f b t told val gval)[147]? = some (.int .i64 told) := by
  unfold jRow
  have h0 := length_sideL (a := a) (f := f 0) (wv := val 0) (ov := t.ov 0) (G := t.G 0) (gv := gval 0) (hb 0 (by decide))
  have h1 := length_sideL (a := a) (f := f 1) (wv := val 1) (ov := t.ov 1) (G := t.G 1) (gv := gval 1) (hb 1 (by decide))
  rw [List.getElem?_toArray, List.getElem?_append_right (by rw [length_headV]; decide), List.getElem?_append_right (by rw [h0, length_headV]; decide), List.getElem?_append_right (by rw [h0, h1, length_headV]; decide), h0, h1, length_headV]
  rfl
theorem jRow_size (hb : ∀ j, j < 2 → (b j).length ≤ 64) : (jRow N a g nd f b t told val gval).size = 148 := by
  unfold jRow
  have h0 := length_sideL (a := a) (f := f 0) (wv := val 0) (ov := t.ov 0) (G := t.G 0) (gv := gval 0) (hb 0 (by decide))
  have h1 := length_sideL (a := a) (f := f 1) (wv := val 1) (ov := t.ov 1) (G := t.G 1) (gv := gval 1) (hb 1 (by decide))
  simp [headV, h0, h1]
theorem JRep.head (h : JRep N a g nd f b t told X Y val gval w) {i : Nat} {v : Value} (hi : i < 7) (hv : (headV N a g nd)[i]? = some v) : w.cell? ⟨g, i, none⟩ = some v := by rw [cell_of_row _ _ _ _ _ _ h.mach, jRow_at hi, hv]
theorem JRep.c0 (h : JRep N a g nd f b t told X Y val gval w) : w.cell? ⟨g, 0, none⟩ = some (.int .i64 nd) := h.head (by decide) rfl
theorem JRep.c1 (h : JRep N a g nd f b t told X Y val gval w) : w.cell? ⟨g, 1, none⟩ = some (.func (.func 33) #[.pointer (some ⟨g, 0, none⟩)] #[]) := h.head (by decide) rfl
theorem JRep.c2 (h : JRep N a g nd f b t told X Y val gval w) : w.cell? ⟨g, 2, none⟩ = some (.func (.func 31) #[.pointer (some ⟨g, 0, none⟩)] #[]) := h.head (by decide) rfl
theorem JRep.c3 (h : JRep N a g nd f b t told X Y val gval w) : w.cell? ⟨g, 3, none⟩ = some (.func (.func 32) #[.pointer (some ⟨g, 0, none⟩)] #[]) := h.head (by decide) rfl
theorem JRep.c4 (h : JRep N a g nd f b t told X Y val gval w) : w.cell? ⟨g, 4, none⟩ = some (.func (.func 34) #[.pointer (some ⟨g, 0, none⟩)] #[]) := h.head (by decide) rfl
theorem JRep.c5 (h : JRep N a g nd f b t told X Y val gval w) : w.cell? ⟨g, 5, none⟩ = some (strV [a]) := h.head (by decide) rfl
theorem JRep.c6 (h : JRep N a g nd f b t told X Y val gval w) : w.cell? ⟨g, 6, none⟩ = some (.int .i64 N) := h.head (by decide) rfl
theorem JRep.c147 (h : JRep N a g nd f b t told X Y val gval w) : w.cell? ⟨g, 147, none⟩ = some (.int .i64 told) := by rw [cell_of_row _ _ _ _ _ _ h.mach, jRow_told h.le]
theorem JRep.froz (h : JRep N a g nd f b t told X Y val gval w) (o : Nat) : w.frozen? ⟨g, o, none⟩ = false := by simp [World.frozen?, h.mach]
theorem JRep.lt (h : JRep N a g nd f b t told X Y val gval w) : g < w.heap.size := (Array.getElem?_eq_some_iff.1 h.mach).1
theorem JRep.frame {p : Nat → Prop} (h : JRep N a g nd f b t told X Y val gval w) (hf : Frame p w w') (hp : ∀ k, ownJ g X Y k ∨ k = 1 → ¬ p k) : JRep N a g nd f b t told X Y val gval w' :=
  ⟨hf.heap h.mach (hp g (.inl (.inl rfl))), h.le, h.fail, fun j hj => (h.kept j hj).frame hf (fun k hk => hp k (.inl (ownJ_at hj (.inl hk)))), fun j hj => (h.grp j hj).frame hf (fun k hk => hp k (.inl (ownJ_at hj (.inr hk)))), h.away, h.apart, h.apart2, h.max.frame hf (hp _ (.inr rfl)), h.low⟩
theorem JRep.below (h : JRep N a g nd f b t told X Y val gval w) (hb : Below w.heap.size w w') : JRep N a g nd f b t told X Y val gval w' := h.frame (Below.toFrame hb fun _ => False) (fun _ _ h => h)
theorem JRep.old (h : JRep N a g nd f b t told X Y val gval w) : ∀ k, ownJ g X Y k → k < w.heap.size := fun k hk => by
  rcases ownJ_cases hk with rfl | ⟨j, hj, hk | hk⟩
  · exact h.lt
  · exact (h.kept j hj).old k hk
  · exact (h.grp j hj).old k hk
/-- The machine's own block is turned ahead of its sides, or behind them. -/
theorem JRep.turn (h : JRep N a g nd f b t told X Y val gval w) (hf : Frame (· = g) w w') {nd' : Int} {told' : Nat} (hm : w'.heap[g]? = some (.cells (jRow N a g nd' f b t told' val gval) 92 (0, 0))) : JRep N a g nd' f b t told' X Y val gval w' :=
  ⟨hm, h.le, h.fail, fun j hj => (h.kept j hj).frame hf (fun k hk e => (h.away j k hj (.inl hk)).1 e), fun j hj => (h.grp j hj).frame hf (fun k hk e => (h.away j k hj (.inr hk)).1 e), h.away, h.apart, h.apart2, h.max.frame hf (fun e => h.low e.symm), h.low⟩
theorem JRep.setNeed (h : JRep N a g nd f b t told X Y val gval w) (nd' : Int) : JRep N a g nd' f b t told X Y val gval (w.setCell ⟨g, 0, none⟩ (.int .i64 nd')) :=
  h.turn (Frame.cell w ⟨g, 0, none⟩ _) (by rw [setCell_row h.mach]; rfl)
theorem JRep.setTold (h : JRep N a g nd f b t told X Y val gval w) (told' : Nat) : JRep N a g nd f b t told' X Y val gval (w.setCell ⟨g, 147, none⟩ (.int .i64 told')) := by
  refine h.turn (Frame.cell w ⟨g, 147, none⟩ _) ?_
  rw [setCell_row h.mach]
  have h0 := length_sideL (a := a) (f := f 0) (wv := val 0) (ov := t.ov 0) (G := t.G 0) (gv := gval 0) (h.le 0 (by decide))
  have h1 := length_sideL (a := a) (f := f 1) (wv := val 1) (ov := t.ov 1) (G := t.G 1) (gv := gval 1) (h.le 1 (by decide))
  have : (jRow N a g nd f b t told val gval).setIfInBounds 147 (.int .i64 told') = jRow N a g nd f b t told' val gval := by
    unfold jRow
    rw [List.setIfInBounds_toArray, List.set_append_right _ _ (by rw [length_headV]; decide), List.set_append_right _ _ (by rw [h0, length_headV]; decide), List.set_append_right _ _ (by rw [h0, h1, length_headV]; decide), h0, h1, length_headV]
    rfl
  rw [this]
/-- One of the sides. -/
theorem JRep.side (h : JRep N a g nd f b t told X Y val gval w) {j : Nat} (hj : j < 2) :
    ∃ pre post, pre[5]? = some (strV [a]) ∧ pre[6]? = some (.int .i64 N) ∧ SRep a g (7 + j * 70) pre post (f j) (b j) (X j) (t.W j) (t.ov j) (Y j) (t.G j) (val j) (gval j) w ∧
      ∀ w' f' b' X' W' ov' Y' G' wv' gv', SRep a g (7 + j * 70) pre post f' b' X' W' ov' Y' G' wv' gv' w' → (∀ k, X' k ∨ Y' k → X j k ∨ Y j k ∨ w.heap.size ≤ k) → Frame (fun k => k = g ∨ X j k ∨ Y j k) w w' →
        JRep N a g nd (setAt f j f') (setAt b j b') ⟨setAt t.W j W', setAt t.ov j ov', setAt t.G j G'⟩ told (setAt X j X') (setAt Y j Y') (setAt val j wv') (setAt gval j gv') w' := by
  have hold := h.old
  have hm := h.max.lt
  have h0 := length_sideL (a := a) (f := f 0) (wv := val 0) (ov := t.ov 0) (G := t.G 0) (gv := gval 0) (h.le 0 (by decide))
  have key : ∀ (pre post : List Value), Spl g (7 + j * 70) 92 pre (val j :: .bool (t.ov j) :: strV (keyG a (t.G j)) :: gval j :: post) (f j) (b j) w → SRep a g (7 + j * 70) pre post (f j) (b j) (X j) (t.W j) (t.ov j) (Y j) (t.G j) (val j) (gval j) w := fun pre post hs =>
    ⟨⟨hs, h.kept j hj, fun e => (h.away j g hj (.inl e)).1 rfl⟩, h.grp j hj, fun e => (h.away j g hj (.inr e)).1 rfl, fun k hk => h.apart2 j k hj hk, h.max, h.low, fun k hk => (h.away j k hj (.inl hk)).2, fun k hk => (h.away j k hj (.inr hk)).2⟩
  have back : ∀ (w' : World) (f' : Bool) (b' : List UInt8) (X' : Nat → Prop) (W' : Lines) (ov' : Bool) (Y' : Nat → Prop) (G' : Lines) (wv' gv' : Value) (pre post : List Value), SRep a g (7 + j * 70) pre post f' b' X' W' ov' Y' G' wv' gv' w' → (∀ k, X' k ∨ Y' k → X j k ∨ Y j k ∨ w.heap.size ≤ k) → Frame (fun k => k = g ∨ X j k ∨ Y j k) w w' →
      rowA pre f' b' (wv' :: .bool ov' :: strV (keyG a G') :: gv' :: post) = jRow N a g nd (setAt f j f') (setAt b j b') ⟨setAt t.W j W', setAt t.ov j ov', setAt t.G j G'⟩ told (setAt val j wv') (setAt gval j gv') →
      JRep N a g nd (setAt f j f') (setAt b j b') ⟨setAt t.W j W', setAt t.ov j ov', setAt t.G j G'⟩ told (setAt X j X') (setAt Y j Y') (setAt val j wv') (setAt gval j gv') w' := fun w' f' b' X' W' ov' Y' G' wv' gv' pre post hs hX hf hrow => by
    have hother : ∀ i k, i < 2 → i ≠ j → X i k ∨ Y i k → ¬ (X' k ∨ Y' k) := fun i k hi hij h1 h2 => by
      rcases hX k h2 with e | e | e
      · exact h.apart k (by
          obtain rfl | rfl : i = 0 ∨ i = 1 := by omega
          · obtain rfl : j = 1 := by omega
            exact ⟨h1, .inl e⟩
          · obtain rfl : j = 0 := by omega
            exact ⟨.inl e, h1⟩)
      · exact h.apart k (by
          obtain rfl | rfl : i = 0 ∨ i = 1 := by omega
          · obtain rfl : j = 1 := by omega
            exact ⟨h1, .inr e⟩
          · obtain rfl : j = 0 := by omega
            exact ⟨.inr e, h1⟩)
      · have := hold k (ownJ_at hi h1); omega
    have hfr : ∀ i k, i < 2 → i ≠ j → X i k ∨ Y i k → ¬ (k = g ∨ X j k ∨ Y j k) := fun i k hi hij h1 h2 => by
      rcases h2 with e | e
      · exact (h.away i k hi h1).1 e
      · exact h.apart k (by
          obtain rfl | rfl : i = 0 ∨ i = 1 := by omega
          · obtain rfl : j = 1 := by omega
            exact ⟨h1, e⟩
          · obtain rfl : j = 0 := by omega
            exact ⟨e, h1⟩)
    refine ⟨by rw [hs.q.spl.heap, hrow], fun i hi => ?_, fun i hi => ?_, fun i hi => ?_, fun i hi => ?_, fun i k hi hk => ?_, fun k hk => ?_, fun i k hi hk => ?_, hs.max, h.low⟩
    · by_cases he : i = j
      · subst he; rw [setAt_self]; exact hs.q.spl.le
      · rw [setAt_other _ _ he]; exact h.le i hi
    · by_cases he : i = j
      · subst he; rw [setAt_self, setAt_self]; exact hs.q.spl.fail
      · rw [setAt_other _ _ he, setAt_other _ _ he]; exact h.fail i hi
    · by_cases he : i = j
      · subst he; simp only [setAt_self]; exact hs.q.kept
      · simp only [setAt_other _ _ he]; exact (h.kept i hi).frame hf (fun k hk => hfr i k hi he (.inl hk))
    · by_cases he : i = j
      · subst he; simp only [setAt_self]; exact hs.grp
      · simp only [setAt_other _ _ he]; exact (h.grp i hi).frame hf (fun k hk => hfr i k hi he (.inr hk))
    · by_cases he : i = j
      · subst he
        rw [setAt_self, setAt_self] at hk
        rcases hX k hk with e | e | e
        · exact h.away i k hi (.inl e)
        · exact h.away i k hi (.inr e)
        · have := hold g (.inl rfl)
          constructor <;> omega
      · rw [setAt_other _ _ he, setAt_other _ _ he] at hk
        exact h.away i k hi hk
    · obtain rfl | rfl : j = 0 ∨ j = 1 := by omega
      · rw [setAt_self, setAt_self, setAt_other _ _ (show 1 ≠ 0 by decide), setAt_other _ _ (show 1 ≠ 0 by decide)] at hk
        exact hother 1 k (by decide) (by decide) hk.2 hk.1
      · rw [setAt_self, setAt_self, setAt_other _ _ (show 0 ≠ 1 by decide), setAt_other _ _ (show 0 ≠ 1 by decide)] at hk
        exact hother 0 k (by decide) (by decide) hk.1 hk.2
    · by_cases he : i = j
      · subst he
        rw [setAt_self] at hk ⊢
        exact hs.apart k hk
      · rw [setAt_other _ _ he] at hk ⊢
        exact h.apart2 i k hi hk
  obtain rfl | rfl : j = 0 ∨ j = 1 := by omega
  · refine ⟨headV N a g nd, sideL a (f 1) (b 1) (val 1) (t.ov 1) (t.G 1) (gval 1) ++ [.int .i64 told], rfl, rfl, key _ _ ⟨?_, rfl, h.le 0 hj, h.fail 0 hj⟩, fun w' f' b' X' W' ov' Y' G' wv' gv' hs hX hf => back w' f' b' X' W' ov' Y' G' wv' gv' _ _ hs hX hf ?_⟩
    · rw [h.mach]
      unfold jRow rowA sideL
      simp
    · unfold jRow rowA
      simp only [setAt_self, setAt_other _ _ (show 1 ≠ 0 by decide)]
      unfold sideL
      simp
  · refine ⟨headV N a g nd ++ sideL a (f 0) (b 0) (val 0) (t.ov 0) (t.G 0) (gval 0), [.int .i64 told], rfl, rfl, key _ _ ⟨?_, by rw [List.length_append, h0]; rfl, h.le 1 hj, h.fail 1 hj⟩, fun w' f' b' X' W' ov' Y' G' wv' gv' hs hX hf => back w' f' b' X' W' ov' Y' G' wv' gv' _ _ hs hX hf ?_⟩
    · rw [h.mach]
      unfold jRow rowA sideL
      simp
    · unfold jRow rowA
      simp only [setAt_self, setAt_other _ _ (show 0 ≠ 1 by decide)]
      unfold sideL
      simp
end

end Go.Proofs.YtchepmikbnnnhaaDoor

namespace Go.Proofs.YtchepmikbnnnhaaDoor
open Go.RowKit

theorem str_less {x y : List UInt8} {S T : ByteArray} (hS : strV x = .string S) (hT : strV y = .string T) : Op.bytesLess S.toList T.toList = lessL x y ∧ (S.toList == T.toList) = decide (x = y) := by
  simp only [strV, Value.string.injEq] at hS hT
  subst hS hT
  refine ⟨?_, Pm.strV_eq x y⟩
  rw [ByteArray.toList_eq, ByteArray.toList_eq]
  rfl
def sliceN : Value → Nat
  | .slice _ n _ => n
  | _ => 0
section
variable {N : Nat} {a : UInt8} {g o : Nat} {pre post : List Value} {f : Bool} {b : List UInt8} {X : Nat → Prop} {W : Lines} {ov : Bool} {Y : Nat → Prop} {G : Lines} {wv gv : Value} {w : World}
set_option maxRecDepth 100000 in
set_option maxHeartbeats 2000000 in
theorem part_any (l : List UInt8) (c5 : w.cell? ⟨g, 5, none⟩ = some (strV [a])) (hm : MaxAt w) (hl : l.length ≤ 1000000) :
    Calls Tryd.prog 50 #[.pointer (some ⟨g, 0, none⟩), strV l] w fun e w' => e = .returned (.tuple #[strV (keyL a l), strV (restL a l)]) ∧ ∃ n, w' = w.drewN n := by
  have HC := Lib.hid (cutby_any a l w hl hm)
  obtain ⟨SA, hSA⟩ : ∃ S : ByteArray, strV [a] = .string S := ⟨_, rfl⟩
  obtain ⟨SL, hSL⟩ : ∃ S : ByteArray, strV l = .string S := ⟨_, rfl⟩
  obtain ⟨SK, hSK⟩ : ∃ S : ByteArray, strV (keyL a l) = .string S := ⟨_, rfl⟩
  obtain ⟨SR, hSR⟩ : ∃ S : ByteArray, strV (restL a l) = .string S := ⟨_, rfl⟩
  rw [hSA, hSL, hSK, hSR] at HC
  rw [hSA] at c5
  rw [hSL, hSK, hSR]
  clear hSA hSL hSK hSR hm hl
  go_enter Tryd.func50, Tryd.ntmps50
  go_wp2_with fail
  refine HC.out.mono ?_
  rintro e w1 ⟨⟨fd, rfl⟩, n, rfl⟩
  go_wp2_with fail
  go_ret2
  exact ⟨rfl, n, rfl⟩

set_option maxRecDepth 100000 in
set_option maxHeartbeats 2000000 in
theorem drop_any (h : SRep a g o pre post f b X W ov Y G wv gv w) :
    Calls Tryd.prog 53 #[.pointer (some ⟨g, o, none⟩)] w (STurns a g o pre post f b X W ov Y [] w (.tuple #[])) := by
  have c68 := h.c68
  have c69 := h.c69
  have z68 := h.froz (o + 68)
  have z69 := h.froz (o + 69)
  have H := Lib.hid h
  obtain ⟨SK, hSK⟩ : ∃ S : ByteArray, strV (keyG a G) = .string S := ⟨_, rfl⟩
  rw [hSK] at c68
  obtain ⟨ga, gc, hgv⟩ := h.grp.slice
  rw [hgv] at c69
  clear h hSK hgv
  go_enter Tryd.func53, Tryd.ntmps53
  go_wp2_with fail
  go_returns
  have hs := ((H.out.q.spl.put68 (strV (keyG a []))).put69 (.slice none 0 0))
  have hc := (Frame.cell w ⟨g, o + 68, none⟩ (strV (keyG a []))).trans (Frame.cell (w.setCell ⟨g, o + 68, none⟩ (strV (keyG a []))) ⟨g, o + 69, none⟩ (.slice none 0 0))
  exact ⟨X, fun _ => False, wv, .slice none 0 0, rfl, H.out.put (w1 := w) (Y' := fun _ => False) hs (.nil _ (fun _ h => h)) (Frame.refl _ w) hc (fun _ h => h.elim), fun k hk => by rcases hk with e | e; exact .inl e; exact e.elim, hc.mono (fun k _ e => .inl e)⟩

/-- What holds ahead of each line. -/
structure Reading (N : Nat) (a : UInt8) (g o : Nat) (pre post : List Value) (f : Bool) (b : List UInt8) (X : Nat → Prop) (W : Lines) (ov : Bool) (Y : Nat → Prop) (G : Lines) (w : World) (W1 G1 : Lines) (w' : World) : Prop where
  ex : ∃ X1 Y1 wv1 gv1, SRep a g o pre post f b X1 W1 ov Y1 G1 wv1 gv1 w' ∧ (∀ k, X1 k ∨ Y1 k → X k ∨ Y k ∨ w.heap.size ≤ k)
  same : readG N a ov W G = readG N a ov W1 G1
  len : G1.length + W1.length = G.length + W.length
  fine : ∀ l ∈ W1, l.length ≤ 1000
  fr : Frame (fun k => k = g ∨ X k ∨ Y k) w w'

set_option maxRecDepth 100000 in
set_option maxHeartbeats 8000000 in
theorem readGroup_any (h : SRep a g o pre post f b X W ov Y G wv gv w) (h5 : pre[5]? = some (strV [a])) (h6 : pre[6]? = some (.int .i64 N)) (hl : G.length + W.length ≤ 5000) (hf : ∀ l ∈ W, l.length ≤ 1000) :
    Calls Tryd.prog 56 #[.pointer (some ⟨g, 0, none⟩), .pointer (some ⟨g, o, none⟩)] w (STurns a g o pre post f b X (readG N a ov W G).1 ov Y (readG N a ov W G).2.1 w (.int .i64 (readG N a ov W G).2.2)) := by
  have HLen := Lib.hid hl
  have H5 := Lib.hid h5
  have H6 := Lib.hid h6
  have HI : Reading N a g o pre post f b X W ov Y G w W G w := ⟨⟨X, Y, wv, gv, h, fun k hk => by rcases hk with e | e; exact .inl e; exact .inr (.inl e)⟩, rfl, rfl, hf, Frame.refl _ _⟩
  have HI2 := Lib.hid HI
  have hfirst : ∀ (W1 : Lines) (w1 : World), (∃ G1, Reading N a g o pre post f b X W ov Y G w W1 G1 w1) → Calls Tryd.prog 66 #[.pointer (some ⟨g, o, none⟩)] w1 (Says w1 (.tuple #[strV (W1.headD []), .bool (!W1.isEmpty)])) := fun W1 w1 ⟨G1, hr⟩ => by
    obtain ⟨X1, Y1, wv1, gv1, h1, -⟩ := hr.ex
    cases W1 with
    | nil => exact qfirst_none h1.q
    | cons l r => exact qfirst_any h1.q
  have HFirst := Lib.hid hfirst
  have hf0 := hfirst W w ⟨G, HI⟩
  obtain ⟨S0, hS0⟩ : ∃ S : ByteArray, strV (W.headD []) = .string S := ⟨_, rfl⟩
  obtain ⟨B0, hB0⟩ : ∃ B, B = !W.isEmpty := ⟨_, rfl⟩
  rw [hS0, ← hB0] at hf0
  have HF0 := Lib.hid hf0
  have HS0 := Lib.hid hS0
  have HB0 := Lib.hid hB0
  obtain ⟨R, hR⟩ : ∃ R, R = readG N a ov W G := ⟨_, rfl⟩
  rw [← hR]
  have HR := Lib.hid hR
  clear h h5 h6 hl hf HI hfirst hf0 hS0 hB0 hR
  go_enter Tryd.func56, Tryd.ntmps56
  go_wp2_with fail
  refine HF0.out.mono ?_
  rintro e w' ⟨rfl, rfl⟩
  rename World => w
  go_wp2_with fail
  go_loopw [5, 6] (fun tv kv wr => ∃ W1 G1 : Lines, tv = strV (W1.headD []) ∧ kv = .bool (!W1.isEmpty) ∧ Reading N a g o pre post f b X W ov Y G w W1 G1 wr) (fun _ _ wr => G.length + W.length - sliceN ((wr.cell? ⟨g, o + 69, none⟩).getD (.slice none 0 0)))
  case atStart => exact ⟨W, G, HS0.out.symm, by rw [HB0.out], HI2.out⟩
  case round =>
    obtain ⟨W1, G1, rfl, rfl, hrd⟩ := hrel
    have HRd := Lib.hid hrd
    obtain ⟨⟨X1, Y1, wv1, gv1, h1, hx1⟩, hsame, hlen1, hfine1, hf1⟩ := hrd
    rename World => WR
    have H1 := Lib.hid h1
    have HX1 := Lib.hid hx1
    have HSame := Lib.hid hsame
    have HLen1 := Lib.hid hlen1
    have HFr1 := Lib.hid hf1
    obtain ⟨ga, gc, hgv⟩ := h1.grp.slice
    subst hgv
    have c69 := h1.c69
    have c68 := h1.c68
    obtain ⟨SG, hSG⟩ : ∃ S : ByteArray, strV (keyG a G1) = .string S := ⟨_, rfl⟩
    rw [hSG] at c68
    have HSG := Lib.hid hSG
    obtain ⟨n1, hn1⟩ : ∃ n, n = G1.length := ⟨_, rfl⟩
    rw [← hn1] at c69
    have HN1 := Lib.hid hn1
    have HM := Lib.hid (show sliceN ((WR.cell? ⟨g, o + 69, none⟩).getD (.slice none 0 0)) = n1 by rw [c69]; rfl)
    cases W1 with
    | nil =>
      have HOver := Lib.hid (qover_any h1.q)
      have hov : (ov && ([] : Lines).isEmpty) = ov := by simp
      rw [hov] at HOver
      clear h1 hx1 hsame hlen1 hfine1 hf1 hSG hn1 hov
      go_wp2_with fail
      refine HOver.out.mono ?_
      rintro e w' ⟨rfl, rfl⟩
      rename World => WR
      cases ov with
      | false =>
        go_wp2_with fail
        go_ret
        have hr : R = ([], G1, 0) := by rw [HR.out, HSame.out]; rfl
        rw [hr]
        exact ⟨X1, Y1, wv1, _, rfl, H1.out, HX1.out, HFr1.out⟩
      | true =>
        by_cases h0 : G1 = []
        · have hr : R = ([], G1, 2) := by rw [HR.out, HSame.out, h0]; rfl
          have hn0 : n1 = 0 := by rw [HN1.out, h0]; rfl
          have HRr := Lib.hid hr
          subst hn0
          clear hr h0
          go_wp2_with fail
          go_ret
          rw [HRr.out]
          exact ⟨X1, Y1, wv1, _, rfl, H1.out, HX1.out, HFr1.out⟩
        · have hr : R = ([], G1, 1) := by rw [HR.out, HSame.out]; simp [readG, h0]
          have q1 : ((n1 : Int) == 0) = false := by
            have : 0 < G1.length := List.length_pos_iff.2 h0
            rw [HN1.out]; simp; exact h0
          have HRr := Lib.hid hr
          clear hr h0
          go_wp2_with fail
          go_ret
          rw [HRr.out]
          exact ⟨X1, Y1, wv1, _, rfl, H1.out, HX1.out, HFr1.out⟩
    | cons l r =>
      simp only [List.headD_cons, List.isEmpty_cons, Bool.not_false]
      have c5 := h1.q.spl.preAt H5.out
      have hpart := part_any (a := a) (w := WR) (g := g) l c5 h1.max (by have := hfine1 l List.mem_cons_self; omega)
      obtain ⟨SL, hSL⟩ : ∃ S : ByteArray, strV l = .string S := ⟨_, rfl⟩
      obtain ⟨SK, hSK⟩ : ∃ S : ByteArray, strV (keyL a l) = .string S := ⟨_, rfl⟩
      obtain ⟨SR, hSR⟩ : ∃ S : ByteArray, strV (restL a l) = .string S := ⟨_, rfl⟩
      rw [hSL, hSK, hSR] at hpart
      rw [hSL]
      have HPart := Lib.hid hpart
      have HSK := Lib.hid hSK
      have HSL := Lib.hid hSL
      have HFine := Lib.hid hfine1
      obtain ⟨d1, d2⟩ := str_less hSK hSG
      clear h1 hx1 hsame hlen1 hfine1 hf1 hSG hn1 hSL hSK hSR c5 hpart c68 c69
      go_wp2_with fail
      refine HPart.out.mono ?_
      rintro e w1 ⟨rfl, n, rfl⟩
      have hd := H1.out.drewN n
      have hfd := HFr1.out.drewN n
      generalize hWd : WR.drewN n = WD at hd hfd ⊢
      have c69 := hd.c69
      have c68 := hd.c68
      have c6 := hd.q.spl.preAt H6.out
      have z68 := hd.froz (o + 68)
      rw [HSG.out] at c68
      rw [← HN1.out] at c69
      have HD := Lib.hid hd
      have HFd := Lib.hid hfd
      clear hd hfd hWd HPart
      cases lineIs N a l G1 with
      | first k0 =>
        have hn0 : n1 = 0 := by rw [HN1.out, k0]; rfl
        have hke : strV (keyG a (G1 ++ [l])) = .string SK := by rw [k0]; exact HSK.out
        have hrs : readG N a ov (l :: r) G1 = readG N a ov r (G1 ++ [l]) := by rw [k0]; exact readG_first ov l r
        have hdk := HD.out.setKey (.string SK)
        have HKe := Lib.hid hke
        have HRs := Lib.hid hrs
        have HDk := Lib.hid hdk
        have htk := qtake_any hdk.q (by have := HLen.out; have := HLen1.out; simp only [List.length_cons] at this; omega)
        rw [HSL.out] at htk
        have HTk := Lib.hid htk
        subst hn0
        clear k0 hke hrs hdk htk d1 d2
        go_wp2_with fail
        refine HTk.out.mono ?_
        rintro e w2 ⟨X2, wv2, rfl, hq2, hx2, hf2⟩
        have H2 := Lib.hid (HDk.out.turn hq2 hx2 hf2)
        have HX2 := Lib.hid (show ∀ k, X2 k → X1 k ∨ WD.heap.size ≤ k from fun k hk => by have := hx2 k hk; simpa [World.setCell] using this)
        have HF2 := Lib.hid (((Frame.cell WD ⟨g, o + 68, none⟩ (.string SK)).mono (q := fun k => k = g ∨ X1 k) (fun k _ e => .inl e)).trans hf2)
        have c69 := H2.out.c69
        clear hq2 hx2 hf2
        go_wp2_with (at_builtin; refine wpList_append_kept rfl (.tmp 74) (.tmp 76) rfl _ Y1 G1 rfl (H2.out.grp.frame ((Frame.refl (fun _ => False) w2).alloc (.cells #[.string SL] 9 (0, 0))) (fun _ _ e => e)) ⟨w2.heap.size, 0, none⟩ l rfl (by rw [HSL.out, cell_of_row _ _ _ _ _ _ (heap_alloc_last w2 _)]; rfl) (by have := HLen.out; have := HLen1.out; omega) ?_; intro v' w3 Y3 hk3 hf3 hx3; obtain ⟨va, vc, rfl⟩ := hk3.slice2; have hal := H2.out.below ((Below.refl w2.heap.size w2).alloc (Nat.le_refl _) (.cells #[.string SL] 9 (0, 0))); have H3 := Lib.hid (hal.grown hk3 hf3 hx3); have HF3 := Lib.hid (((Frame.refl Y1 w2).alloc (.cells #[.string SL] 9 (0, 0))).trans hf3); have HX3 := Lib.hid hx3; have z69 : w3.frozen? ⟨g, o + 69, none⟩ = false := (hal.q.spl.frame hf3 hal.away).froz _; have c69' := hf3.cell? hal.c69 hal.away; clear hk3 hf3 hx3 hal)
        have hrd3 : Reading N a g o pre post f b X W ov Y G w r (G1 ++ [l]) (w3.setCell ⟨g, o + 69, none⟩ (.slice va (G1.length + [l].length) vc)) := by
          have h3 := H3.out
          have hsz := HF2.out.size
          refine ⟨⟨X2, Y3, wv2, _, by unfold SRep; rw [HKe.out]; exact h3, fun k hk => ?_⟩, ?_, ?_, fun x hx => HFine.out x (List.mem_cons_of_mem _ hx), ?_⟩
          · have hs0 := HFd.out.size
            rcases hk with e | e
            · rcases HX2.out k e with e | e
              · exact HX1.out k (.inl e)
              · exact .inr (.inr (by omega))
            · rcases HX3.out k e with e | e
              · exact HX1.out k (.inr e)
              · refine .inr (.inr ?_)
                simp at e
                omega
          · rw [HSame.out]; exact HRs.out
          · have := HLen1.out; simp only [List.length_append, List.length_cons, List.length_nil] at this ⊢; omega
          · refine ((HFd.out.then HF2.out (fun k hk e => ?_)).then HF3.out (fun k hk e => ?_)).then (Frame.cell w3 ⟨g, o + 69, none⟩ (.slice va (G1.length + [l].length) vc)) (fun k hk e => .inl e)
            · rcases e with e | e
              · exact .inl e
              · rcases HX1.out k (.inl e) with e | e | e
                · exact .inr (.inl e)
                · exact .inr (.inr e)
                · omega
            · rcases HX1.out k (.inr e) with e | e | e
              · exact .inr (.inl e)
              · exact .inr (.inr e)
              · omega
        have HR3 := Lib.hid hrd3
        have hfs := HFirst.out r _ ⟨_, hrd3⟩
        have hcell := H3.out.c69
        have HCell := Lib.hid hcell
        obtain ⟨S3, hS3⟩ : ∃ S : ByteArray, strV (r.headD []) = .string S := ⟨_, rfl⟩
        obtain ⟨B3, hB3⟩ : ∃ B, B = !r.isEmpty := ⟨_, rfl⟩
        rw [hS3, ← hB3] at hfs
        have HFs := Lib.hid hfs
        have HS3 := Lib.hid hS3
        have HB3 := Lib.hid hB3
        clear hrd3 hfs hcell hS3 hB3 c69' z69
        generalize hW4 : w3.setCell ⟨g, o + 69, none⟩ (.slice va (G1.length + [l].length) vc) = W4 at HR3 HFs HCell ⊢
        refine HFs.out.mono ?_
        rintro e w5 ⟨rfl, rfl⟩
        rename World => W5
        go_wp2_with fail
        go_roundw
        case rel => exact ⟨r, G1 ++ [l], HS3.out.symm, by rw [HB3.out], HR3.out⟩
        case measure =>
          rw [HCell.out, HM.out]
          have hle := HLen1.out
          simp only [List.length_cons] at hle
          simp only [Option.getD_some, sliceN, List.length_singleton]
          have := HN1.out
          omega
      | whole k0 k1 =>
        have e2 : (SK.toList == SG.toList) = false := by
          rw [d2]; refine decide_eq_false (fun e => ?_); rw [e, gtrL_iff, lessL_self] at k1; cases k1
        have e1 : Op.bytesLess SK.toList SG.toList = false := by
          rw [d1]; rw [gtrL_iff] at k1; exact lessL_asymm _ _ k1
        have q1 : ((n1 : Int) == 0) = false := by rw [HN1.out]; simp; exact k0
        have HRr := Lib.hid (show R = (l :: r, G1, 1) by rw [HR.out, HSame.out]; exact readG_whole ov l r G1 k0 k1)
        clear d1 d2 k0 k1
        go_wp2_with fail
        go_ret
        rw [HRr.out]
        exact ⟨X1, Y1, wv1, _, rfl, HD.out, HX1.out, HFd.out⟩
      | falls k0 k1 k2 =>
        have e1 : Op.bytesLess SK.toList SG.toList = true := by rw [d1]; exact k2
        have e2 : (SK.toList == SG.toList) = false := by
          rw [d2]; refine decide_eq_false (fun e => ?_); rw [e, lessL_self] at k2; cases k2
        have q1 : ((n1 : Int) == 0) = false := by rw [HN1.out]; simp; exact k0
        have HRr := Lib.hid (show R = (l :: r, G1, 3) by rw [HR.out, HSame.out]; exact readG_falls ov l r G1 k0 k1 k2)
        clear d1 d2 k0 k1 k2
        go_wp2_with fail
        go_ret
        rw [HRr.out]
        exact ⟨X1, Y1, wv1, _, rfl, HD.out, HX1.out, HFd.out⟩
      | great k0 k1 k2 k3 =>
        have e1 : Op.bytesLess SK.toList SG.toList = false := by rw [d1]; exact k2
        have e2 : (SK.toList == SG.toList) = true := by rw [d2]; exact decide_eq_true (eq_of_not k2 k1)
        have q1 : ((n1 : Int) == 0) = false := by rw [HN1.out]; simp; exact k0
        have q2 : ((n1 : Int) == (N : Int)) = true := by rw [HN1.out, k3]; simp
        have HRr := Lib.hid (show R = (l :: r, G1, 4) by rw [HR.out, HSame.out]; exact readG_great ov l r G1 k0 k1 k2 k3)
        clear d1 d2 k0 k1 k2 k3
        go_wp2_with fail
        go_quiet (fail)
        go_wp2_with fail
        go_ret
        rw [HRr.out]
        exact ⟨X1, Y1, wv1, _, rfl, HD.out.drewN _, HX1.out, HFd.out.drewN _⟩
      | more k0 k1 k2 k3 =>
        have e1 : Op.bytesLess SK.toList SG.toList = false := by rw [d1]; exact k2
        have e2 : (SK.toList == SG.toList) = true := by rw [d2]; exact decide_eq_true (eq_of_not k2 k1)
        have q1 : ((n1 : Int) == 0) = false := by rw [HN1.out]; simp; exact k0
        have q2 : ((n1 : Int) == (N : Int)) = false := by rw [HN1.out]; simp; omega
        have HKe := Lib.hid (show strV (keyG a (G1 ++ [l])) = .string SG by rw [keyG_snoc a G1 l k0]; exact HSG.out)
        have HRs := Lib.hid (readG_more (N := N) ov l r G1 k0 k1 k2 k3)
        clear d1 d2 k0 k1 k2 k3
        go_wp2_with fail
        go_quiet (fail)
        have hdq := HD.out.drewN nq
        have HFd := Lib.hid (HFd.out.drewN nq)
        generalize hWD : WD.drewN nq = WD at hdq HFd ⊢
        have htk := qtake_any hdq.q (by have := HLen.out; have := HLen1.out; simp only [List.length_cons] at this; omega)
        rw [HSL.out] at htk
        have HTk := Lib.hid htk
        have HDk := Lib.hid hdq
        clear hdq htk hWD
        go_wp2_with fail
        refine HTk.out.mono ?_
        rintro e w2 ⟨X2, wv2, rfl, hq2, hx2, hf2⟩
        have H2 := Lib.hid (HDk.out.turn hq2 hx2 hf2)
        have HX2 := Lib.hid hx2
        have HF2 := Lib.hid hf2
        have c69 := H2.out.c69
        clear hq2 hx2 hf2
        go_wp2_with (at_builtin; refine wpList_append_kept rfl (.tmp 74) (.tmp 76) rfl _ Y1 G1 rfl (H2.out.grp.frame ((Frame.refl (fun _ => False) w2).alloc (.cells #[.string SL] 9 (0, 0))) (fun _ _ e => e)) ⟨w2.heap.size, 0, none⟩ l rfl (by rw [HSL.out, cell_of_row _ _ _ _ _ _ (heap_alloc_last w2 _)]; rfl) (by have := HLen.out; have := HLen1.out; omega) ?_; intro v' w3 Y3 hk3 hf3 hx3; obtain ⟨va, vc, rfl⟩ := hk3.slice2; have hal := H2.out.below ((Below.refl w2.heap.size w2).alloc (Nat.le_refl _) (.cells #[.string SL] 9 (0, 0))); have H3 := Lib.hid (hal.grown hk3 hf3 hx3); have HF3 := Lib.hid (((Frame.refl Y1 w2).alloc (.cells #[.string SL] 9 (0, 0))).trans hf3); have HX3 := Lib.hid hx3; have z69 : w3.frozen? ⟨g, o + 69, none⟩ = false := (hal.q.spl.frame hf3 hal.away).froz _; have c69' := hf3.cell? hal.c69 hal.away; clear hk3 hf3 hx3 hal)
        have hrd3 : Reading N a g o pre post f b X W ov Y G w r (G1 ++ [l]) (w3.setCell ⟨g, o + 69, none⟩ (.slice va (G1.length + [l].length) vc)) := by
          have h3 := H3.out
          have hsz := HF2.out.size
          refine ⟨⟨X2, Y3, wv2, _, by unfold SRep; rw [HKe.out, ← HSG.out]; exact h3, fun k hk => ?_⟩, ?_, ?_, fun x hx => HFine.out x (List.mem_cons_of_mem _ hx), ?_⟩
          · have hs0 := HFd.out.size
            rcases hk with e | e
            · rcases HX2.out k e with e | e
              · exact HX1.out k (.inl e)
              · exact .inr (.inr (by omega))
            · rcases HX3.out k e with e | e
              · exact HX1.out k (.inr e)
              · refine .inr (.inr ?_)
                simp at e
                omega
          · rw [HSame.out]; exact HRs.out
          · have := HLen1.out; simp only [List.length_append, List.length_cons, List.length_nil] at this ⊢; omega
          · refine ((HFd.out.then HF2.out (fun k hk e => ?_)).then HF3.out (fun k hk e => ?_)).then (Frame.cell w3 ⟨g, o + 69, none⟩ (.slice va (G1.length + [l].length) vc)) (fun k hk e => .inl e)
            · rcases e with e | e
              · exact .inl e
              · rcases HX1.out k (.inl e) with e | e | e
                · exact .inr (.inl e)
                · exact .inr (.inr e)
                · omega
            · rcases HX1.out k (.inr e) with e | e | e
              · exact .inr (.inl e)
              · exact .inr (.inr e)
              · omega
        have HR3 := Lib.hid hrd3
        have hfs := HFirst.out r _ ⟨_, hrd3⟩
        have hcell := H3.out.c69
        have HCell := Lib.hid hcell
        obtain ⟨S3, hS3⟩ : ∃ S : ByteArray, strV (r.headD []) = .string S := ⟨_, rfl⟩
        obtain ⟨B3, hB3⟩ : ∃ B, B = !r.isEmpty := ⟨_, rfl⟩
        rw [hS3, ← hB3] at hfs
        have HFs := Lib.hid hfs
        have HS3 := Lib.hid hS3
        have HB3 := Lib.hid hB3
        clear hrd3 hfs hcell hS3 hB3 c69' z69
        generalize hW4 : w3.setCell ⟨g, o + 69, none⟩ (.slice va (G1.length + [l].length) vc) = W4 at HR3 HFs HCell ⊢
        refine HFs.out.mono ?_
        rintro e w5 ⟨rfl, rfl⟩
        rename World => W5
        go_wp2_with fail
        go_roundw
        case rel => exact ⟨r, G1 ++ [l], HS3.out.symm, by rw [HB3.out], HR3.out⟩
        case measure =>
          rw [HCell.out, HM.out]
          have hle := HLen1.out
          simp only [List.length_cons] at hle
          simp only [Option.getD_some, sliceN, List.length_singleton]
          have := HN1.out
          omega

end

end Go.Proofs.YtchepmikbnnnhaaDoor

namespace Go.Proofs.YtchepmikbnnnhaaDoor
open Go.RowKit

theorem joinTellPair_enters : Enters 33 := enters_of Tryd.func33 (by kernel_rfl) (by kernel_rfl)
theorem joinQueue_enters : Enters 31 := enters_of Tryd.func31 (by kernel_rfl) (by kernel_rfl)
theorem joinReadOn_enters : Enters 32 := enters_of Tryd.func32 (by kernel_rfl) (by kernel_rfl)
theorem joinGiveUp_enters : Enters 34 := enters_of Tryd.func34 (by kernel_rfl) (by kernel_rfl)

theorem readG_code {N : Nat} {a : UInt8} (ov : Bool) : ∀ W G : Lines, (readG N a ov W G).2.2 = 0 ∨ (readG N a ov W G).2.2 = 1 ∨ (readG N a ov W G).2.2 = 2 ∨ (readG N a ov W G).2.2 = 3 ∨ (readG N a ov W G).2.2 = 4 :=
  readG_ind (N := N) (a := a) (P := fun _ _ r => r.2.2 = 0 ∨ r.2.2 = 1 ∨ r.2.2 = 2 ∨ r.2.2 = 3 ∨ r.2.2 = 4) ov (fun G => by
    by_cases h : ov = false
    · simp [h]
    · by_cases h2 : G = [] <;> simp [h, h2]) (fun _ _ _ _ _ => .inr (.inl rfl)) (fun _ _ _ _ => .inr (.inr (.inr (.inl rfl)))) (fun _ _ _ _ => .inr (.inr (.inr (.inr rfl)))) (fun _ _ _ h => h) (fun _ _ _ _ _ _ _ h => h)
theorem sideR_code {N : Nat} {a : UInt8} (t : JT) (p : Nat) (h : (sideR N a t p).2.2 ≠ 1) : (sideR N a t p).2.2 = 0 ∨ (sideR N a t p).2.2 = 2 ∨ (sideR N a t p).2.2 = 3 ∨ (sideR N a t p).2.2 = 4 := by
  rcases readG_code (N := N) (a := a) (t.ov p) (t.W p) (t.G p) with e | e | e | e | e
  · exact .inl e
  · exact absurd e h
  · exact .inr (.inl e)
  · exact .inr (.inr (.inl e))
  · exact .inr (.inr (.inr e))

def zeroSide : List Value := splL false [] ++ [.slice none 0 0, .bool false, .string ByteArray.empty, .slice none 0 0]
theorem sideZero : Tryd.zeroCells89 = zeroSide.toArray := by kernel_rfl
theorem zeroSide_is (a : UInt8) : zeroSide = sideL a false [] (.slice none 0 0) false [] (.slice none 0 0) := rfl
section
variable {N : Nat} {a : UInt8} {g : Nat} {nd : Int} {f : Nat → Bool} {b : Nat → List UInt8} {t : JT} {told : Nat} {X Y : Nat → Nat → Prop} {val gval : Nat → Value} {w : World}
/-- 'clear' of the sides: each of them is a new one. -/
theorem run_clear_sides (h : JRep N a g nd f b t told X Y val gval w) (ty : TypeId) :
    ∃ w', (Builtin.clear_ #[122] ty #[.slice (some ⟨g, 7, none⟩) 2 2]).run Tryd.prog w = .ok (.tuple #[]) w' ∧ JRep N a g nd (fun _ => false) (fun _ => []) noJ told (fun _ _ => False) (fun _ _ => False) (fun _ => .slice none 0 0) (fun _ => .slice none 0 0) w' ∧ Frame (· = g) w w' := by
  obtain ⟨L, hL⟩ : ∃ L, L = zeroSide ++ zeroSide := ⟨_, rfl⟩
  have hlen : L.length = 140 := by rw [hL, List.length_append, zeroSide_is 0, length_sideL (Nat.zero_le _)]
  have hone : ∀ v ∈ L, v.oneCell' = true := fun v hv => by
    rw [hL] at hv
    have h2 : v ∈ zeroSide := by rcases List.mem_append.1 hv with e | e <;> exact e
    rcases List.mem_append.1 h2 with h3 | h3
    · exact one_splL _ _ _ h3
    · simp only [List.mem_cons, List.not_mem_nil, or_false] at h3
      rcases h3 with h3 | h3 | h3 | h3 <;> rw [h3] <;> rfl
  have hsz := jRow_size (N := N) (a := a) (g := g) (nd := nd) (f := f) (t := t) (told := told) (val := val) (gval := gval) h.le
  have hst := run_storeCells_cells (P := Tryd.prog) g 7 L 0 w (fun j hj => by
    rw [cell_of_row _ _ _ _ _ _ h.mach]
    have : 7 + 0 + j < (jRow N a g nd f b t told val gval).size := by rw [hsz]; omega
    rw [Array.getElem?_eq_getElem this]
    rfl) (fun j _ => h.froz _) hone
  have hm : (w.setCells g 7 L).heap[g]? = some (.cells (jRow N a g nd (fun _ => false) (fun _ => []) noJ told (fun _ => .slice none 0 0) (fun _ => .slice none 0 0)) 92 (0, 0)) := by
    have h0 := length_sideL (a := a) (f := f 0) (wv := val 0) (ov := t.ov 0) (G := t.G 0) (gv := gval 0) (h.le 0 (by decide))
    have h1 := length_sideL (a := a) (f := f 1) (wv := val 1) (ov := t.ov 1) (G := t.G 1) (gv := gval 1) (h.le 1 (by decide))
    have := heap_setCells L 7 w g (headV N a g nd) (sideL a (f 0) (b 0) (val 0) (t.ov 0) (t.G 0) (gval 0) ++ sideL a (f 1) (b 1) (val 1) (t.ov 1) (t.G 1) (gval 1)) [.int .i64 told] 92 (0, 0) (by
      rw [h.mach]
      unfold jRow
      simp) rfl (by rw [List.length_append, h0, h1, hlen])
    rw [this, hL, zeroSide_is a]
    unfold jRow noJ
    simp
  refine ⟨w.setCells g 7 L, ?_, ⟨hm, fun _ _ => Nat.zero_le _, (fun _ _ h => by cases h), fun _ _ => .nil _ (fun _ h => h), fun _ _ => .nil _ (fun _ h => h), (fun _ _ _ h => by rcases h with h | h <;> exact h.elim), (fun _ h => by rcases h.1 with h | h <;> exact h.elim), fun _ _ _ h => h.elim, h.max.frame (Frame.cells g 7 L) (fun e => h.low e.symm), h.low⟩, Frame.cells g 7 L⟩
  have hv : (zeroValue 89).run Tryd.prog w = .ok (.agg zeroSide.toArray) w := by
    have := Tryd.zeroValue89 w
    rw [sideZero] at this
    exact this
  have hL2 : (Builtin.zeroCells (Value.agg zeroSide.toArray).cells 2).toList = L := by rw [hL]; kernel_rfl
  simp only [Nat.add_zero] at hst
  simp [Builtin.clear_, run_underlying Tryd.underlying122, hv, hL2, hst]
/-- The machine as told. -/
def JTurns (N : Nat) (a : UInt8) (g : Nat) (nd : Int) (b : Nat → List UInt8) (t : JT) (told : Nat) (X Y : Nat → Nat → Prop) (w : World) (v : Value) (e : Ending) (w' : World) : Prop :=
  ∃ X' Y' val' gval', e = .returned v ∧ JRep N a g nd (fun _ => false) b t told X' Y' val' gval' w' ∧ (∀ k, ownJ g X' Y' k → ownJ g X Y k ∨ w.heap.size ≤ k) ∧ Frame (ownJ g X Y) w w'
theorem ownJ_then {X1 Y1 : Nat → Nat → Prop} {w1 w2 : World} (h : Frame (ownJ g X Y) w w1) (hx : ∀ k, ownJ g X1 Y1 k → ownJ g X Y k ∨ w.heap.size ≤ k) (h2 : Frame (ownJ g X1 Y1) w1 w2) : Frame (ownJ g X Y) w w2 :=
  h.then h2 (fun k hk e => (hx k e).resolve_right (by omega))
theorem ownJ_trans {X1 Y1 X2 Y2 : Nat → Nat → Prop} {w1 : World} (hs : w.heap.size ≤ w1.heap.size) (hx : ∀ k, ownJ g X1 Y1 k → ownJ g X Y k ∨ w.heap.size ≤ k) (hx2 : ∀ k, ownJ g X2 Y2 k → ownJ g X1 Y1 k ∨ w1.heap.size ≤ k) : ∀ k, ownJ g X2 Y2 k → ownJ g X Y k ∨ w.heap.size ≤ k := fun k hk => by
  rcases hx2 k hk with e | e
  · exact hx k e
  · exact .inr (by omega)
theorem ownJ_none (k : Nat) (h : ownJ g (fun _ _ => False) (fun _ _ => False) k) : ownJ g X Y k := by
  rcases ownJ_cases h with e | ⟨j, -, e⟩
  · exact .inl e
  · rcases e with e | e <;> exact e.elim
/-- A side that turned, in the machine. -/
theorem JRep.turned (h : JRep N a g nd (fun _ => false) b t told X Y val gval w) {j : Nat} (hj : j < 2) {W' : Lines} {G' : Lines} {v : Value} {fn : FuncId} {args : Array Value}
    (hc : ∀ pre post, pre[5]? = some (strV [a]) → pre[6]? = some (.int .i64 N) → SRep a g (7 + j * 70) pre post false (b j) (X j) (t.W j) (t.ov j) (Y j) (t.G j) (val j) (gval j) w → Calls Tryd.prog fn args w (STurns a g (7 + j * 70) pre post false (b j) (X j) W' (t.ov j) (Y j) G' w v)) :
    Calls Tryd.prog fn args w (JTurns N a g nd b ⟨setAt t.W j W', t.ov, setAt t.G j G'⟩ told X Y w v) := by
  obtain ⟨pre, post, h5, h6, hs, hback⟩ := h.side hj
  refine (hc pre post h5 h6 hs).mono ?_
  rintro e w' ⟨X', Y', wv', gv', rfl, hs', hx, hf⟩
  have := hback w' false (b j) X' W' (t.ov j) Y' G' wv' gv' hs' hx hf
  rw [setAt_same (fun _ => false) j, setAt_same b j, setAt_same t.ov j] at this
  refine ⟨_, _, _, _, rfl, this, fun k hk => ?_, hf.mono (fun _ _ e => ?_)⟩
  · rcases ownJ_cases hk with e | ⟨i, hi, e⟩
    · exact .inl (.inl e)
    · by_cases he : i = j
      · subst he
        rw [setAt_self, setAt_self] at e
        rcases hx k e with e | e | e
        · exact .inl (ownJ_at hi (.inl e))
        · exact .inl (ownJ_at hi (.inr e))
        · exact .inr e
      · rw [setAt_other _ _ he, setAt_other _ _ he] at e
        exact .inl (ownJ_at hi e)
  · rcases e with e | e
    · exact .inl e
    · exact ownJ_at hj e
theorem JRep.reads (h : JRep N a g nd (fun _ => false) b t told X Y val gval w) {j : Nat} (hj : j < 2) (hok : TOk N a b t) (hN : N ≤ 14) :
    Calls Tryd.prog 56 #[.pointer (some ⟨g, 0, none⟩), .pointer (some ⟨g, 7 + j * 70, none⟩)] w (JTurns N a g nd b (readJ N a t j) told X Y w (.int .i64 (sideR N a t j).2.2)) := by
  have k := hok j hj
  have h1 := cW_len (t.W j)
  have h2 := k.wait
  have h3 := k.most
  exact h.turned hj (fun pre post h5 h6 hs => readGroup_any hs h5 h6 (by omega) (fun l hl => by have := k.fine l (List.mem_append_right _ hl); omega))
theorem JRep.dropped (h : JRep N a g nd (fun _ => false) b t told X Y val gval w) {j : Nat} (hj : j < 2) :
    Calls Tryd.prog 53 #[.pointer (some ⟨g, 7 + j * 70, none⟩)] w (JTurns N a g nd b (dropJ t j) told X Y w (.tuple #[])) := by
  have := h.turned (N := N) hj (W' := t.W j) (G' := []) (fun pre post h5 h6 hs => drop_any hs)
  rw [setAt_same t.W j] at this
  exact this

set_option maxRecDepth 100000 in
set_option maxHeartbeats 2000000 in
theorem giveUp_any (h : JRep N a g nd f b t told X Y val gval w) :
    Calls Tryd.prog 34 #[.pointer (some ⟨g, 0, none⟩)] w fun e w' => e = .returned (.tuple #[]) ∧ JRep N a g nd (fun _ => false) (fun _ => []) noJ told (fun _ _ => False) (fun _ _ => False) (fun _ => .slice none 0 0) (fun _ => .slice none 0 0) w' ∧ Frame (· = g) w w' := by
  obtain ⟨w3, hrun, hr3, hf3⟩ := run_clear_sides h 0
  have HR3 := Lib.hid hr3
  have HF3 := Lib.hid hf3
  clear h hr3 hf3
  go_enter Tryd.func34, Tryd.ntmps34
  go_wp2_with fail
  go_returns
  exact ⟨rfl, HR3.out, HF3.out⟩

set_option maxRecDepth 100000 in
set_option maxHeartbeats 2000000 in
theorem queuesStop_any (h : JRep N a g nd f b t told X Y val gval w) :
    Calls Tryd.prog 70 #[.pointer (some ⟨g, 0, none⟩)] w fun e w' => e = .returned (.tuple #[]) ∧ JRep N a g (-1) (fun _ => false) (fun _ => []) noJ told (fun _ _ => False) (fun _ _ => False) (fun _ => .slice none 0 0) (fun _ => .slice none 0 0) w' ∧ Frame (· = g) w w' := by
  have c0 := h.c0
  have z0 := h.froz 0
  have h1 := h.setNeed (-1)
  have c4 := h1.c4
  have H1 := Lib.hid h1
  have HG := Lib.hid (giveUp_any h1)
  have hent := joinGiveUp_enters
  unfold Enters at hent
  clear h h1
  go_enter Tryd.func70, Tryd.ntmps70
  go_wp2_with fail
  refine (stop_any c0 z0).mono ?_
  rintro e w1 ⟨rfl, rfl⟩
  go_wp2_with fail
  refine HG.out.mono ?_
  rintro e w2 ⟨rfl, h2, hf2⟩
  go_wp2_with fail
  go_returns
  exact ⟨rfl, h2, (Frame.cell w ⟨g, 0, none⟩ _).trans hf2⟩

/-- Where it came to rest, in memory. -/
def GroupsEnd (N : Nat) (a : UInt8) (g : Nat) (b : Nat → List UInt8) (r : JT × Now) (X Y : Nat → Nat → Prop) (w : World) (e : Ending) (w' : World) : Prop :=
  JTurns N a g (nowJ b r).1.need (nowJ b r).1.b (nowJ b r).1.t 0 X Y w (.int .i64 (nowJ b r).2) e w'
theorem ends_own {w1 : World} (h : JRep N a g (-1) (fun _ => false) (fun _ => []) noJ 0 (fun _ _ => False) (fun _ _ => False) (fun _ => .slice none 0 0) (fun _ => .slice none 0 0) w1) (hf : Frame (· = g) w w1) (er : Int) : GroupsEnd N a g b (t, .ends er) X Y w (.returned (.int .i64 er)) w1 :=
  ⟨_, _, _, _, rfl, h, fun k hk => .inl (ownJ_none k hk), hf.mono (fun _ _ e => .inl e)⟩

set_option maxRecDepth 100000 in
set_option maxHeartbeats 4000000 in
theorem haltAt_any (h : JRep N a g nd (fun _ => false) b t 0 X Y val gval w) (p : Nat) (c : Int) (hc : c = 0 ∨ c = 2 ∨ c = 3 ∨ c = 4) :
    Calls Tryd.prog 57 #[.pointer (some ⟨g, 0, none⟩), .int .i64 p, .int .i64 c] w (GroupsEnd N a g b (t, haltJ p c) X Y w) := by
  have H := Lib.hid h
  have HS := Lib.hid (queuesStop_any h)
  have c0 := h.c0
  have z0 := h.froz 0
  clear h
  rcases hc with rfl | rfl | rfl | rfl
  · have HR := Lib.hid (haltJ_zero p (c := 0) rfl)
    obtain ⟨M, hM⟩ : ∃ M, M = haltJ p 0 := ⟨_, rfl⟩
    rw [← hM] at HR ⊢
    clear hM
    go_enter Tryd.func57, Tryd.ntmps57
    go_wp2_with fail
    refine (read_any (p : Int) c0 z0).mono ?_
    rintro e w1 ⟨rfl, rfl⟩
    go_wp2_with fail
    go_ret
    rw [HR.out]
    exact ⟨X, Y, val, gval, rfl, H.out.setNeed _, fun k hk => .inl hk, (Frame.cell w ⟨g, 0, none⟩ _).mono (fun k _ e => .inl e)⟩
  · have HR := Lib.hid (haltJ_else p (c := 2) (by decide))
    obtain ⟨M, hM⟩ : ∃ M, M = haltJ p 2 := ⟨_, rfl⟩
    rw [← hM] at HR ⊢
    clear hM
    go_enter Tryd.func57, Tryd.ntmps57
    go_wp2_with fail
    refine HS.out.mono ?_
    rintro e w1 ⟨rfl, h1, hf1⟩
    have H1 := Lib.hid h1
    have HF1 := Lib.hid hf1
    clear h1 hf1
    go_wp2_with fail
    go_ret
    rw [HR.out]
    exact ends_own H1.out HF1.out 0
  · have HR := Lib.hid (haltJ_else p (c := 3) (by decide))
    obtain ⟨M, hM⟩ : ∃ M, M = haltJ p 3 := ⟨_, rfl⟩
    rw [← hM] at HR ⊢
    clear hM
    go_enter Tryd.func57, Tryd.ntmps57
    go_wp2_with fail
    refine HS.out.mono ?_
    rintro e w1 ⟨rfl, h1, hf1⟩
    have H1 := Lib.hid h1
    have HF1 := Lib.hid hf1
    clear h1 hf1
    go_wp2_with fail
    go_ret
    rw [HR.out]
    exact ends_own H1.out HF1.out 22
  · have HR := Lib.hid (haltJ_else p (c := 4) (by decide))
    obtain ⟨M, hM⟩ : ∃ M, M = haltJ p 4 := ⟨_, rfl⟩
    rw [← hM] at HR ⊢
    clear hM
    go_enter Tryd.func57, Tryd.ntmps57
    go_wp2_with fail
    refine HS.out.mono ?_
    rintro e w1 ⟨rfl, h1, hf1⟩
    have H1 := Lib.hid h1
    have HF1 := Lib.hid hf1
    clear h1 hf1
    go_wp2_with fail
    go_ret
    rw [HR.out]
    exact ends_own H1.out HF1.out 21

theorem restJ_halts {t' : JT} {n : Now} (h : roundJ N a t = (t', n)) (hn : n ≠ .again) : restJ N a t = (t', n) := by
  cases n with
  | waits p => exact restJ_waits h
  | ends e => exact restJ_ends h
  | again => exact absurd rfl hn
  | tells => exact restJ_tells h
theorem JRep.drewN (h : JRep N a g nd f b t told X Y val gval w) (n : Nat) : JRep N a g nd f b t told X Y val gval (w.drewN n) := h.frame ((Frame.refl (fun _ => False) w).drewN n) (fun _ _ h => h)
/-- How many lines lie in the machine's slices. -/
def leftW (g : Nat) (w : World) : Nat :=
  2 * (sliceN ((w.cell? ⟨g, 73, none⟩).getD (.slice none 0 0)) + sliceN ((w.cell? ⟨g, 143, none⟩).getD (.slice none 0 0))) + (sliceN ((w.cell? ⟨g, 76, none⟩).getD (.slice none 0 0)) + sliceN ((w.cell? ⟨g, 146, none⟩).getD (.slice none 0 0)))
theorem JRep.cells (h : JRep N a g nd f b t told X Y val gval w) : w.cell? ⟨g, 73, none⟩ = some (val 0) ∧ w.cell? ⟨g, 143, none⟩ = some (val 1) ∧ w.cell? ⟨g, 76, none⟩ = some (gval 0) ∧ w.cell? ⟨g, 146, none⟩ = some (gval 1) ∧ w.cell? ⟨g, 75, none⟩ = some (strV (keyG a (t.G 0))) ∧ w.cell? ⟨g, 145, none⟩ = some (strV (keyG a (t.G 1))) := by
  obtain ⟨_, _, -, -, h0, -⟩ := h.side (j := 0) (by decide)
  obtain ⟨_, _, -, -, h1, -⟩ := h.side (j := 1) (by decide)
  exact ⟨h0.q.spl.c66, h1.q.spl.c66, h0.c69, h1.c69, h0.c68, h1.c68⟩
theorem JRep.left (h : JRep N a g nd f b t told X Y val gval w) : leftW g w = leftJ t := by
  obtain ⟨c1, c2, c3, c4, -, -⟩ := h.cells
  obtain ⟨_, _, e1⟩ := (h.kept 0 (by decide)).slice
  obtain ⟨_, _, e2⟩ := (h.kept 1 (by decide)).slice
  obtain ⟨_, _, e3⟩ := (h.grp 0 (by decide)).slice
  obtain ⟨_, _, e4⟩ := (h.grp 1 (by decide)).slice
  unfold leftW leftJ
  rw [c1, c2, c3, c4, e1, e2, e3, e4]
  rfl
/-- What holds ahead of each round. -/
structure Grouping (N : Nat) (a : UInt8) (g : Nat) (nd : Int) (b : Nat → List UInt8) (t : JT) (X Y : Nat → Nat → Prop) (w : World) (t1 : JT) (w' : World) : Prop where
  ex : ∃ X1 Y1 val1 gval1, JRep N a g nd (fun _ => false) b t1 0 X1 Y1 val1 gval1 w' ∧ (∀ k, ownJ g X1 Y1 k → ownJ g X Y k ∨ w.heap.size ≤ k)
  ok : TOk N a b t1
  same : restJ N a t = restJ N a t1
  fr : Frame (ownJ g X Y) w w'
theorem GroupsEnd.of {X1 Y1 : Nat → Nat → Prop} {w1 w2 : World} {r : JT × Now} {e : Ending} (h : GroupsEnd N a g b r X1 Y1 w1 e w2) (hf : Frame (ownJ g X Y) w w1) (hx : ∀ k, ownJ g X1 Y1 k → ownJ g X Y k ∨ w.heap.size ≤ k) : GroupsEnd N a g b r X Y w e w2 := by
  obtain ⟨X2, Y2, val2, gval2, e2, h2, hx2, hf2⟩ := h
  exact ⟨X2, Y2, val2, gval2, e2, h2, ownJ_trans hf.size hx hx2, ownJ_then hf hx hf2⟩

set_option maxRecDepth 100000 in
set_option maxHeartbeats 8000000 in
theorem readGroups_any (h : JRep N a g nd (fun _ => false) b t 0 X Y val gval w) (hok : TOk N a b t) (h1 : 1 ≤ N) (hN : N ≤ 14) :
    Calls Tryd.prog 49 #[.pointer (some ⟨g, 0, none⟩)] w (GroupsEnd N a g b (restJ N a t) X Y w) := by
  have HI : Grouping N a g nd b t X Y w t w := ⟨⟨X, Y, val, gval, h, fun k hk => .inl hk⟩, hok, rfl, Frame.refl _ _⟩
  have HI2 := Lib.hid (HI)
  have HW0 : Grouping N a g nd b t X Y w t (w.drew) := ⟨⟨X, Y, val, gval, h.below (Below.refl _ _).drew, fun k hk => .inl hk⟩, hok, rfl, (Frame.refl _ _).drew⟩
  obtain ⟨R, hR⟩ : ∃ R, R = restJ N a t := ⟨_, rfl⟩
  rw [← hR]
  have HR := Lib.hid hR
  clear h hok HI hR HW0
  go_enter Tryd.func49, Tryd.ntmps49
  go_wp2_with fail
  go_quiet (fail)
  have HI3 : Grouping N a g nd b t X Y w t (w.drewN nq) := by
    obtain ⟨⟨X1, Y1, val1, gval1, k1, k2⟩, k3, k4, k5⟩ := HI2.out
    exact ⟨⟨X1, Y1, val1, gval1, k1.frame ((Frame.refl (fun _ => False) w).drewN nq) (fun _ _ h => h), k2⟩, k3, k4, k5.drewN nq⟩
  have HI4 := Lib.hid HI3
  clear HI3
  go_wp2_with fail
  go_loopw [] (fun wr => ∃ t1, Grouping N a g nd b t X Y w t1 wr) (fun wr => leftW g wr)
  case atStart => exact ⟨t, HI4.out⟩
  case round =>
    obtain ⟨t1, ⟨X1, Y1, val1, gval1, r1, hx1⟩, hok1, hsame1, hf1⟩ := hrel
    rename World => WR
    have HRd := Lib.hid (r1.reads (j := 0) (by decide) hok1 hN)
    have HX1 := Lib.hid hx1
    have HOk1 := Lib.hid hok1
    have HSame := Lib.hid hsame1
    have HF1 := Lib.hid hf1
    have HLeft := Lib.hid r1.left
    clear r1 hx1 hok1 hsame1 hf1
    go_wp2_with fail
    refine wp_loop_rounds 3 ?_
    rw [rounds_succ]
    go_wp2_with fail
    refine HRd.out.mono ?_
    rintro e w2 ⟨X2, Y2, val2, gval2, rfl, r2, hx2, hf2⟩
    have HF2 := Lib.hid (ownJ_then HF1.out HX1.out hf2)
    have HX2 := Lib.hid (ownJ_trans HF1.out.size HX1.out hx2)
    have hok2 := HOk1.out.read h1 0
    by_cases k0 : (sideR N a t1 0).2.2 = 1
    · have HRd1 := Lib.hid (r2.reads (j := 1) (by decide) hok2 hN)
      have K0 := Lib.hid k0
      rw [sideR_other t1 (show 1 ≠ 0 by decide)] at HRd1
      rw [k0]
      clear k0 hx2 hf2 r2 hok2 HRd
      go_wp2_with fail
      rw [rounds_succ]
      go_wp2_with fail
      refine HRd1.out.mono ?_
      rintro e w3 ⟨X3, Y3, val3, gval3, rfl, r3, hx3, hf3⟩
      have HF3 := Lib.hid (ownJ_then HF2.out HX2.out hf3)
      have HX3 := Lib.hid (ownJ_trans HF2.out.size HX2.out hx3)
      have hok3 := (HOk1.out.read h1 0).read h1 1
      by_cases k1 : (sideR N a t1 1).2.2 = 1
      · have K1 := Lib.hid k1
        obtain ⟨-, -, -, -, c75, c145⟩ := r3.cells
        have HG := Lib.hid (both_G (N := N) (a := a) t1)
        rw [HG.out.1] at c75
        rw [HG.out.2.1] at c145
        obtain ⟨S0, hS0⟩ : ∃ S : ByteArray, strV (keyG a (sideR N a t1 0).2.1) = .string S := ⟨_, rfl⟩
        obtain ⟨S1, hS1⟩ : ∃ S : ByteArray, strV (keyG a (sideR N a t1 1).2.1) = .string S := ⟨_, rfl⟩
        rw [hS0] at c75
        rw [hS1] at c145
        obtain ⟨d1, d2⟩ := str_less hS0 hS1
        have HRep3 := Lib.hid r3
        have HOk3 := Lib.hid hok3
        have hm := round_meet K0.out K1.out
        have HMeet := Lib.hid hm
        rw [k1]
        clear k1 hx3 hf3 r3 hok3 HRd1 hS0 hS1 hm
        go_wp2_with fail
        rw [rounds_succ]
        go_wp2_with fail
        cases hl : lessL (keyG a (sideR N a t1 0).2.1) (keyG a (sideR N a t1 1).2.1) with
        | true =>
          have e1 : Op.bytesLess S0.toList S1.toList = true := by rw [d1]; exact hl
          have hagain : roundJ N a t1 = (dropJ (readJ N a (readJ N a t1 0) 1) 0, .again) := by rw [HMeet.out]; unfold meetJ; rw [HG.out.1, HG.out.2.1, if_pos hl]
          have HMeas := Lib.hid (show leftJ (dropJ (readJ N a (readJ N a t1 0) 1) 0) < leftJ t1 from round_again hagain)
          have HAgain := Lib.hid (restJ_again hagain)
          clear d1 d2 hl hagain
          go_quiet (fail)
          have HRep4 := Lib.hid ((HRep3).out.drewN nq)
          have HF4 := Lib.hid ((HF3).out.drewN nq)
          generalize (w3).drewN nq = W4 at HRep4 HF4 ⊢
          have HD := Lib.hid (HRep4.out.dropped (j := 0) (by decide))
          go_wp2_with fail
          refine HD.out.mono ?_
          rintro e w5 ⟨X5, Y5, val5, gval5, rfl, r5, hx5, hf5⟩
          have HF5 := Lib.hid (ownJ_then HF4.out HX3.out hf5)
          have HX5 := Lib.hid (ownJ_trans HF4.out.size HX3.out hx5)
          have HR5 := Lib.hid r5
          clear r5 hx5 hf5
          go_wp2_with fail
          go_roundw
          case rel => exact ⟨_, ⟨⟨X5, Y5, val5, gval5, HR5.out, HX5.out⟩, HOk3.out.drop 0, HSame.out.trans HAgain.out, HF5.out⟩⟩
          case measure => rw [HR5.out.left, HLeft.out]; exact HMeas.out
        | false =>
          have e1 : Op.bytesLess S0.toList S1.toList = false := by rw [d1]; exact hl
          cases hg : gtrL (keyG a (sideR N a t1 0).2.1) (keyG a (sideR N a t1 1).2.1) with
          | true =>
            have e2 : (S0.toList == S1.toList) = false := by
              rw [d2]; refine decide_eq_false (fun e => ?_); rw [e, gtrL_iff, lessL_self] at hg; cases hg
            have hagain : roundJ N a t1 = (dropJ (readJ N a (readJ N a t1 0) 1) 1, .again) := by rw [HMeet.out]; unfold meetJ; rw [HG.out.1, HG.out.2.1, if_neg (by rw [hl]; decide), if_pos hg]
            have HMeas := Lib.hid (show leftJ (dropJ (readJ N a (readJ N a t1 0) 1) 1) < leftJ t1 from round_again hagain)
            have HAgain := Lib.hid (restJ_again hagain)
            have HC := Lib.hid c75
            have HC2 := Lib.hid c145
            clear d1 d2 hl hg hagain
            go_quiet (fail)
            have HRep4 := Lib.hid ((HRep3).out.drewN nq)
            have HF4 := Lib.hid ((HF3).out.drewN nq)
            have c75' := (show (w3.drewN nq).cell? ⟨g, 75, none⟩ = _ from HC.out)
            have c145' := (show (w3.drewN nq).cell? ⟨g, 145, none⟩ = _ from HC2.out)
            generalize (w3).drewN nq = W4 at HRep4 HF4 c75' c145' ⊢
            go_wp2_with fail
            go_quiet (fail)
            have HRep4 := Lib.hid (HRep4.out.drewN nq)
            have HF4 := Lib.hid (HF4.out.drewN nq)
            generalize W4.drewN nq = W4 at HRep4 HF4 ⊢
            have HD := Lib.hid (HRep4.out.dropped (j := 1) (by decide))
            go_wp2_with fail
            refine HD.out.mono ?_
            rintro e w5 ⟨X5, Y5, val5, gval5, rfl, r5, hx5, hf5⟩
            have HF5 := Lib.hid (ownJ_then HF4.out HX3.out hf5)
            have HX5 := Lib.hid (ownJ_trans HF4.out.size HX3.out hx5)
            have HR5 := Lib.hid r5
            clear r5 hx5 hf5
            go_wp2_with fail
            go_roundw
            case rel => exact ⟨_, ⟨⟨X5, Y5, val5, gval5, HR5.out, HX5.out⟩, HOk3.out.drop 1, HSame.out.trans HAgain.out, HF5.out⟩⟩
            case measure => rw [HR5.out.left, HLeft.out]; exact HMeas.out
          | false =>
            have e2 : (S0.toList == S1.toList) = true := by rw [d2]; exact decide_eq_true (eq_of_not hl hg)
            have hround : roundJ N a t1 = (readJ N a (readJ N a t1 0) 1, .tells) := by rw [HMeet.out]; unfold meetJ; rw [HG.out.1, HG.out.2.1, if_neg (by rw [hl]; decide), if_neg (by rw [hg]; decide)]
            have HTells := Lib.hid (restJ_tells hround)
            have HC := Lib.hid c75
            have HC2 := Lib.hid c145
            clear d1 d2 hl hg hround
            go_quiet (fail)
            have HRep4 := Lib.hid ((HRep3).out.drewN nq)
            have HF4 := Lib.hid ((HF3).out.drewN nq)
            have c75' := (show (w3.drewN nq).cell? ⟨g, 75, none⟩ = _ from HC.out)
            have c145' := (show (w3.drewN nq).cell? ⟨g, 145, none⟩ = _ from HC2.out)
            generalize (w3).drewN nq = W4 at HRep4 HF4 c75' c145' ⊢
            go_wp2_with fail
            go_quiet (fail)
            have hrep5 := HRep4.out.drewN nq
            have HF5 := Lib.hid (HF4.out.drewN nq)
            generalize W4.drewN nq = W5 at hrep5 HF5 ⊢
            have c0 := hrep5.c0
            have z0 := hrep5.froz 0
            have HRep5 := Lib.hid hrep5
            clear hrep5 c75 c145 c75' c145'
            go_wp2_with fail
            refine (tellPieces_any c0 z0).mono ?_
            rintro e w6 ⟨rfl, rfl⟩
            go_wp2_with fail
            go_ret
            rw [HR.out, HSame.out, HTells.out]
            exact ⟨X3, Y3, val3, gval3, rfl, HRep5.out.setNeed (-2), HX3.out, ownJ_then HF5.out HX3.out ((Frame.cell W5 ⟨g, 0, none⟩ _).mono (fun k _ e => .inl e))⟩
      · have hn : ((sideR N a t1 1).2.2 != 1) = true := by simpa using k1
        have HH := Lib.hid (haltAt_any (b := b) r3 1 _ (sideR_code t1 1 k1))
        have HRr := Lib.hid (restJ_halts (round_halt1 (t := t1) K0.out k1) (haltJ_not _ _).1)
        clear k1 hx3 hf3 r3 hok3 HRd1
        go_wp2_with fail
        refine HH.out.mono ?_
        rintro e w4 hend
        have hend2 := GroupsEnd.of hend HF3.out HX3.out
        rw [← HRr.out, ← HSame.out, ← HR.out] at hend2
        have HEnd := Lib.hid hend2
        obtain ⟨X4, Y4, val4, gval4, rfl, -⟩ := hend
        clear hend2
        go_wp2_with fail
        go_ret
        exact HEnd.out
    · have hn : ((sideR N a t1 0).2.2 != 1) = true := by simpa using k0
      have HH := Lib.hid (haltAt_any (b := b) r2 0 _ (sideR_code t1 0 k0))
      have HRr := Lib.hid (restJ_halts (round_halt0 (t := t1) k0) (haltJ_not _ _).1)
      clear k0 hx2 hf2 r2 hok2 HRd
      go_wp2_with fail
      refine HH.out.mono ?_
      rintro e w3 hend
      have hend2 := GroupsEnd.of hend HF2.out HX2.out
      rw [← HRr.out, ← HSame.out, ← HR.out] at hend2
      have HEnd := Lib.hid hend2
      obtain ⟨X4, Y4, val4, gval4, rfl, -⟩ := hend
      clear hend2
      go_wp2_with fail
      go_ret
      exact HEnd.out
end

end Go.Proofs.YtchepmikbnnnhaaDoor

namespace Go.Proofs.YtchepmikbnnnhaaDoor
open Go.RowKit

section
variable {N : Nat} {a : UInt8} {g : Nat} {b : Nat → List UInt8} {t : JT} {told : Nat} {X Y : Nat → Nat → Prop} {val gval : Nat → Value} {w : World}
/-- What a call comes to, in memory. -/
def MoreEnd (N : Nat) (a : UInt8) (g : Nat) (r : JS × Outs × Int) (X Y : Nat → Nat → Prop) (w : World) (e : Ending) (w' : World) : Prop :=
  ∃ v X' Y' val' gval', e = .returned (.tuple #[v, .int .i64 r.2.2]) ∧ OwnOuts w.heap.size w' v r.2.1 ∧ JRep N a g r.1.need (fun _ => false) r.1.b r.1.t r.1.told X' Y' val' gval' w' ∧ (∀ k, ownJ g X' Y' k → ownJ g X Y k ∨ w.heap.size ≤ k) ∧ Frame (ownJ g X Y) w w'

theorem wrap64_low {n : Int} (h0 : 0 ≤ n) (h1 : n ≤ 1000000) : wrap64 n = n := by unfold wrap64; omega
theorem texts3 {w : World} {x y z : List UInt8} {S1 S2 S3 : ByteArray} (h1 : strV x = .string S1) (h2 : strV y = .string S2) (h3 : strV z = .string S3) : IsTexts (fun _ => True) (w.alloc (.cells #[.string S1, .string S2, .string S3] 9 (0, 0))) (.slice (some ⟨w.heap.size, 0, none⟩) 3 3) [x, y, z] := by
  refine ⟨_, _, rfl, fun j l hj => ⟨w.heap.size, 0, rfl, trivial, ?_⟩⟩
  rw [cell_of_row _ _ _ _ _ _ (heap_alloc_last w _)]
  rcases j with _ | _ | _ | j
  · cases hj; rw [h1]; rfl
  · cases hj; rw [h2]; rfl
  · cases hj; rw [h3]; rfl
  · simp at hj
theorem texts1 {w : World} {x : List UInt8} {S1 : ByteArray} (h1 : strV x = .string S1) : IsTexts (fun _ => True) (w.alloc (.cells #[.string S1] 9 (0, 0))) (.slice (some ⟨w.heap.size, 0, none⟩) 1 1) [x] := by
  refine ⟨_, _, rfl, fun j l hj => ⟨w.heap.size, 0, rfl, trivial, ?_⟩⟩
  rw [cell_of_row _ _ _ _ _ _ (heap_alloc_last w _)]
  rcases j with _ | j
  · cases hj; rw [h1]; rfl
  · simp at hj

set_option maxRecDepth 100000 in
set_option maxHeartbeats 8000000 in
theorem tellPair_any (h : JRep N a g (-2) (fun _ => false) b t told X Y val gval w) (hok : TOk N a b t) (h1 : 1 ≤ N) (hN : N ≤ 14) (ht : told < (t.G 0).length * (t.G 1).length) :
    Calls Tryd.prog 33 #[.pointer (some ⟨g, 0, none⟩)] w (MoreEnd N a g ((joinMach N a).more ⟨-2, b, t, told⟩) X Y w) := by
  have hG0 := (hok 0 (by decide)).most
  have hG1 := (hok 1 (by decide)).most
  have hpos : 0 < (t.G 1).length := Nat.pos_of_ne_zero (fun e => by rw [e] at ht; omega)
  have hi0 : told / (t.G 1).length < (t.G 0).length := (Nat.div_lt_iff_lt_mul hpos).2 ht
  have hi1 : told % (t.G 1).length < (t.G 1).length := Nat.mod_lt _ hpos
  have hmul : (t.G 0).length * (t.G 1).length ≤ 14 * 14 := Nat.mul_le_mul (by omega) (by omega)
  obtain ⟨l, hl⟩ : ∃ l, (t.G 0)[told / (t.G 1).length]? = some l := ⟨_, List.getElem?_eq_getElem hi0⟩
  obtain ⟨m, hm⟩ : ∃ m, (t.G 1)[told % (t.G 1).length]? = some m := ⟨_, List.getElem?_eq_getElem hi1⟩
  have hl64 := (hok 0 (by decide)).fine l (List.mem_append_left _ (List.mem_of_getElem? hl))
  have hm64 := (hok 1 (by decide)).fine m (List.mem_append_left _ (List.mem_of_getElem? hm))
  have hpair : nextPair a ⟨-2, b, t, told⟩ = pairL a l m := by
    unfold nextPair
    rw [List.getD_eq_getElem?_getD, pairsJ_at hl hm]
    rfl
  have hp130 := pair_len a l m hl64 hm64
  obtain ⟨-, -, c76, c146, -, -⟩ := h.cells
  obtain ⟨a0, cp0, e0, hx0⟩ := (h.grp 0 (by decide)).at
  obtain ⟨a1, cp1, e1, hx1⟩ := (h.grp 1 (by decide)).at
  obtain ⟨b0, o0, ea0, hx0⟩ := hx0 _ l hl
  obtain ⟨b1, o1, ea1, hx1⟩ := hx1 _ m hm
  rw [e0, ea0] at c76
  rw [e1, ea1] at c146
  have c147 := h.c147
  have c5 := h.c5
  obtain ⟨n0, hn0⟩ : ∃ n, n = (t.G 0).length := ⟨_, rfl⟩
  obtain ⟨n1, hn1⟩ : ∃ n, n = (t.G 1).length := ⟨_, rfl⟩
  simp only [← hn0, ← hn1] at c76 c146 hi0 hi1 hx0 hx1 ht hmul hpos
  obtain ⟨i0, hi0e⟩ : ∃ i, i = told / n1 := ⟨_, rfl⟩
  obtain ⟨i1, hi1e⟩ : ∃ i, i = told % n1 := ⟨_, rfl⟩
  rw [← hi0e] at hi0 hx0
  rw [← hi1e] at hi1 hx1
  have H := Lib.hid h
  have HOk := Lib.hid hok
  have HMul := Lib.hid hmul
  have HT := Lib.hid ht
  have HN0 := Lib.hid hn0
  have HN1 := Lib.hid hn1
  have HPair := Lib.hid hpair
  have HP := Lib.hid hp130
  have HL := Lib.hid hl64
  have HM := Lib.hid hm64
  have d0 : ((told : Int).tdiv (n1 : Int)) = (i0 : Int) := by rw [hi0e]; exact (Int.ofNat_tdiv told n1).symm
  have d1 : ((told : Int).tmod (n1 : Int)) = (i1 : Int) := by rw [hi1e]; exact (Int.ofNat_tmod told n1).symm
  have r0 : ((n1 : Int) == 0) = false := by simp; omega
  have r1 : (0 : Int) ≤ (i0 : Int) := by omega
  have r2 : (i0 : Int) < (n0 : Int) := by omega
  have r3 : (0 : Int) ≤ (i1 : Int) := by omega
  have r4 : (i1 : Int) < (n1 : Int) := by omega
  have htold : told ≤ 196 := by omega
  have w0 : (i0 : Int) ≤ 196 := by omega
  have w1 : (i1 : Int) ≤ 196 := by omega
  have w2 : (told : Int) ≤ 196 := by omega
  obtain ⟨SA, hSA⟩ : ∃ S : ByteArray, strV [a] = .string S := ⟨_, rfl⟩
  obtain ⟨SL, hSL⟩ : ∃ S : ByteArray, strV l = .string S := ⟨_, rfl⟩
  obtain ⟨SM, hSM⟩ : ∃ S : ByteArray, strV m = .string S := ⟨_, rfl⟩
  obtain ⟨SK, hSK⟩ : ∃ S : ByteArray, strV (keyL a l) = .string S := ⟨_, rfl⟩
  obtain ⟨SR, hSR⟩ : ∃ S : ByteArray, strV (restL a l) = .string S := ⟨_, rfl⟩
  obtain ⟨SK2, hSK2⟩ : ∃ S : ByteArray, strV (keyL a m) = .string S := ⟨_, rfl⟩
  obtain ⟨SR2, hSR2⟩ : ∃ S : ByteArray, strV (restL a m) = .string S := ⟨_, rfl⟩
  obtain ⟨SP, hSP⟩ : ∃ S : ByteArray, strV (pairL a l m) = .string S := ⟨_, rfl⟩
  rw [hSL] at hx0
  rw [hSM] at hx1
  have HSA := Lib.hid hSA
  have HSL := Lib.hid hSL
  have HSM := Lib.hid hSM
  have HSK := Lib.hid hSK
  have HSR := Lib.hid hSR
  have HSK2 := Lib.hid hSK2
  have HSR2 := Lib.hid hSR2
  have HSP := Lib.hid hSP
  obtain ⟨P, hP⟩ : ∃ P, P = n0 * n1 := ⟨_, rfl⟩
  have q0 : ((n0 : Int) * (n1 : Int)) = (P : Int) := by rw [hP]; simp
  have hPs : P ≤ 196 := by rw [hP]; exact hmul
  have w3 : (P : Int) ≤ 196 := by omega
  have HW0 := Lib.hid w0
  have HW1 := Lib.hid w1
  have HW2 := Lib.hid w2
  have HW3 := Lib.hid w3
  have HD0 := Lib.hid d0
  have HD1 := Lib.hid d1
  have HQ0 := Lib.hid q0
  clear w0 w1 w2 w3 d0 d1 q0
  have HPe := Lib.hid hP
  clear hSA hSL hSM hSK hSR hSK2 hSR2 hSP hP c5 h hok hmul ht hn0 hn1 hpair hp130 hl64 hm64 hl hm hG0 hG1 hpos hi0e hi1e ea0 ea1 e0 e1 hi0 hi1
  go_enter Tryd.func33, Tryd.ntmps33
  go_wp2_with fail
  go_quiet (fail)
  have H0 := Lib.hid (H.out.drewN nq)
  have hf0 : Frame (ownJ g X Y) w (w.drewN nq) := (Frame.refl _ w).drewN nq
  have c147' := (show (w.drewN nq).cell? ⟨g, 147, none⟩ = _ from c147)
  have hx0' := (show (w.drewN nq).cell? ⟨b0, o0 + i0, none⟩ = _ from hx0)
  have hx1' := (show (w.drewN nq).cell? ⟨b1, o1 + i1, none⟩ = _ from hx1)
  generalize hW0 : w.drewN nq = W0 at H0 hf0 c147' hx0' hx1' ⊢
  have w0 := HW0.out
  have d0 := HD0.out
  go_wp2_with fail
  clear w0 d0
  have hp0 := part_any (a := a) (w := W0) (g := g) l H0.out.c5 H0.out.max (by have := HL.out; omega)
  rw [HSL.out, HSK.out, HSR.out] at hp0
  refine hp0.mono ?_
  rintro e W1 ⟨rfl, n, rfl⟩
  have H1 := Lib.hid (H0.out.drewN n)
  have hf1 := hf0.drewN n
  have c147 := (show (W0.drewN n).cell? ⟨g, 147, none⟩ = _ from c147')
  have hx1 := (show (W0.drewN n).cell? ⟨b1, o1 + i1, none⟩ = _ from hx1')
  clear hp0 c147' hx1' hx0' hf0 hW0
  generalize hW1 : W0.drewN n = W1 at H1 hf1 c147 hx1 ⊢
  clear hW1 H0
  have w1 := HW1.out
  have d1 := HD1.out
  go_wp2_with fail
  clear w1 d1
  have hp1 := part_any (a := a) (w := W1) (g := g) m H1.out.c5 H1.out.max (by have := HM.out; omega)
  rw [HSM.out, HSK2.out, HSR2.out] at hp1
  refine hp1.mono ?_
  rintro e W2 ⟨rfl, n, rfl⟩
  have H2 := Lib.hid (H1.out.drewN n)
  have hf2 := hf1.drewN n
  have c147' := (show (W1.drewN n).cell? ⟨g, 147, none⟩ = _ from c147)
  have c5 := H2.out.c5
  rw [HSA.out] at c5
  clear hp1 c147 hx1 hf1
  generalize hW2 : W1.drewN n = W2 at H2 hf2 c147' c5 ⊢
  clear hW2 H1
  have hlt := H2.out.lt
  have HF2 := Lib.hid hf2
  clear hf2
  go_wp2_with fail
  have hj := joinBy_any (p := fun _ => True) (.slice (some ⟨W2.heap.size, 0, none⟩) 3 3) [keyL a l, restL a l, restL a m] a _ (texts3 (w := W2) HSK.out HSR.out HSR2.out) ⟨_, 3, rfl, Nat.le_refl 3⟩ (by have := HP.out; unfold pairL at this; omega) (by simp)
  have hjp : strV (Lib.join [keyL a l, restL a l, restL a m] [a]) = .string SP := HSP.out
  rw [HSA.out, hjp] at hj
  refine hj.mono ?_
  clear hj hjp
  rintro e W3 ⟨rfl, hb3⟩
  have hb23 : Below W2.heap.size W2 W3 := ((Below.refl W2.heap.size W2).alloc (Nat.le_refl _) _).trans (hb3.mono (by simp))
  have H3 := Lib.hid (H2.out.below hb23)
  have HB3 := Lib.hid hb23
  clear hb3 hb23 c5 c147'
  go_wp2_with fail
  have htl := tellLines_any 0 _ [pairL a l m] _ (texts1 (w := W3) HSP.out) (by simp) (by have := HP.out; simp [joinL]; omega)
  refine htl.mono ?_
  clear htl
  rintro e W5 ⟨v, rfl, ho, hb5⟩
  have hb35 : Below W3.heap.size W3 W5 := ((Below.refl W3.heap.size W3).alloc (Nat.le_refl _) _).trans (hb5.mono (by simp))
  have H5 := Lib.hid (H3.out.below hb35)
  have hb25 := HB3.out.trans (hb35.mono HB3.out.size)
  have HF5 := Lib.hid (HF2.out.trans (Below.toFrame hb25 _))
  have hbase : w.heap.size ≤ (W3.alloc (.cells #[.string SP] 9 (0, 0))).heap.size := by
    have := HF2.out.size
    have := HB3.out.size
    simp
    omega
  have HO := Lib.hid (ho.mono hbase)
  have c147 := H5.out.c147
  have z147 := H5.out.froz 147
  clear ho hb5 hb35 hb25 hbase
  have hold5 : ∀ k, w.heap.size ≤ k → ¬ ownJ g X Y k := fun k hk e => by have := H.out.old k e; omega
  have HOld := Lib.hid hold5
  have hst := H5.out.setTold (told + 1)
  have hcast : ((told + 1 : Nat) : Int) = (told : Int) + 1 := by omega
  rw [hcast] at hst
  have HSt := Lib.hid hst
  clear hold5 hst hcast
  by_cases hl : told + 1 < P
  · have hl2 : (told : Int) + 1 < (P : Int) := by omega
    have HL2 := Lib.hid hl
    clear hl
    have w2 := HW2.out
    have w3 := HW3.out
    have q0 := HQ0.out
    go_wp2_with fail
    clear w2 w3 q0
    go_ret2
    have hm : (joinMach N a).more ⟨-2, b, t, told⟩ = (⟨-2, b, t, told + 1⟩, [(0, nextPair a ⟨-2, b, t, told⟩ ++ [10])], 0) := if_pos (by show told + 1 < (t.G 0).length * (t.G 1).length; rw [← HN0.out, ← HN1.out, ← HPe.out]; exact HL2.out)
    rw [hm, HPair.out]
    have hc := Frame.cell W5 ⟨g, 147, none⟩ (.int .i64 ((told : Int) + 1))
    refine ⟨v, X, Y, val, gval, rfl, ?_, HSt.out, fun k hk => .inl hk, HF5.out.trans (hc.mono (fun k _ e => .inl e))⟩
    have := HO.out.frame hc (fun k hk _ e => HOld.out k hk (.inl e))
    simpa [joinL] using this
  · have hl2 : ¬ (told : Int) + 1 < (P : Int) := by omega
    have HL2 := Lib.hid hl
    clear hl
    have hst0 := HSt.out.setTold 0
    have c147b := HSt.out.c147
    have HSt0 := Lib.hid hst0
    have HDr := Lib.hid (hst0.dropped (j := 0) (by decide))
    clear hst0
    have w2 := HW2.out
    have w3 := HW3.out
    have q0 := HQ0.out
    go_wp2_with fail
    clear w2 w3 q0
    refine HDr.out.mono ?_
    rintro e W7 ⟨X7, Y7, val7, gval7, rfl, r7, hx7, hf7⟩
    have hdr := r7.dropped (j := 1) (by decide)
    have HDr1 := Lib.hid hdr
    have HX7 := Lib.hid hx7
    have HF7 := Lib.hid hf7
    clear hdr r7 hx7 hf7
    go_wp2_with fail
    refine HDr1.out.mono ?_
    rintro e W8 ⟨X8, Y8, val8, gval8, rfl, r8, hx8, hf8⟩
    have HX8 := Lib.hid (ownJ_trans HF7.out.size HX7.out hx8)
    have HF8 := Lib.hid (ownJ_then HF7.out HX7.out hf8)
    have hok8 : TOk N a b (drops t) := (HOk.out.drop 0).drop 1
    have hrg := readGroups_any (N := N) r8 hok8 h1 hN
    have HRg := Lib.hid hrg
    clear hrg r8 hx8 hf8 hok8
    go_wp2_with fail
    refine HRg.out.mono ?_
    rintro e W9 hend
    obtain ⟨X9, Y9, val9, gval9, rfl, r9, hx9, hf9⟩ := hend.of HF8.out HX8.out
    have HR9 := Lib.hid r9
    have HX9 := Lib.hid hx9
    have HF9 := Lib.hid hf9
    clear r9 hx9 hf9 hend
    go_wp2_with fail
    go_ret2
    have hm : (joinMach N a).more ⟨-2, b, t, told⟩ = comesJ N a b (drops t) [(0, nextPair a ⟨-2, b, t, told⟩ ++ [10])] := if_neg (by show ¬ told + 1 < (t.G 0).length * (t.G 1).length; rw [← HN0.out, ← HN1.out, ← HPe.out]; exact HL2.out)
    rw [hm, HPair.out]
    have hc := ((Frame.cell W5 ⟨g, 147, none⟩ (.int .i64 ((told : Int) + 1))).trans (Frame.cell _ ⟨g, 147, none⟩ (.int .i64 ((0 : Nat) : Int)))).mono (q := ownJ g X Y) (fun k _ e => .inl e)
    have hf := hc.trans HF9.out
    have hsz := hc.size
    have hz : (nowJ b (restJ N a (drops t))).1.told = 0 := by
      generalize restJ N a (drops t) = r
      obtain ⟨t', n⟩ := r
      cases n <;> rfl
    refine ⟨v, X9, Y9, val9, gval9, rfl, ?_, ?_, fun k hk => ?_, HF5.out.trans hf⟩
    · show OwnOuts w.heap.size W9 v [(0, pairL a l m ++ [10])]
      have := HO.out.frame hf (fun k hk _ e => HOld.out k hk e)
      simpa [joinL] using this
    · show JRep N a g _ _ _ _ (nowJ b (restJ N a (drops t))).1.told X9 Y9 val9 gval9 W9
      rw [hz]
      exact HR9.out
    · rcases HX9.out k hk with e | e
      · exact .inl e
      · refine .inr ?_
        have := HF5.out.size
        simp [World.setCell] at e
        omega
end

end Go.Proofs.YtchepmikbnnnhaaDoor

namespace Go.Proofs.YtchepmikbnnnhaaDoor
open Go.RowKit

set_option maxRecDepth 100000 in
set_option maxHeartbeats 1000000 in
theorem queuesFeed_no (g : Nat) (n : Int) (port : Int) (ad : Option Addr) (l c : Nat) (w : World) (hn : w.cell? ⟨g, 0, none⟩ = some (.int .i64 n)) (hE : feedE n port l ≠ 0) :
    Calls Tryd.prog 106 #[.pointer (some ⟨g, 0, none⟩), .int .i64 port, .slice ad l c] w (Says w (.tuple #[.slice none 0 0, .int .i64 (feedE n port l)])) := by
  have HN := Lib.hid hn
  obtain ⟨E, hE2⟩ : ∃ E, E = feedE n port l := ⟨_, rfl⟩
  rw [← hE2] at hE ⊢
  have HE := Lib.hid hE2
  have g1 : (E != 0) = true := by simpa using hE
  clear hn hE hE2
  go_enter Tryd.func106, Tryd.ntmps106
  go_wp2_with fail
  refine (mayFeed_any port ad l c HN.out).mono ?_
  rintro e w' ⟨rfl, rfl⟩
  rw [← HE.out]
  go_wp2
  go_ret2
  exact ⟨rfl, rfl⟩

set_option maxRecDepth 100000 in
set_option maxHeartbeats 1000000 in
theorem queuesEnd_no (g : Nat) (n : Int) (port : Int) (w : World) (hn : w.cell? ⟨g, 0, none⟩ = some (.int .i64 n)) (hE : endE n port ≠ 0) :
    Calls Tryd.prog 105 #[.pointer (some ⟨g, 0, none⟩), .int .i64 port] w (Says w (.tuple #[.slice none 0 0, .int .i64 (endE n port)])) := by
  have HN := Lib.hid hn
  obtain ⟨E, hE2⟩ : ∃ E, E = endE n port := ⟨_, rfl⟩
  rw [← hE2] at hE ⊢
  have HE := Lib.hid hE2
  have g1 : (E != 0) = true := by simpa using hE
  clear hn hE hE2
  go_enter Tryd.func105, Tryd.ntmps105
  go_wp2_with fail
  refine (mayEnd_any port HN.out).mono ?_
  rintro e w' ⟨rfl, rfl⟩
  rw [← HE.out]
  go_wp2
  go_ret2
  exact ⟨rfl, rfl⟩

theorem extJ_at (t : JT) (i : Nat) (L : Lines) (o : Bool) : extJ t (oneV i L) (oneO i o) = ⟨setAt t.W i (t.W i ++ L), setAt t.ov i (t.ov i || o), t.G⟩ := by
  unfold extJ
  simp only [JT.mk.injEq, and_true]
  refine ⟨funext fun j => ?_, funext fun j => ?_⟩
  · unfold oneV
    by_cases h : j = i
    · subst h; rw [setAt_self, if_pos rfl]
    · rw [setAt_other _ _ h, if_neg h, List.append_nil]
  · unfold oneO
    by_cases h : j = i
    · subst h; rw [setAt_self, if_pos rfl]
    · rw [setAt_other _ _ h, if_neg h, Bool.or_false]
theorem oneO_none (i : Nat) : (oneO i false) = fun _ => false := by funext j; unfold oneO; split <;> rfl
section
variable {N : Nat} {a : UInt8} {g : Nat} {nd : Int} {f : Nat → Bool} {b : Nat → List UInt8} {t : JT} {told : Nat} {X Y : Nat → Nat → Prop} {val gval : Nat → Value} {w : World}
/-- A queue that turned, in the machine. -/
theorem JRep.queued (h : JRep N a g nd (fun _ => false) b t told X Y val gval w) {j : Nat} (hj : j < 2) :
    ∃ pre post, QRep g (7 + j * 70) 92 pre post false (b j) (X j) (t.W j) (t.ov j) (val j) w ∧
      ∀ w' f' b' X' W' ov' wv', QRep g (7 + j * 70) 92 pre post f' b' X' W' ov' wv' w' → (∀ k, X' k → X j k ∨ w.heap.size ≤ k) → Frame (fun k => k = g ∨ X j k) w w' →
        ∃ X2 val2, JRep N a g nd (setAt (fun _ => false) j f') (setAt b j b') ⟨setAt t.W j W', setAt t.ov j ov', t.G⟩ told X2 Y val2 gval w' ∧ (∀ k, ownJ g X2 Y k → ownJ g X Y k ∨ w.heap.size ≤ k) ∧ Frame (ownJ g X Y) w w' := by
  obtain ⟨pre, post, -, -, hs, hback⟩ := h.side hj
  refine ⟨pre, _, hs.q, fun w' f' b' X' W' ov' wv' hq hX hf => ?_⟩
  have := hback w' f' b' X' W' ov' (Y j) (t.G j) wv' (gval j) (hs.turn hq hX hf) (fun k hk => by
    rcases hk with e | e
    · rcases hX k e with e | e
      · exact .inl e
      · exact .inr (.inr e)
    · exact .inr (.inl e)) (hf.mono (fun k _ e => by rcases e with e | e; exact .inl e; exact .inr (.inl e)))
  rw [setAt_same t.G j, setAt_same Y j, setAt_same gval j] at this
  refine ⟨_, _, this, fun k hk => ?_, hf.mono (fun _ _ e => ?_)⟩
  · rcases ownJ_cases hk with e | ⟨i, hi, e⟩
    · exact .inl (.inl e)
    · by_cases he : i = j
      · subst he
        rw [setAt_self] at e
        rcases e with e | e
        · rcases hX k e with e | e
          · exact .inl (ownJ_at hi (.inl e))
          · exact .inr e
        · exact .inl (ownJ_at hi (.inr e))
      · rw [setAt_other _ _ he] at e
        exact .inl (ownJ_at hi e)
  · rcases e with e | e
    · exact .inl e
    · exact ownJ_at hj (.inl e)
set_option maxRecDepth 100000 in
set_option maxHeartbeats 2000000 in
theorem queueOf_any {p : Nat} (hp : p < 2) :
    Calls Tryd.prog 31 #[.pointer (some ⟨g, 0, none⟩), .int .i64 p] w (Says w (.pointer (some ⟨g, 7 + p * 70, none⟩))) := by
  have q1 : (0 : Int) ≤ (p : Int) := by omega
  have q2 : (p : Int) < 2 := by omega
  go_enter Tryd.func31, Tryd.ntmps31
  go_wp2_with fail
  go_ret
  exact ⟨rfl, rfl⟩
theorem now_told (b : Nat → List UInt8) (r : JT × Now) : (nowJ b r).1.told = 0 := by
  obtain ⟨t', n⟩ := r
  cases n <;> rfl
set_option maxRecDepth 100000 in
set_option maxHeartbeats 2000000 in
theorem readOn_any (h : JRep N a g nd (fun _ => false) b t 0 X Y val gval w) (hok : TOk N a b t) (h1 : 1 ≤ N) (hN : N ≤ 14) :
    Calls Tryd.prog 32 #[.pointer (some ⟨g, 0, none⟩)] w (MoreEnd N a g (comesJ N a b t []) X Y w) := by
  have HRg := Lib.hid (readGroups_any h hok h1 hN)
  clear h hok
  go_enter Tryd.func32, Tryd.ntmps32
  go_wp2_with fail
  refine HRg.out.mono ?_
  rintro e w1 ⟨X1, Y1, val1, gval1, rfl, r1, hx1, hf1⟩
  have HR1 := Lib.hid r1
  have HX1 := Lib.hid hx1
  have HF1 := Lib.hid hf1
  clear r1 hx1 hf1
  go_wp2_with fail
  go_ret2
  refine ⟨.slice none 0 0, X1, Y1, val1, gval1, rfl, OwnOuts.nil _ _, ?_, HX1.out, HF1.out⟩
  show JRep N a g _ _ _ _ (nowJ b (restJ N a t)).1.told X1 Y1 val1 gval1 w1
  rw [now_told]
  exact HR1.out

theorem MoreEnd.of {X1 Y1 : Nat → Nat → Prop} {w1 w2 : World} {r : JS × Outs × Int} {e : Ending} (h : MoreEnd N a g r X1 Y1 w1 e w2) (hf : Frame (ownJ g X Y) w w1) (hx : ∀ k, ownJ g X1 Y1 k → ownJ g X Y k ∨ w.heap.size ≤ k) : MoreEnd N a g r X Y w e w2 := by
  obtain ⟨v, X2, Y2, val2, gval2, e2, ho, h2, hx2, hf2⟩ := h
  exact ⟨v, X2, Y2, val2, gval2, e2, ho.mono hf.size, h2, ownJ_trans hf.size hx hx2, ownJ_then hf hx hf2⟩

set_option maxRecDepth 100000 in
set_option maxHeartbeats 4000000 in
theorem queuesFeed_long {i : Nat} (h : JRep N a g i (fun _ => false) b t 0 X Y val gval w) (hi : i < 2) (hw : t.W i = []) (v : Value) (x : List UInt8) (hX : IsBytes (fun k => ¬ ownJ g X Y k) w v x) (hx1 : 1 ≤ x.length) (hx : x.length ≤ 32) (L : Lines) (hc : cutL (b i) x = (L, none)) :
    Calls Tryd.prog 106 #[.pointer (some ⟨g, 0, none⟩), .int .i64 i, v] w (MoreEnd N a g (deadJ, [], 20) X Y w) := by
  have c2 := h.c2
  obtain ⟨pre, post, hq, hback⟩ := h.queued hi
  have hL : L.length ≤ 1000 := by
    have := cutL_short x (b i) (by rw [hc]) (by omega)
    rw [hc] at this
    simp only at this
    rw [this]
    simp
  have hput := qput_any v x hq (hX.mono (fun k _ hk e => hk (.inl e))) (by omega) (by rw [hw]; simp) (by rw [hc]; exact hL)
  rw [hc] at hput
  simp only [hw, List.nil_append] at hput
  have hent := joinQueue_enters
  unfold Enters at hent
  obtain ⟨va, vc, rfl, -, -⟩ := id hX
  have HE := Lib.hid (show feedE i i x.length = 0 by unfold feedE; rw [show endE (i : Int) i = 0 by unfold endE; rw [if_neg (by omega), if_neg (by omega)], if_neg (by simp), if_neg (by omega)])
  have HC0 := Lib.hid h.c0
  have HPut := Lib.hid hput
  have HBack := Lib.hid hback
  have HIn := Lib.hid (queueOf_any (g := g) (w := w) hi)
  clear h hq hback hput hX hw hx1 hL hc
  go_enter Tryd.func106, Tryd.ntmps106
  go_wp2_with fail
  refine (mayFeed_any (i : Int) va x.length vc HC0.out).mono ?_
  rintro e w' ⟨rfl, rfl⟩
  rename World => w
  rw [HE.out]
  go_wp2_with fail
  refine HIn.out.mono ?_
  rintro e w' ⟨rfl, rfl⟩
  rename World => w
  go_wp2_with fail
  refine HPut.out.mono ?_
  rintro e w2 ⟨X', wv', rfl, hq2, hx2, hf2⟩
  obtain ⟨X2, val2, h2, hx2, hf2⟩ := HBack.out w2 _ _ X' _ _ wv' hq2 hx2 hf2
  have HX2 := Lib.hid hx2
  have HF2 := Lib.hid hf2
  have HS := Lib.hid (queuesStop_any h2)
  clear hq2 hx2 hf2 h2 c2
  go_wp2_with fail
  refine HS.out.mono ?_
  rintro e w3 ⟨rfl, h3, hf3⟩
  have H3 := Lib.hid h3
  have HF3 := Lib.hid hf3
  clear h3 hf3
  go_wp2_with fail
  go_ret2
  exact ⟨_, _, _, _, _, rfl, OwnOuts.nil _ _, H3.out, fun k hk => .inl (ownJ_none k hk), HF2.out.trans (HF3.out.mono (fun k _ e => .inl e))⟩

set_option maxRecDepth 100000 in
set_option maxHeartbeats 4000000 in
theorem queuesFeed_yes {i : Nat} (h : JRep N a g i (fun _ => false) b t 0 X Y val gval w) (hok : TOk N a b t) (h1 : 1 ≤ N) (hN : N ≤ 14) (hi : i < 2) (hbi : (b i).length ≤ 64) (hw : t.W i = []) (v : Value) (x : List UInt8) (hX : IsBytes (fun k => ¬ ownJ g X Y k) w v x) (hx1 : 1 ≤ x.length) (hx : x.length ≤ 32) (L : Lines) (d : List UInt8) (hc : cutL (b i) x = (L, some d)) :
    Calls Tryd.prog 106 #[.pointer (some ⟨g, 0, none⟩), .int .i64 i, v] w (MoreEnd N a g (comesJ N a (setAt b i d) (extJ t (oneV i L) (fun _ => false)) []) X Y w) := by
  have c2 := h.c2
  obtain ⟨pre, post, hq, hback⟩ := h.queued hi
  have hcount := cutL_count x (b i) L d hc
  have hfine := (cutL_lines x (b i) hbi).1
  rw [hc] at hfine
  have hL : L.length ≤ 1000 := by
    have h3 := cW_len L
    omega
  have hok2 : TOk N a (setAt b i d) (extJ t (oneV i L) (fun _ => false)) := hok.ext hw L d _ (by omega) hfine
  have hput := qput_any v x hq (hX.mono (fun k _ hk e => hk (.inl e))) (by omega) (by rw [hw]; simp) (by rw [hc]; exact hL)
  rw [hc] at hput
  simp only [hw, List.nil_append] at hput
  have hent := joinQueue_enters
  unfold Enters at hent
  have hent2 := joinReadOn_enters
  unfold Enters at hent2
  obtain ⟨va, vc, rfl, -, -⟩ := id hX
  have HE := Lib.hid (show feedE i i x.length = 0 by unfold feedE; rw [show endE (i : Int) i = 0 by unfold endE; rw [if_neg (by omega), if_neg (by omega)], if_neg (by simp), if_neg (by omega)])
  have HC0 := Lib.hid h.c0
  have HPut := Lib.hid hput
  have HBack := Lib.hid hback
  have HOk2 := Lib.hid hok2
  have HT := Lib.hid (show (⟨setAt t.W i L, setAt t.ov i (t.ov i), t.G⟩ : JT) = extJ t (oneV i L) (fun _ => false) by
    rw [← oneO_none i, extJ_at, hw, List.nil_append, Bool.or_false])
  have HIn := Lib.hid (queueOf_any (g := g) (w := w) hi)
  clear h hq hback hput hX hw hx1 hL hc hok2 hok hcount hfine hbi
  go_enter Tryd.func106, Tryd.ntmps106
  go_wp2_with fail
  refine (mayFeed_any (i : Int) va x.length vc HC0.out).mono ?_
  rintro e w' ⟨rfl, rfl⟩
  rename World => w
  rw [HE.out]
  go_wp2_with fail
  refine HIn.out.mono ?_
  rintro e w' ⟨rfl, rfl⟩
  rename World => w
  go_wp2_with fail
  refine HPut.out.mono ?_
  rintro e w2 ⟨X', wv', rfl, hq2, hx2, hf2⟩
  obtain ⟨X2, val2, h2, hx2, hf2⟩ := HBack.out w2 _ _ X' _ _ wv' hq2 hx2 hf2
  have hF : setAt (fun _ => false) i (some d).isNone = fun _ => false := setAt_same (fun _ => false) i
  rw [HT.out, hF] at h2
  have c3 := h2.c3
  have HX2 := Lib.hid hx2
  have HF2 := Lib.hid hf2
  have HRo := Lib.hid (readOn_any h2 HOk2.out h1 hN)
  clear hq2 hx2 hf2 h2 c2 hF hent
  go_wp2_with fail
  refine HRo.out.mono ?_
  rintro e w3 hend
  have HEnd := Lib.hid (hend.of HF2.out HX2.out)
  obtain ⟨v3, X3, Y3, val3, gval3, rfl, -⟩ := hend
  go_wp2_with fail
  go_ret2
  exact HEnd.out

set_option maxRecDepth 100000 in
set_option maxHeartbeats 4000000 in
theorem queuesEnd_yes {i : Nat} (h : JRep N a g i (fun _ => false) b t 0 X Y val gval w) (hok : TOk N a b t) (h1 : 1 ≤ N) (hN : N ≤ 14) (hi : i < 2) (hbi : (b i).length ≤ 64) (hw : t.W i = []) :
    Calls Tryd.prog 105 #[.pointer (some ⟨g, 0, none⟩), .int .i64 i] w (MoreEnd N a g (comesJ N a (setAt b i []) (extJ t (oneV i (if b i = [] then [] else [b i])) (oneO i true)) []) X Y w) := by
  have c2 := h.c2
  obtain ⟨pre, post, hq, hback⟩ := h.queued hi
  have hput := qclose_any hq (by rw [hw]; simp)
  simp only [hw, List.nil_append] at hput
  have hent := joinQueue_enters
  unfold Enters at hent
  have hent2 := joinReadOn_enters
  unfold Enters at hent2
  have HE := Lib.hid (show endE (i : Int) i = 0 by unfold endE; rw [if_neg (by omega), if_neg (by omega)])
  have HC0 := Lib.hid h.c0
  obtain ⟨L, hL⟩ : ∃ L : Lines, L = if b i = [] then [] else [b i] := ⟨_, rfl⟩
  rw [← hL] at hput ⊢
  have hok2 : TOk N a (setAt b i []) (extJ t (oneV i L) (oneO i true)) := hok.ext hw L [] _ (by rw [hL]; split <;> simp [cW]; omega) (fun l hl => by
    rw [hL] at hl
    split at hl
    · cases hl
    · rw [List.mem_singleton.1 hl]; exact hbi)
  have HPut := Lib.hid hput
  have HBack := Lib.hid hback
  have HOk2 := Lib.hid hok2
  have HT := Lib.hid (show (⟨setAt t.W i L, setAt t.ov i true, t.G⟩ : JT) = extJ t (oneV i L) (oneO i true) by
    rw [extJ_at, hw, List.nil_append, Bool.or_true])
  have HIn := Lib.hid (queueOf_any (g := g) (w := w) hi)
  clear h hq hback hput hw hok2 hok hbi hL
  go_enter Tryd.func105, Tryd.ntmps105
  go_wp2_with fail
  refine (mayEnd_any (i : Int) HC0.out).mono ?_
  rintro e w' ⟨rfl, rfl⟩
  rename World => w
  rw [HE.out]
  go_wp2_with fail
  refine HIn.out.mono ?_
  rintro e w' ⟨rfl, rfl⟩
  rename World => w
  go_wp2_with fail
  refine HPut.out.mono ?_
  rintro e w2 ⟨X', wv', rfl, hq2, hx2, hf2⟩
  obtain ⟨X2, val2, h2, hx2, hf2⟩ := HBack.out w2 _ _ X' _ _ wv' hq2 hx2 hf2
  have hF : setAt (fun _ => false) i false = fun _ => false := setAt_same (fun _ => false) i
  rw [HT.out, hF] at h2
  have c3 := h2.c3
  have HX2 := Lib.hid hx2
  have HF2 := Lib.hid hf2
  have HRo := Lib.hid (readOn_any h2 HOk2.out h1 hN)
  clear hq2 hx2 hf2 h2 c2 hF hent
  go_wp2_with fail
  refine HRo.out.mono ?_
  rintro e w3 hend
  have HEnd := Lib.hid (hend.of HF2.out HX2.out)
  obtain ⟨v3, X3, Y3, val3, gval3, rfl, -⟩ := hend
  go_wp2_with fail
  go_ret2
  exact HEnd.out

set_option maxRecDepth 100000 in
set_option maxHeartbeats 4000000 in
theorem joinMore_any (h : JRep N a g (-2) (fun _ => false) b t told X Y val gval w) (hok : TOk N a b t) (h1 : 1 ≤ N) (hN : N ≤ 14) (ht : told < (t.G 0).length * (t.G 1).length) :
    Calls Tryd.prog 108 #[.pointer (some ⟨g, 0, none⟩)] w (MoreEnd N a g ((joinMach N a).more ⟨-2, b, t, told⟩) X Y w) := by
  have c0 := h.c0
  have c1 := h.c1
  have HTp := Lib.hid (tellPair_any h hok h1 hN ht)
  have hent := joinTellPair_enters
  unfold Enters at hent
  clear h hok ht
  go_enter Tryd.func108, Tryd.ntmps108
  go_wp2_with fail
  refine HTp.out.mono ?_
  rintro e w3 hend
  have HEnd := Lib.hid hend
  obtain ⟨v3, X3, Y3, val3, gval3, rfl, -⟩ := hend
  go_wp2_with fail
  go_ret2
  exact HEnd.out
end

end Go.Proofs.YtchepmikbnnnhaaDoor

namespace Go.Proofs.YtchepmikbnnnhaaDoor
open Go.RowKit

section
variable {N : Nat} {a : UInt8} {g o : Nat} {nd : Int} {b : Nat → List UInt8} {t : JT} {told : Nat} {w : World}
set_option maxRecDepth 100000 in
set_option maxHeartbeats 4000000 in
theorem sideHeld_any {kv : Value} {pre post : List Value} {f : Bool} {bb : List UInt8} {X : Nat → Prop} {W : Lines} {ov : Bool} {Y : Nat → Prop} {G : Lines} {wv gv : Value} (h : SRepK kv g o pre post f bb X W ov Y G wv gv w) (hW : W.length ≤ 1000) (hs : keptSum W ≤ 100000) (hG : keptSum G ≤ 100000) (hGl : G.length ≤ 1000) :
    Calls Tryd.prog 114 #[.pointer (some ⟨g, o, none⟩)] w (Says w (.int .i64 ((bb.length + keptSum W + keptSum G : Nat) : Int))) := by
  have HQ := Lib.hid (qheld_any h.q hW hs)
  have hb := h.q.spl.le
  obtain ⟨ka, kc, hgv, hat⟩ := h.grp.at
  have c69 := h.c69
  rw [hgv] at c69
  obtain ⟨H0, hH0⟩ : ∃ H, H = bb.length + keptSum W := ⟨_, rfl⟩
  rw [← hH0] at HQ ⊢
  have hH : H0 ≤ 100064 := by omega
  have HAt := Lib.hid hat
  have HG := Lib.hid hG
  clear h hW hs hat hgv hH0 hb hG
  go_enter Tryd.func114, Tryd.ntmps114
  go_wp2_with fail
  refine HQ.out.mono ?_
  rintro e w' ⟨rfl, rfl⟩
  rename World => w'
  go_wp2_with fail
  go_loopw [3, 15] (fun hv i wr => ∃ k : Nat, hv = .int .i64 ((H0 + keptSum (G.take k) : Nat) : Int) ∧ i = .int .i64 k ∧ k ≤ G.length ∧ wr = w') (fun _ i _ => G.length - (intOf i).toNat)
  case atStart => exact ⟨0, by simp [keptSum], rfl, Nat.zero_le _, rfl⟩
  case round =>
    obtain ⟨k, rfl, rfl, hk, rfl⟩ := hrel
    have hG := HG.out
    have ht := keptSum_take_le G k
    obtain ⟨sm, hsm⟩ : ∃ sm, sm = keptSum (G.take k) := ⟨_, rfl⟩
    rw [← hsm] at ht ⊢
    have HSm := Lib.hid hsm
    clear hsm
    by_cases hlt : k < G.length
    · obtain ⟨l, hl⟩ : ∃ l, G[k]? = some l := ⟨G[k], by simp⟩
      obtain ⟨kb, off, rfl, hx⟩ := HAt.out k l hl
      have hst := keptSum_take hl
      have hst2 := keptSum_take_le G (k + 1)
      have HSt := Lib.hid hst
      rw [hst] at hst2
      obtain ⟨S, hS⟩ : ∃ S : ByteArray, strV l = .string S := ⟨_, rfl⟩
      have hsz : S.size = l.length := (strCells_eq hS).2
      rw [hS] at hx
      have q0 : (0 : Int) ≤ (k : Int) := by omega
      have q1 : (k : Int) < (G.length : Int) := by omega
      have q3 : H0 + sm + S.size ≤ 300000 := by rw [← HSm.out] at hst2; omega
      have HSz := Lib.hid hsz
      clear hl hst hst2 hS hsz ht hG
      go_wp2_with fail
      go_roundw
      case rel =>
        refine ⟨k + 1, ?_, by go_num, by omega, trivial⟩
        rw [HSt.out, ← HSm.out, ← HSz.out]
        go_num
      case measure => simp [intOf]; omega
    · obtain rfl : k = G.length := by omega
      have q2 : ¬ (G.length : Int) < (G.length : Int) := by omega
      have hall := HSm.out
      rw [List.take_length] at hall
      have HAll := Lib.hid hall
      clear hall
      go_wp2_with fail
      go_ret
      rw [HAll.out]
      exact ⟨rfl, rfl⟩

set_option maxRecDepth 100000 in
set_option maxHeartbeats 4000000 in
theorem joinHeld_any {X Y : Nat → Nat → Prop} {val gval : Nat → Value} (s : JS) (h : JRep N a g s.need (fun _ => false) s.b s.t s.told X Y val gval w) (hi : JInv N a s) (hN : N ≤ 14) :
    Calls Tryd.prog 107 #[.pointer (some ⟨g, 0, none⟩)] w (SaysN w (.int .i64 (heldJ s))) := by
  have hside : ∀ j, j < 2 → ((s.t.W j).length ≤ 1000 ∧ keptSum (s.t.W j) ≤ 100000) ∧ keptSum (s.t.G j) ≤ 1000 ∧ (s.t.G j).length ≤ 14 ∧ (s.b j).length + keptSum (s.t.W j) ≤ 96 := fun j hj => by
    have k := hi.ok j hj
    have h1 := cW_len (s.t.W j)
    have h2 := sumLen_cW (s.t.W j)
    have h3 := k.wait
    have h4 := k.most
    have h5 := sumLen_fine (L := s.t.G j) (fun l hl => k.fine l (List.mem_append_left _ hl))
    have e1 : keptSum (s.t.W j) = sumLen (s.t.W j) := rfl
    have e2 : keptSum (s.t.G j) = sumLen (s.t.G j) := rfl
    have h6 : 64 * (s.t.G j).length ≤ 64 * 14 := Nat.mul_le_mul_left 64 (by omega)
    omega
  have hq : ∀ j, j < 2 → ∀ m, Calls Tryd.prog 114 #[.pointer (some ⟨g, 7 + j * 70, none⟩)] (w.drewN m) (fun e w' => e = .returned (.int .i64 (((s.b j).length + keptSum (s.t.W j) + keptSum (s.t.G j) : Nat) : Int)) ∧ w' = w.drewN m) := fun j hj m => by
    obtain ⟨pre, post, -, -, hs, -⟩ := h.side hj
    have k := hside j hj
    exact (sideHeld_any (hs.drewN m) k.1.1 k.1.2 (by omega) (by omega)).mono fun _ _ h => ⟨h.1, h.2.symm⟩
  have k0 := hside 0 (by decide)
  have k1 := hside 1 (by decide)
  obtain ⟨H0, hH0⟩ : ∃ H, H = (s.b 0).length + keptSum (s.t.W 0) + keptSum (s.t.G 0) := ⟨_, rfl⟩
  obtain ⟨H1, hH1⟩ : ∃ H, H = (s.b 1).length + keptSum (s.t.W 1) + keptSum (s.t.G 1) := ⟨_, rfl⟩
  have hq0 : ∀ m, Calls Tryd.prog 114 #[.pointer (some ⟨g, 7, none⟩)] (w.drewN m) (fun e w' => e = .returned (.int .i64 (H0 : Int)) ∧ w' = w.drewN m) := fun m => by rw [hH0]; exact hq 0 (by decide) m
  have hq1 : ∀ m, Calls Tryd.prog 114 #[.pointer (some ⟨g, 77, none⟩)] (w.drewN m) (fun e w' => e = .returned (.int .i64 (H1 : Int)) ∧ w' = w.drewN m) := fun m => by rw [hH1]; exact hq 1 (by decide) m
  have hheld : heldJ s = H0 + H1 := by rw [hH0, hH1]; rfl
  rw [hheld]
  have r0 : (H0 : Int) ≤ 2000 := by omega
  have r1 : (H1 : Int) ≤ 2000 := by omega
  have HQ0 := Lib.hid hq0
  have HQ1 := Lib.hid hq1
  clear h hi hside hq k0 k1 hH0 hH1 hq0 hq1 hheld
  go_enter Tryd.func107, Tryd.ntmps107
  go_wp2_with fail
  go_quiet (first
    | (go_at_call_of 114 (Value.pointer (some ⟨g, 7, none⟩)); exact Calls.quiet_of_same (HQ0.out _))
    | (go_at_call_of 114 (Value.pointer (some ⟨g, 77, none⟩)); exact Calls.quiet_of_same (HQ1.out _)))
  go_wp2_with fail
  go_ret
  exact ⟨rfl, ⟨rfl, rfl, rfl, Nat.le_refl _, fun _ _ => rfl⟩⟩
end

/-! The machine. -/
def joinRep (N : Nat) (a : UInt8) (g : Nat) (s : JS) (own : Nat → Prop) (w : World) : Prop :=
  ∃ X Y val gval, JRep N a g s.need (fun _ => false) s.b s.t s.told X Y val gval w ∧ JInv N a s ∧ own = ownJ g X Y
theorem join_goes (g : Nat) (w : World) :
    (method 281 76 (.pointer (some ⟨g, 0, none⟩)) "Need").run Tryd.prog w = .ok (109, .pointer (some ⟨g, 0, none⟩)) w ∧
    (method 281 76 (.pointer (some ⟨g, 0, none⟩)) "Held").run Tryd.prog w = .ok (107, .pointer (some ⟨g, 0, none⟩)) w ∧
    (method 281 76 (.pointer (some ⟨g, 0, none⟩)) "Feed").run Tryd.prog w = .ok (106, .pointer (some ⟨g, 0, none⟩)) w ∧
    (method 281 76 (.pointer (some ⟨g, 0, none⟩)) "End").run Tryd.prog w = .ok (105, .pointer (some ⟨g, 0, none⟩)) w ∧
    (method 281 76 (.pointer (some ⟨g, 0, none⟩)) "More").run Tryd.prog w = .ok (108, .pointer (some ⟨g, 0, none⟩)) w :=
  ⟨by kernel_rfl, by kernel_rfl, by kernel_rfl, by kernel_rfl, by kernel_rfl⟩
theorem MoreEnd.answers {N : Nat} {a : UInt8} {g : Nat} {r : JS × Outs × Int} {X Y : Nat → Nat → Prop} {w : World} {e : Ending} {w' : World} (h : MoreEnd N a g r X Y w e w') (hi : JInv N a r.1) (ho : OutsOk r.2.1 ∧ r.2.1.length ≤ 1000000) : Answers (ownJ g X Y) (joinRep N a g) r w e w' := by
  obtain ⟨v, X', Y', val', gval', rfl, hout, hr, hx, hf⟩ := h
  exact ⟨v, rfl, hout.is, ⟨_, ⟨X', Y', val', gval', hr, hi, rfl⟩, hx⟩, hf, ho.1, ho.2⟩
theorem outs_none : OutsOk [] ∧ ([] : Outs).length ≤ 1000000 := ⟨⟨(fun t ht => by cases ht), (fun t ht => by cases ht), Nat.zero_le _⟩, by simp⟩
theorem outs_pair {x : List UInt8} (h : x.length ≤ 130) : OutsOk [(0, x ++ [10])] ∧ ([(0, x ++ [10])] : Outs).length ≤ 1000000 := by
  refine ⟨⟨fun t ht => ?_, fun t ht => ?_, ?_⟩, by simp⟩
  · rw [List.mem_singleton.1 ht]; exact Nat.zero_le _
  · rw [List.mem_singleton.1 ht]; simp
  · simp [outSum]; omega

theorem join_driven (N : Nat) (a : UInt8) (h1 : 1 ≤ N) (hN : N ≤ 14) (g : Nat) : Driven (joinMach N a) (1 + 1) (joinRep N a g) 76 (.pointer (some ⟨g, 0, none⟩)) 109 107 106 105 108
    (.pointer (some ⟨g, 0, none⟩)) (.pointer (some ⟨g, 0, none⟩)) (.pointer (some ⟨g, 0, none⟩)) (.pointer (some ⟨g, 0, none⟩)) (.pointer (some ⟨g, 0, none⟩)) where
  goN w := (join_goes g w).1
  goH w := (join_goes g w).2.1
  goF w := (join_goes g w).2.2.1
  goE w := (join_goes g w).2.2.2.1
  goM w := (join_goes g w).2.2.2.2
  inN := enters_of Tryd.func109 (by kernel_rfl) (by kernel_rfl)
  inH := enters_of Tryd.func107 (by kernel_rfl) (by kernel_rfl)
  inF := enters_of Tryd.func106 (by kernel_rfl) (by kernel_rfl)
  inE := enters_of Tryd.func105 (by kernel_rfl) (by kernel_rfl)
  inM := enters_of Tryd.func108 (by kernel_rfl) (by kernel_rfl)
  keep s own w w' p h hf hp := by
    obtain ⟨X, Y, val, gval, h, hi, rfl⟩ := h
    exact ⟨X, Y, val, gval, h.frame hf (fun k hk => by rcases hk with e | e; exact hp k (.inl e); exact hp k (.inr (by omega))), hi, rfl⟩
  old s own w h := by
    obtain ⟨X, Y, val, gval, h, hi, rfl⟩ := h
    exact h.old
  need s own w h := by
    obtain ⟨X, Y, val, gval, h, hi, rfl⟩ := h
    exact need_any h.c0
  held s own w h := by
    obtain ⟨X, Y, val, gval, h, hi, rfl⟩ := h
    exact joinHeld_any s h hi hN
  feed s own w v x h hn hB hx1 hx := by
    obtain ⟨X, Y, val, gval, h, hi, rfl⟩ := h
    have hn' : 0 ≤ s.need := hn
    cases hi.waits with
    | dead k => omega
    | tells k => omega
    | reads p hp k hw ho ht =>
      have hsafe := hi.feed h1 hn' x hx
      obtain ⟨nd, b, t, told⟩ := s
      simp only at k hw ho ht
      subst k ht
      show Calls Tryd.prog _ #[_, .int .i64 (p : Int), v] w _
      have hfeed : (joinMach N a).feed ⟨p, b, t, 0⟩ x = match cutL (b p) x with
        | (_, none) => (deadJ, [], 20)
        | (L, some d) => comesJ N a (setAt b p d) (extJ t (oneV p L) (fun _ => false)) [] := rfl
      rw [hfeed] at hsafe ⊢
      rcases hc : cutL (b p) x with ⟨L, _ | d⟩
      · exact (queuesFeed_long h hp hw v x hB hx1 hx L hc).mono fun e w' hh => hh.answers JInv.dead outs_none
      · rw [hc] at hsafe
        exact (queuesFeed_yes h hi.ok h1 hN hp (hi.b p hp) hw v x hB hx1 hx L d hc).mono fun e w' hh => hh.answers hsafe outs_none
  fin s own w h hn := by
    obtain ⟨X, Y, val, gval, h, hi, rfl⟩ := h
    have hn' : 0 ≤ s.need := hn
    cases hi.waits with
    | dead k => omega
    | tells k => omega
    | reads p hp k hw ho ht =>
      have hsafe := hi.fin h1 hn'
      obtain ⟨nd, b, t, told⟩ := s
      simp only at k hw ho ht
      subst k ht
      show Calls Tryd.prog _ #[_, .int .i64 (p : Int)] w _
      have hfin : (joinMach N a).fin ⟨p, b, t, 0⟩ = comesJ N a (setAt b p []) (extJ t (oneV p (if b p = [] then [] else [b p])) (oneO p true)) [] := rfl
      rw [hfin] at hsafe ⊢
      exact (queuesEnd_yes h hi.ok h1 hN hp (hi.b p hp) hw).mono fun e w' hh => hh.answers hsafe outs_none
  more s own w h hn := by
    obtain ⟨X, Y, val, gval, h, hi, rfl⟩ := h
    have hn' : s.need = -2 := hn
    cases hi.waits with
    | dead k => omega
    | reads p hp k hw ho ht => omega
    | tells k hk ht =>
      have hsafe := hi.more h1 hn'
      have hlen := nextPair_len hi hn'
      obtain ⟨nd, b, t, told⟩ := s
      simp only at k ht
      subst k
      refine (joinMore_any h hi.ok h1 hN ht).mono fun e w' hh => hh.answers hsafe ?_
      have hm : ((joinMach N a).more ⟨-2, b, t, told⟩).2.1 = [(0, nextPair a ⟨-2, b, t, told⟩ ++ [10])] := by
        show (if told + 1 < (t.G 0).length * (t.G 1).length then (⟨-2, b, t, told + 1⟩, [(0, nextPair a ⟨-2, b, t, told⟩ ++ [10])], 0) else comesJ N a b (drops t) [(0, nextPair a ⟨-2, b, t, told⟩ ++ [10])] : JS × Outs × Int).2.1 = _
        split <;> rfl
      rw [hm]
      exact outs_pair hlen
  heldB s own w h := by
    obtain ⟨X, Y, val, gval, h, hi, rfl⟩ := h
    have := hi.held
    show 0 ≤ ((heldJ s : Nat) : Int) ∧ ((heldJ s : Nat) : Int) ≤ 1000000
    omega
theorem join_refusing (N : Nat) (a : UInt8) (g : Nat) : Refusing (joinMach N a) (joinRep N a g) 106 105 108 (.pointer (some ⟨g, 0, none⟩)) (.pointer (some ⟨g, 0, none⟩)) (.pointer (some ⟨g, 0, none⟩)) where
  feed s own w port ad l c h hr := by
    obtain ⟨X, Y, val, gval, h, hi, rfl⟩ := h
    have he : feedE s.need port l = errN s.need := feedE_err hr
    have := queuesFeed_no g _ port ad l c w h.c0 (by rw [he]; exact (errN_ne _).1)
    rw [he] at this
    exact this
  fin s own w port h hr := by
    obtain ⟨X, Y, val, gval, h, hi, rfl⟩ := h
    have he : endE s.need port = errN s.need := endE_err hr
    have := queuesEnd_no g _ port w h.c0 (by rw [he]; exact (errN_ne _).1)
    rw [he] at this
    exact this
  more s own w h hr := by
    obtain ⟨X, Y, val, gval, h, hi, rfl⟩ := h
    exact more_any h.c0 hr

end Go.Proofs.YtchepmikbnnnhaaDoor
