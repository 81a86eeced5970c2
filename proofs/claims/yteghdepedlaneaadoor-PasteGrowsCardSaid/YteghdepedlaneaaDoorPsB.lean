/- Paste's machine in memory: its own block, that of its queues, those of the lines that wait and of the row. -/
import Derived.Test.YteghdepedlaneaaDoorQA
import Derived.Test.YteghdepedlaneaaDoorPsA
import Derived.Test.YteghdepedlaneaaDoorJoinby
import Derived.Test.YteghdepedlaneaaDoorDone
import Derived.Outline
import Derived.Deep.RegionHeld3
import Derived.Test.YteghdepedlaneaaDoorReadto
import Derived.Test.YteghdepedlaneaaDoorRC
import Derived.Lib.SliceRun
import Derived.Handy
import Derived.Test.YteghdepedlaneaaDoorItell
namespace Go.Proofs.YteghdepedlaneaaDoor
open Go.RowKit

theorem setAt_eta {α : Type} (f : Nat → α) (i : Nat) : setAt f i (f i) = f := by
  funext j
  by_cases h : j = i
  · subst h; rw [setAt_self]
  · rw [setAt_other _ _ h]

def qL (f : Bool) (b : List UInt8) (wv : Value) (ov : Bool) : List Value := splL f b ++ [wv, .bool ov]
theorem length_qL {f : Bool} {b : List UInt8} {wv : Value} {ov : Bool} (h : b.length ≤ 64) : (qL f b wv ov).length = 68 := by simp [qL, length_splL h]
/-- The queues lie one behind the other in block q. -/
structure Qs (N q : Nat) (f : Nat → Bool) (b : Nat → List UInt8) (val : Nat → Value) (ov : Nat → Bool) (w : World) : Prop where
  row : ∃ cs : Array Value, w.heap[q]? = some (.cells cs 107 (0, 0)) ∧ cs.size = N * 68 ∧ ∀ j, j < N → ∀ i, i < 68 → cs[j * 68 + i]? = (qL (f j) (b j) (val j) (ov j))[i]?
  le : ∀ j, j < N → (b j).length ≤ 64
  fail : ∀ j, j < N → f j = true → b j = []
theorem Qs.frame {N q : Nat} {f : Nat → Bool} {b : Nat → List UInt8} {val : Nat → Value} {ov : Nat → Bool} {w w' : World} {p : Nat → Prop} (h : Qs N q f b val ov w) (hf : Frame p w w') (hp : ¬ p q) : Qs N q f b val ov w' := by
  obtain ⟨⟨cs, h1, h2, h3⟩, h4, h5⟩ := h
  exact ⟨⟨cs, hf.heap h1 hp, h2, h3⟩, h4, h5⟩
theorem Qs.at {N q : Nat} {f : Nat → Bool} {b : Nat → List UInt8} {val : Nat → Value} {ov : Nat → Bool} {w : World} (h : Qs N q f b val ov w) {j : Nat} (hj : j < N) :
    ∃ pre post, Spl q (j * 68) 107 pre (val j :: .bool (ov j) :: post) (f j) (b j) w ∧
      ∀ w' f' b' wv' ov', Spl q (j * 68) 107 pre (wv' :: .bool ov' :: post) f' b' w' → Qs N q (setAt f j f') (setAt b j b') (setAt val j wv') (setAt ov j ov') w' := by
  obtain ⟨⟨cs, h1, h2, h3⟩, h4, h5⟩ := h
  have hle := h4 j hj
  have hsz : cs.toList.length = N * 68 := by simpa using h2
  have hjN : j * 68 + 68 ≤ N * 68 := by omega
  have hpre : (cs.toList.take (j * 68)).length = j * 68 := by rw [List.length_take, hsz]; omega
  have hq : ∀ i, i < 68 → cs.toList[j * 68 + i]? = (qL (f j) (b j) (val j) (ov j))[i]? := fun i hi => by rw [← h3 j hj i hi, Array.getElem?_toList]
  have hmid : (cs.toList.drop (j * 68)).take 68 = qL (f j) (b j) (val j) (ov j) := by
    apply List.ext_getElem?
    intro i
    rw [List.getElem?_take]
    split
    · rename_i hi
      rw [List.getElem?_drop, hq i hi]
    · rename_i hi
      rw [List.getElem?_eq_none (by rw [length_qL hle]; omega)]
  have hall : cs.toList = cs.toList.take (j * 68) ++ (qL (f j) (b j) (val j) (ov j) ++ cs.toList.drop (j * 68 + 68)) := by
    rw [← hmid, ← List.drop_drop, List.take_append_drop, List.take_append_drop]
  refine ⟨cs.toList.take (j * 68), cs.toList.drop (j * 68 + 68), ⟨?_, hpre, hle, h5 j hj⟩, fun w' f' b' wv' ov' hs => ?_⟩
  · rw [h1]
    have : cs = rowA (cs.toList.take (j * 68)) (f j) (b j) (val j :: .bool (ov j) :: cs.toList.drop (j * 68 + 68)) := by
      apply Array.toList_inj.1
      show cs.toList = (cs.toList.take (j * 68) ++ splL (f j) (b j)) ++ (val j :: .bool (ov j) :: cs.toList.drop (j * 68 + 68))
      rw [List.append_assoc]
      exact hall.trans (by simp [qL])
    exact congrArg (fun c => some (Obj.cells c 107 (0, 0))) this
  · have hb := hs.le
    have hl66 : (splL f' b').length = 66 := length_splL hb
    have hcs : ∀ n, (rowA (cs.toList.take (j * 68)) f' b' (wv' :: .bool ov' :: cs.toList.drop (j * 68 + 68)))[n]? = if n < j * 68 then cs[n]? else if n < j * 68 + 68 then (qL f' b' wv' ov')[n - j * 68]? else cs[n]? := by
      intro n
      have : (rowA (cs.toList.take (j * 68)) f' b' (wv' :: .bool ov' :: cs.toList.drop (j * 68 + 68))) = (cs.toList.take (j * 68) ++ (qL f' b' wv' ov' ++ cs.toList.drop (j * 68 + 68))).toArray := by
        unfold rowA qL
        simp
      rw [this, List.getElem?_toArray]
      split
      · rename_i hn
        rw [List.getElem?_append_left (by rw [hpre]; exact hn), List.getElem?_take, if_pos hn, Array.getElem?_toList]
      · rename_i hn
        rw [List.getElem?_append_right (by rw [hpre]; omega), hpre]
        split
        · rename_i hn2
          rw [List.getElem?_append_left (by rw [length_qL hb]; omega)]
        · rename_i hn2
          rw [List.getElem?_append_right (by rw [length_qL hb]; omega), length_qL hb, List.getElem?_drop, Array.getElem?_toList]
          rw [show j * 68 + 68 + (n - j * 68 - 68) = n by omega]
    refine ⟨⟨_, hs.heap, ?_, fun j' hj' i hi => ?_⟩, fun j' hj' => ?_, fun j' hj' => ?_⟩
    · simp only [rowA, List.size_toArray, List.length_append, List.length_cons, hpre, hl66, List.length_drop, hsz]
      omega
    · rw [hcs]
      by_cases he : j' = j
      · subst he
        rw [if_neg (by omega), if_pos (by omega), setAt_self, setAt_self, setAt_self, setAt_self, Nat.add_sub_cancel_left]
      · rw [setAt_other _ _ he, setAt_other _ _ he, setAt_other _ _ he, setAt_other _ _ he, ← h3 j' hj' i hi]
        by_cases hlt : j' < j
        · rw [if_pos (by omega)]
        · rw [if_neg (by omega), if_neg (by omega)]
    · by_cases he : j' = j
      · subst he; rw [setAt_self]; exact hb
      · rw [setAt_other _ _ he]; exact h4 j' hj'
    · by_cases he : j' = j
      · subst he; rw [setAt_self, setAt_self]; exact hs.fail
      · rw [setAt_other _ _ he, setAt_other _ _ he]; exact h5 j' hj'

/-! The machine. -/
def pRow (N : Nat) (A : List UInt8) (g q : Nat) (nd : Int) (rowv : Value) (given : Bool) : Array Value :=
  #[.int .i64 nd, .nilFunc, .func (.func 29) #[.pointer (some ⟨g, 0, none⟩)] #[], .func (.func 30) #[.pointer (some ⟨g, 0, none⟩)] #[], .func (.func 31) #[.pointer (some ⟨g, 0, none⟩)] #[], strV A, .slice (some ⟨q, 0, none⟩) N N, rowv, .bool given]
structure PRep (N : Nat) (A : List UInt8) (g q : Nat) (nd : Int) (f : Nat → Bool) (b : Nat → List UInt8) (t : PT) (X : Nat → Nat → Prop) (val : Nat → Value) (rowv : Value) (w : World) : Prop where
  mach : w.heap[g]? = some (.cells (pRow N A g q nd rowv t.given) 83 (0, 0))
  qs : Qs N q f b val t.ov w
  kept : ∀ j, j < N → KeptIn w (val j) (X j) (t.W j)
  row : KeptIn w rowv (X N) t.row
  gq : g ≠ q
  away : ∀ j k, j ≤ N → X j k → k ≠ g ∧ k ≠ q
  apart : ∀ i j k, i ≤ N → j ≤ N → X i k → X j k → i = j
/-- What is the machine's own. -/
def ownP (N g q : Nat) (X : Nat → Nat → Prop) (k : Nat) : Prop := k = g ∨ k = q ∨ ∃ j, j ≤ N ∧ X j k
section
variable {N : Nat} {A : List UInt8} {g q : Nat} {nd : Int} {f : Nat → Bool} {b : Nat → List UInt8} {t : PT} {X : Nat → Nat → Prop} {val : Nat → Value} {rowv : Value} {w w' : World}
theorem PRep.c0 (h : PRep N A g q nd f b t X val rowv w) : w.cell? ⟨g, 0, none⟩ = some (.int .i64 nd) := by rw [cell_of_row _ _ _ _ _ _ h.mach]; rfl
theorem PRep.c2 (h : PRep N A g q nd f b t X val rowv w) : w.cell? ⟨g, 2, none⟩ = some (.func (.func 29) #[.pointer (some ⟨g, 0, none⟩)] #[]) := by rw [cell_of_row _ _ _ _ _ _ h.mach]; rfl
theorem PRep.c3 (h : PRep N A g q nd f b t X val rowv w) : w.cell? ⟨g, 3, none⟩ = some (.func (.func 30) #[.pointer (some ⟨g, 0, none⟩)] #[]) := by rw [cell_of_row _ _ _ _ _ _ h.mach]; rfl
theorem PRep.cGive (h : PRep N A g q nd f b t X val rowv w) : w.cell? ⟨g, 4, none⟩ = some (.func (.func 31) #[.pointer (some ⟨g, 0, none⟩)] #[]) := by rw [cell_of_row _ _ _ _ _ _ h.mach]; rfl
theorem PRep.c4 (h : PRep N A g q nd f b t X val rowv w) : w.cell? ⟨g, 5, none⟩ = some (strV A) := by rw [cell_of_row _ _ _ _ _ _ h.mach]; rfl
theorem PRep.c5 (h : PRep N A g q nd f b t X val rowv w) : w.cell? ⟨g, 6, none⟩ = some (.slice (some ⟨q, 0, none⟩) N N) := by rw [cell_of_row _ _ _ _ _ _ h.mach]; rfl
theorem PRep.c6 (h : PRep N A g q nd f b t X val rowv w) : w.cell? ⟨g, 7, none⟩ = some rowv := by rw [cell_of_row _ _ _ _ _ _ h.mach]; rfl
theorem PRep.c7 (h : PRep N A g q nd f b t X val rowv w) : w.cell? ⟨g, 8, none⟩ = some (.bool t.given) := by rw [cell_of_row _ _ _ _ _ _ h.mach]; rfl
theorem PRep.froz (h : PRep N A g q nd f b t X val rowv w) (o : Nat) : w.frozen? ⟨g, o, none⟩ = false := by simp [World.frozen?, h.mach]
theorem PRep.lt (h : PRep N A g q nd f b t X val rowv w) : g < w.heap.size := (Array.getElem?_eq_some_iff.1 h.mach).1
theorem PRep.frame {p : Nat → Prop} (h : PRep N A g q nd f b t X val rowv w) (hf : Frame p w w') (hp : ∀ k, ownP N g q X k → ¬ p k) : PRep N A g q nd f b t X val rowv w' :=
  ⟨hf.heap h.mach (hp g (.inl rfl)), h.qs.frame hf (hp q (.inr (.inl rfl))), fun j hj => (h.kept j hj).frame hf (fun k hk => hp k (.inr (.inr ⟨j, by omega, hk⟩))), h.row.frame hf (fun k hk => hp k (.inr (.inr ⟨N, Nat.le_refl _, hk⟩))), h.gq, h.away, h.apart⟩
theorem PRep.below (h : PRep N A g q nd f b t X val rowv w) (hb : Below w.heap.size w w') : PRep N A g q nd f b t X val rowv w' := h.frame (Below.toFrame hb fun _ => False) (fun _ _ h => h)
theorem PRep.old (h : PRep N A g q nd f b t X val rowv w) : ∀ k, ownP N g q X k → k < w.heap.size := by
  rintro k (rfl | rfl | ⟨j, hj, hk⟩)
  · exact h.lt
  · obtain ⟨cs, h1, -⟩ := h.qs.row
    exact (Array.getElem?_eq_some_iff.1 h1).1
  · by_cases hN : j = N
    · subst hN; exact h.row.old k hk
    · exact (h.kept j (by omega)).old k hk
/-- The machine's own block is turned. -/
theorem PRep.turn (h : PRep N A g q nd f b t X val rowv w) (hf : Frame (· = g) w w') {nd' : Int} {gv : Bool} (hm : w'.heap[g]? = some (.cells (pRow N A g q nd' rowv gv) 83 (0, 0))) : PRep N A g q nd' f b ⟨t.W, t.ov, t.row, gv⟩ X val rowv w' :=
  ⟨hm, h.qs.frame hf (fun e => h.gq e.symm), fun j hj => (h.kept j hj).frame hf (fun k hk e => (h.away j k (by omega) hk).1 e), h.row.frame hf (fun k hk e => (h.away N k (Nat.le_refl _) hk).1 e), h.gq, h.away, h.apart⟩
theorem PRep.setNeed (h : PRep N A g q nd f b t X val rowv w) (nd' : Int) : PRep N A g q nd' f b t X val rowv (w.setCell ⟨g, 0, none⟩ (.int .i64 nd')) :=
  h.turn (Frame.cell w ⟨g, 0, none⟩ _) (by rw [setCell_row h.mach]; rfl)
theorem PRep.setGiven (h : PRep N A g q nd f b t X val rowv w) (gv : Bool) : PRep N A g q nd f b ⟨t.W, t.ov, t.row, gv⟩ X val rowv (w.setCell ⟨g, 8, none⟩ (.bool gv)) :=
  h.turn (Frame.cell w ⟨g, 8, none⟩ _) (by rw [setCell_row h.mach]; rfl)
/-- The row is another one. -/
theorem PRep.setRow (h : PRep N A g q nd f b t X val rowv w) {w1 : World} {rowv' : Value} {X' : Nat → Prop} {L : Lines} (hk : KeptIn w1 rowv' X' L) (hf : Frame (X N) w w1) (hX : ∀ k, X' k → X N k ∨ w.heap.size ≤ k) :
    PRep N A g q nd f b ⟨t.W, t.ov, L, t.given⟩ (setAt X N X') val rowv' (w1.setCell ⟨g, 7, none⟩ rowv') := by
  have hg : ¬ X N g := fun e => (h.away N g (Nat.le_refl _) e).1 rfl
  have hq : ¬ X N q := fun e => (h.away N q (Nat.le_refl _) e).2 rfl
  have hold := h.old
  have hc := Frame.cell w1 ⟨g, 7, none⟩ rowv'
  have hg' : ∀ k, X' k → k ≠ g ∧ k ≠ q := fun k hk => by
    rcases hX k hk with e | e
    · exact h.away N k (Nat.le_refl _) e
    · have h1 := hold g (.inl rfl)
      have h2 := hold q (.inr (.inl rfl))
      omega
  have hap : ∀ j k, j < N → X j k → ¬ X N k := fun j k hj h1 h2 => by have := h.apart j N k (by omega) (Nat.le_refl _) h1 h2; omega
  have hap2 : ∀ j k, j < N → X j k → ¬ X' k := fun j k hj h1 h2 => by
    rcases hX k h2 with e | e
    · exact hap j k hj h1 e
    · have := hold k (.inr (.inr ⟨j, by omega, h1⟩)); omega
  refine ⟨by rw [setCell_row (hf.heap h.mach hg)]; rfl, (h.qs.frame hf hq).frame hc (fun e => h.gq e.symm), fun j hj => ?_, ?_, h.gq, fun j k hj hk => ?_, fun i j k hi hj hik hjk => ?_⟩
  · rw [setAt_other _ _ (by omega)]
    exact ((h.kept j hj).frame hf (fun k hk => hap j k hj hk)).frame hc (fun k hk e => (h.away j k (by omega) hk).1 e)
  · rw [setAt_self]
    exact hk.frame hc (fun k hk e => (hg' k hk).1 e)
  · by_cases he : j = N
    · subst he; rw [setAt_self] at hk; exact hg' k hk
    · rw [setAt_other _ _ he] at hk; exact h.away j k hj hk
  · by_cases hiN : i = N <;> by_cases hjN : j = N
    · omega
    · subst hiN
      rw [setAt_self] at hik
      rw [setAt_other _ _ hjN] at hjk
      exact absurd hik (hap2 j k (by omega) hjk)
    · subst hjN
      rw [setAt_self] at hjk
      rw [setAt_other _ _ hiN] at hik
      exact absurd hjk (hap2 i k (by omega) hik)
    · rw [setAt_other _ _ hiN] at hik
      rw [setAt_other _ _ hjN] at hjk
      exact h.apart i j k hi hj hik hjk
/-- One of the queues is turned. -/
theorem PRep.queue (h : PRep N A g q nd f b t X val rowv w) {j : Nat} (hj : j < N) :
    ∃ pre post, QRep q (j * 68) 107 pre post (f j) (b j) (X j) (t.W j) (t.ov j) (val j) w ∧
      ∀ w' f' b' X' L' ov' wv', QRep q (j * 68) 107 pre post f' b' X' L' ov' wv' w' → (∀ k, X' k → X j k ∨ w.heap.size ≤ k) → Frame (fun k => k = q ∨ X j k) w w' →
        PRep N A g q nd (setAt f j f') (setAt b j b') ⟨setAt t.W j L', setAt t.ov j ov', t.row, t.given⟩ (setAt X j X') (setAt val j wv') rowv w' := by
  obtain ⟨pre, post, hs, hback⟩ := h.qs.at hj
  have hold := h.old
  refine ⟨pre, post, ⟨hs, h.kept j hj, fun e => (h.away j q (by omega) e).2 rfl⟩, fun w' f' b' X' L' ov' wv' hq hX hf => ?_⟩
  have hjN : j ≠ N := by omega
  have hap2 : ∀ i k, i ≤ N → i ≠ j → X i k → ¬ X' k := fun i k hi hij h1 h2 => by
    rcases hX k h2 with e | e
    · exact hij (h.apart i j k hi (by omega) h1 e)
    · have := hold k (.inr (.inr ⟨i, hi, h1⟩)); omega
  have hfr : ∀ i k, i ≤ N → i ≠ j → X i k → ¬ (k = q ∨ X j k) := fun i k hi hij h1 h2 => by
    rcases h2 with e | e
    · exact (h.away i k hi h1).2 e
    · exact hij (h.apart i j k hi (by omega) h1 e)
  refine ⟨hf.heap h.mach (fun e => ?_), hback w' f' b' wv' ov' hq.spl, fun i hi => ?_, ?_, h.gq, fun i k hi hk => ?_, fun i i' k hi hi' hik hik' => ?_⟩
  · rcases e with e | e
    · exact h.gq e
    · exact (h.away j g (by omega) e).1 rfl
  · by_cases he : i = j
    · subst he
      simp only [setAt_self]
      exact hq.kept
    · simp only [setAt_other _ _ he]
      exact (h.kept i hi).frame hf (fun k hk => hfr i k (by omega) he hk)
  · rw [setAt_other _ _ hjN.symm]
    exact h.row.frame hf (fun k hk => hfr N k (Nat.le_refl _) hjN.symm hk)
  · by_cases he : i = j
    · subst he
      rw [setAt_self] at hk
      rcases hX k hk with e | e
      · exact h.away i k hi e
      · have h1 := hold g (.inl rfl)
        have h2 := hold q (.inr (.inl rfl))
        omega
    · rw [setAt_other _ _ he] at hk
      exact h.away i k hi hk
  · by_cases he : i = j <;> by_cases he' : i' = j
    · omega
    · subst he
      rw [setAt_self] at hik
      rw [setAt_other _ _ he'] at hik'
      exact absurd hik (hap2 i' k hi' he' hik')
    · subst he'
      rw [setAt_self] at hik'
      rw [setAt_other _ _ he] at hik
      exact absurd hik' (hap2 i k hi he hik)
    · rw [setAt_other _ _ he] at hik
      rw [setAt_other _ _ he'] at hik'
      exact h.apart i i' k hi hi' hik hik'
end

end Go.Proofs.YteghdepedlaneaaDoor

namespace Go.Proofs.YteghdepedlaneaaDoor
open Go.RowKit

theorem KeptIn.texts {w : World} {v : Value} {X : Nat → Prop} {L : Lines} (h : KeptIn w v X L) : IsTexts (fun _ => True) w v L := by
  obtain ⟨a, c, rfl, hc⟩ := h.at
  exact ⟨a, c, rfl, fun j l hj => by
    obtain ⟨b, off, e, hx⟩ := hc j l hj
    exact ⟨b, off, e, trivial, hx⟩⟩
section
variable {N : Nat} {A : List UInt8} {g q : Nat} {nd : Int} {f : Nat → Bool} {b : Nat → List UInt8} {t : PT} {X : Nat → Nat → Prop} {val : Nat → Value} {rowv : Value} {w : World}
set_option maxRecDepth 100000 in
set_option maxHeartbeats 2000000 in
theorem input_any (h : PRep N A g q nd f b t X val rowv w) {j : Nat} (hj : j < N) :
    Calls Tryd.prog 29 #[.pointer (some ⟨g, 0, none⟩), .int .i64 j] w (Says w (.pointer (some ⟨q, j * 68, none⟩))) := by
  have c5 := h.c5
  have q1 : (0 : Int) ≤ (j : Int) := by omega
  have q2 : (j : Int) < (N : Int) := by omega
  clear h
  go_enter Tryd.func29, Tryd.ntmps29
  go_wp2_with fail
  go_ret
  exact ⟨rfl, rfl⟩

set_option maxRecDepth 100000 in
set_option maxHeartbeats 2000000 in
theorem asLine_any {a : UInt8} (h : PRep N [a] g q nd f b t X val rowv w) (hl : (Lib.join t.row [a]).length ≤ 100000) (hr : t.row.length ≤ 100000) :
    Calls Tryd.prog 45 #[.pointer (some ⟨g, 0, none⟩)] w fun e w' => e = .returned (strV (Lib.join t.row [a])) ∧ Below w.heap.size w w' := by
  obtain ⟨ra, rc, rfl, hcap⟩ := h.row.cap
  obtain ⟨SA, hSA⟩ : ∃ S : ByteArray, strV [a] = .string S := ⟨_, rfl⟩
  have hx : ∀ W, Below w.heap.size w W → W.cell? ⟨g, 7, none⟩ = some (.slice ra t.row.length rc) ∧ W.cell? ⟨g, 5, none⟩ = some (.string SA) := fun W hb => by
    have h' := h.below hb
    exact ⟨h'.c6, hSA ▸ h'.c4⟩
  have hj : ∀ W, Below w.heap.size w W → Calls Tryd.prog 54 #[.slice ra t.row.length rc, .string SA] W fun e w' => e = .returned (strV (Lib.join t.row [a])) ∧ Below W.heap.size W w' := fun W hb => by
    rw [← hSA]
    exact joinBy_any _ _ a W (h.below hb).row.texts ⟨ra, rc, rfl, hcap⟩ (by omega) (by omega)
  have HX := Lib.hid hx
  have HJ := Lib.hid hj
  obtain ⟨c6, c4⟩ := hx w (Below.refl _ _)
  obtain ⟨S, hS⟩ : ∃ S : ByteArray, strV (Lib.join t.row [a]) = .string S := ⟨_, rfl⟩
  rw [hS] at HJ ⊢
  clear h hx hj hS hSA
  go_enter Tryd.func45, Tryd.ntmps45
  go_upto_region 1 with fail
  have hw : Below w.heap.size w w.drew := (Below.refl _ _).drew
  go_region_held3 (fun W => W.cell? ⟨g, 7, none⟩ = some (.slice ra t.row.length rc) ∧ W.cell? ⟨g, 5, none⟩ = some (.string SA))
    (exact HX.out _ hw)
    (first
    | (go_at_call 54; refine (HJ.out _ hw).mono ?_; rintro e w7 ⟨rfl, hb1⟩; have hw := hw.trans (hb1.mono hw.size); clear hb1))
  all_goals (go_wp2_with fail; go_ret; exact ⟨rfl, hw⟩)

set_option maxRecDepth 100000 in
set_option maxHeartbeats 2000000 in
theorem beginRow_any (h : PRep N A g q nd f b t X val rowv w) :
    Calls Tryd.prog 46 #[.pointer (some ⟨g, 0, none⟩)] w fun e w' => e = .returned (.tuple #[]) ∧ PRep N A g q nd f b ⟨t.W, t.ov, [], false⟩ (setAt X N (fun _ => False)) val (.slice none 0 0) w' ∧ Frame (· = g) w w' := by
  have c6 := h.c6
  have c7 := h.c7
  have z6 := h.froz 7
  have z7 := h.froz 8
  have h1 := Lib.hid ((h.setRow (KeptIn.nil (fun _ => False) (fun _ h => h)) (Frame.refl _ w) (fun _ h => h.elim)).setGiven false)
  clear h
  go_enter Tryd.func46, Tryd.ntmps46
  go_wp2_with fail
  go_returns
  exact ⟨rfl, h1.out, (Frame.cell w ⟨g, 7, none⟩ _).trans (Frame.cell _ ⟨g, 8, none⟩ _)⟩
end

end Go.Proofs.YteghdepedlaneaaDoor

namespace Go.Proofs.YteghdepedlaneaaDoor
open Go.RowKit

/-- Some steps. -/
inductive Steps (N : Nat) (A : List UInt8) (t : PT) : Lines → PT → Prop
  | refl : Steps N A t [] t
  | step {E e : Lines} {t' t'' : PT} (h : Steps N A t E t') (m : Micro (N := N) (A := A) t' e t'') : Steps N A t (E ++ e) t''
section
variable {N : Nat} {A : List UInt8} {t t' : PT} {E : Lines}
theorem Steps.settle (h : Steps N A t E t') : settle N A t = (E ++ (settle N A t').1, (settle N A t').2) := by
  induction h with
  | refl => simp
  | step h m ih => rw [ih, settle_some m]; simp
theorem Steps.cost (h : Steps N A t E t') (B : Nat → Nat) (hB : ∀ j, j < N → B j ≤ 64) (hc : ∀ j, j < N → costT t j + B j ≤ 96) : ∀ j, j < N → costT t' j + B j ≤ 96 := by
  induction h with
  | refl => exact hc
  | step h m ih => exact micro_cost m B hB ih
theorem Steps.len (h : Steps N A t E t') (hl : t.row.length ≤ N) : t'.row.length ≤ N := by
  induction h with
  | refl => exact hl
  | step h m ih => exact micro_len m ih
theorem Steps.mu (h : Steps N A t E t') : muP N t' ≤ muP N t := by
  induction h with
  | refl => exact Nat.le_refl _
  | step h m ih => exact Nat.le_trans (micro_mu m).1 ih
theorem Steps.ov (h : Steps N A t E t') : t'.ov = t.ov := by
  induction h with
  | refl => rfl
  | step h m ih => rw [← ih]; cases m <;> rfl
theorem Steps.trans {t'' : PT} {F : Lines} (h : Steps N A t E t') (k : Steps N A t' F t'') : Steps N A t (E ++ F) t'' := by
  induction k with
  | refl => rw [List.append_nil]; exact h
  | step k m ih => rw [← List.append_assoc]; exact .step ih m
theorem Steps.more (h : Steps N A t [] t') {t'' : PT} (m : Micro (N := N) (A := A) t' [] t'') : Steps N A t [] t'' := .step h m
end
section
variable {N : Nat} {A : List UInt8} {g q : Nat} {nd : Int} {f : Nat → Bool} {b : Nat → List UInt8} {t : PT} {X : Nat → Nat → Prop} {val : Nat → Value} {rowv : Value} {w : World}
theorem PRep.awayN (h : PRep N A g q nd f b t X val rowv w) : ¬ X N g := fun e => (h.away N g (Nat.le_refl _) e).1 rfl
theorem PRep.frozN (h : PRep N A g q nd f b t X val rowv w) {w' : World} (hf : Frame (X N) w w') (o : Nat) : w'.frozen? ⟨g, o, none⟩ = false := by simp [World.frozen?, hf.heap h.mach h.awayN]
theorem ownP_set {N g q : Nat} {X : Nat → Nat → Prop} {i : Nat} {X' : Nat → Prop} {w : World} (hi : i ≤ N) (hX : ∀ k, X' k → X i k ∨ w.heap.size ≤ k) : ∀ k, ownP N g q (setAt X i X') k → ownP N g q X k ∨ w.heap.size ≤ k := by
  rintro k (h | h | ⟨j, hj, h⟩)
  · exact .inl (.inl h)
  · exact .inl (.inr (.inl h))
  · by_cases he : j = i
    · subst he
      rw [setAt_self] at h
      rcases hX k h with e | e
      · exact .inl (.inr (.inr ⟨j, hj, e⟩))
      · exact .inr e
    · rw [setAt_other _ _ he] at h
      exact .inl (.inr (.inr ⟨j, hj, h⟩))
theorem own_then {N g q : Nat} {X X1 : Nat → Nat → Prop} {w w1 w2 : World} (h : Frame (ownP N g q X) w w1) (hx : ∀ k, ownP N g q X1 k → ownP N g q X k ∨ w.heap.size ≤ k) (h2 : Frame (ownP N g q X1) w1 w2) : Frame (ownP N g q X) w w2 :=
  h.then h2 (fun k hk e => (hx k e).resolve_right (by omega))
theorem own_trans {N g q : Nat} {X X1 X2 : Nat → Nat → Prop} {w w1 : World} (hs : w.heap.size ≤ w1.heap.size) (hx : ∀ k, ownP N g q X1 k → ownP N g q X k ∨ w.heap.size ≤ k) (hx2 : ∀ k, ownP N g q X2 k → ownP N g q X1 k ∨ w1.heap.size ≤ k) : ∀ k, ownP N g q X2 k → ownP N g q X k ∨ w.heap.size ≤ k := fun k hk => by
  rcases hx2 k hk with e | e
  · exact hx k e
  · exact .inr (by omega)
/-- A text is taken. -/
theorem PRep.took (h : PRep N A g q nd f b t X val rowv w) {j : Nat} (hj : j < N) {l : List UInt8} {r : Lines} (hw : t.W j = l :: r) (hr : r.length ≤ 1000) :
    Calls Tryd.prog 50 #[.pointer (some ⟨q, j * 68, none⟩)] w fun e w' => ∃ X' val', (e = .returned (.tuple #[strV l, .bool true]) ∧ PRep N A g q nd f b ⟨setAt t.W j r, t.ov, t.row, t.given⟩ X' val' rowv w') ∧ (∀ k, ownP N g q X' k → ownP N g q X k ∨ w.heap.size ≤ k) ∧ Frame (ownP N g q X) w w' := by
  obtain ⟨pre, post, hq, hback⟩ := h.queue hj
  rw [hw] at hq
  refine (qtake_any hq (by omega)).mono ?_
  rintro e w' ⟨X', wv', rfl, hq', hx, hf⟩
  have := hback w' _ _ X' r _ wv' hq' hx hf
  rw [setAt_eta, setAt_eta, setAt_eta] at this
  exact ⟨_, _, ⟨rfl, this⟩, ownP_set (by omega) hx, hf.mono fun k _ e => by rcases e with e | e; exact .inr (.inl e); exact .inr (.inr ⟨j, by omega, e⟩)⟩
theorem PRep.tookNone (h : PRep N A g q nd f b t X val rowv w) {j : Nat} (hj : j < N) (hw : t.W j = []) : Calls Tryd.prog 50 #[.pointer (some ⟨q, j * 68, none⟩)] w (Says w (.tuple #[strV [], .bool false])) := by
  obtain ⟨pre, post, hq, -⟩ := h.queue hj
  rw [hw] at hq
  exact qtake_none hq
theorem PRep.overs (h : PRep N A g q nd f b t X val rowv w) {j : Nat} (hj : j < N) (hw : t.W j = []) : Calls Tryd.prog 51 #[.pointer (some ⟨q, j * 68, none⟩)] w (Says w (.bool (t.ov j))) := by
  obtain ⟨pre, post, hq, -⟩ := h.queue hj
  rw [hw] at hq
  have := qover_any hq
  simpa using this

/-- What fillRow leaves. -/
structure Filled (N : Nat) (A : List UInt8) (g q : Nat) (f : Nat → Bool) (b : Nat → List UInt8) (t : PT) (X : Nat → Nat → Prop) (w : World) (t' : PT) (nd' : Int) (w' : World) : Prop where
  steps : Steps N A t [] t'
  rep : ∃ X' val' rowv', PRep N A g q nd' f b t' X' val' rowv' w' ∧ ∀ k, ownP N g q X' k → ownP N g q X k ∨ w.heap.size ≤ k
  fr : Frame (ownP N g q X) w w'
def FillEnd (N : Nat) (A : List UInt8) (g q : Nat) (nd : Int) (f : Nat → Bool) (b : Nat → List UInt8) (t : PT) (X : Nat → Nat → Prop) (w : World) (e : Ending) (w' : World) : Prop :=
  ∃ t', (e = .returned (.bool true) ∧ N ≤ t'.row.length ∧ Filled N A g q f b t X w t' nd w') ∨ (e = .returned (.bool false) ∧ t'.row.length < N ∧ Stuck (N := N) t' ∧ Filled N A g q f b t X w t' t'.row.length w')

set_option maxRecDepth 100000 in
set_option maxHeartbeats 8000000 in
theorem fillRow_any (h : PRep N A g q nd f b t X val rowv w) (hl : t.row.length ≤ N) (hN : N ≤ 4) (hb : ∀ j, j < N → (b j).length ≤ 64) (hc : ∀ j, j < N → costT t j + (b j).length ≤ 96) :
    Calls Tryd.prog 43 #[.pointer (some ⟨g, 0, none⟩)] w (FillEnd N A g q nd f b t X w) := by
  have H := Lib.hid h
  obtain ⟨ra, rc, hrv⟩ := h.row.slice
  subst hrv
  have c6 := h.c6
  have HCost := Lib.hid hc
  have HB := Lib.hid hb
  have HFil : Filled N A g q f b t X w t nd w := ⟨.refl, ⟨X, val, _, h, fun k hk => .inl hk⟩, Frame.refl _ _⟩
  have HI := Lib.hid HFil
  clear h hc hb HFil
  go_enter Tryd.func43, Tryd.ntmps43
  go_wp2_with fail
  go_loopw [3] (fun pv wr => ∃ (j : Nat) (t1 : PT), pv = .int .i64 j ∧ j = t1.row.length ∧ j ≤ N ∧ Filled N A g q f b t X w t1 nd wr) (fun pv _ => N - (intOf pv).toNat)
  case atStart => exact ⟨_, t, rfl, rfl, hl, HI.out⟩
  case round =>
    obtain ⟨_, t1, rfl, rfl, hjN, hfil⟩ := hrel
    have HFl := Lib.hid hfil
    obtain ⟨hst, ⟨X1, val1, rowv1, hp1, hx1⟩, hf1⟩ := hfil
    obtain ⟨ra1, rc1, hrv1⟩ := hp1.row.slice
    subst hrv1
    rename World => WR
    have HP1 := Lib.hid hp1
    have HX1 := Lib.hid hx1
    have HSt := Lib.hid hst
    have HF1 := Lib.hid hf1
    have c5 := hp1.c5
    clear c6 hst hx1 hf1
    by_cases hlt : t1.row.length < N
    · have q1 : (0 : Int) ≤ (t1.row.length : Int) := by omega
      have q2 : (t1.row.length : Int) < (N : Int) := by omega
      clear hp1
      cases hw : t1.W t1.row.length with
      | cons l r =>
        have hr : r.length ≤ 1000 := by
          have h1 := HSt.out.cost (fun j => (b j).length) HB.out HCost.out t1.row.length hlt
          have h2 := cW_len (t1.W t1.row.length)
          rw [hw] at h2
          unfold costT at h1
          rw [hw] at h1
          simp only [List.length_cons] at h2
          omega
        have hTk := HP1.out.took hlt hw hr
        obtain ⟨S, hS⟩ : ∃ S : ByteArray, strV l = .string S := ⟨_, rfl⟩
        rw [hS] at hTk
        have HS := Lib.hid hS
        have HTk := Lib.hid hTk
        have HM := Lib.hid (Micro.take (N := N) (A := A) (t := t1) l r hlt hw)
        clear hTk hS hw hr
        go_wp2_with fail
        refine HTk.out.mono ?_
        rintro e w2 ⟨X2, val2, ⟨rfl, hp2⟩, hx2, hf2⟩
        have HF12 := Lib.hid (own_then HF1.out HX1.out hf2)
        have HX12 := Lib.hid (own_trans HF1.out.size HX1.out hx2)
        have HP2 := Lib.hid hp2
        have c5 := hp2.c5
        have c6 := hp2.c6
        have c7 := hp2.c7
        clear hp2 hx2 hf2
        cases hgv : t1.given with
        | true =>
          simp only [hgv] at c7
          have HG := Lib.hid hgv
          clear hgv
          go_wp2_with (at_builtin; refine wpList_append_kept rfl (.tmp 52) (.tmp 54) rfl _ _ _ rfl (HP2.out.row.frame ((Frame.refl (fun _ => False) w2).alloc (.cells #[.string S] 9 (0, 0))) (fun _ _ e => e)) ⟨w2.heap.size, 0, none⟩ l rfl (by rw [HS.out, cell_of_row _ _ _ _ _ _ (heap_alloc_last w2 _)]; rfl) (by show t1.row.length ≤ 1000000; omega) ?_; intro v' w3 XR hk3 hf3 hx3; obtain ⟨va, vc, rfl⟩ := hk3.slice2; have hal := HP2.out.below ((Below.refl w2.heap.size w2).alloc (Nat.le_refl _) (.cells #[.string S] 9 (0, 0))); have HK3 := Lib.hid hk3; have HF3 := Lib.hid hf3; have HX3 := Lib.hid hx3; have HAl := Lib.hid hal; have c6 := hf3.cell? hal.c6 hal.awayN; have c7 : w3.cell? ⟨g, 8, none⟩ = some (.bool true) := (by rw [← HG.out]; exact hf3.cell? hal.c7 hal.awayN); have z6 := hal.frozN hf3 7; have z7 := hal.frozN hf3 8; clear hk3 hf3 hx3 hal)
          have hpr := Lib.hid ((HAl.out.setRow HK3.out HF3.out HX3.out).setGiven true)
          have hfr3 : Frame (ownP N g q X2) w2 ((w3.setCell ⟨g, 7, none⟩ (.slice va (t1.row.length + [l].length) vc)).setCell ⟨g, 8, none⟩ (.bool true)) := (((Frame.refl _ w2).alloc (.cells #[.string S] 9 (0, 0))).trans (HF3.out.mono (fun k _ e => .inr (.inr ⟨N, Nat.le_refl _, e⟩)))).trans (((Frame.cell w3 ⟨g, 7, none⟩ _).trans (Frame.cell _ ⟨g, 8, none⟩ _)).mono (fun k _ e => .inl e))
          have HFr3 := Lib.hid hfr3
          clear hfr3 c6 c7 z6 z7
          go_roundw
          case rel =>
            refine ⟨t1.row.length + 1, ⟨setAt t1.W t1.row.length r, t1.ov, t1.row ++ [l], true⟩, by go_num, by simp, by omega, HSt.out.more HM.out, ⟨_, val2, _, hpr.out, own_trans HF12.out.size HX12.out (ownP_set (Nat.le_refl _) (fun k hk => ?_))⟩, own_then HF12.out HX12.out HFr3.out⟩
            rcases HX3.out k hk with e | e
            · exact .inl e
            · refine .inr ?_
              simp at e
              omega
          case measure => simp [intOf]; omega
        | false =>
          simp only [hgv] at c7
          have HG := Lib.hid hgv
          clear hgv
          go_wp2_with (at_builtin; refine wpList_append_kept rfl (.tmp 52) (.tmp 54) rfl _ _ _ rfl (HP2.out.row.frame ((Frame.refl (fun _ => False) w2).alloc (.cells #[.string S] 9 (0, 0))) (fun _ _ e => e)) ⟨w2.heap.size, 0, none⟩ l rfl (by rw [HS.out, cell_of_row _ _ _ _ _ _ (heap_alloc_last w2 _)]; rfl) (by show t1.row.length ≤ 1000000; omega) ?_; intro v' w3 XR hk3 hf3 hx3; obtain ⟨va, vc, rfl⟩ := hk3.slice2; have hal := HP2.out.below ((Below.refl w2.heap.size w2).alloc (Nat.le_refl _) (.cells #[.string S] 9 (0, 0))); have HK3 := Lib.hid hk3; have HF3 := Lib.hid hf3; have HX3 := Lib.hid hx3; have HAl := Lib.hid hal; have c6 := hf3.cell? hal.c6 hal.awayN; have c7 : w3.cell? ⟨g, 8, none⟩ = some (.bool false) := (by rw [← HG.out]; exact hf3.cell? hal.c7 hal.awayN); have z6 := hal.frozN hf3 7; have z7 := hal.frozN hf3 8; clear hk3 hf3 hx3 hal)
          have hpr := Lib.hid ((HAl.out.setRow HK3.out HF3.out HX3.out).setGiven true)
          have hfr3 : Frame (ownP N g q X2) w2 ((w3.setCell ⟨g, 7, none⟩ (.slice va (t1.row.length + [l].length) vc)).setCell ⟨g, 8, none⟩ (.bool true)) := (((Frame.refl _ w2).alloc (.cells #[.string S] 9 (0, 0))).trans (HF3.out.mono (fun k _ e => .inr (.inr ⟨N, Nat.le_refl _, e⟩)))).trans (((Frame.cell w3 ⟨g, 7, none⟩ _).trans (Frame.cell _ ⟨g, 8, none⟩ _)).mono (fun k _ e => .inl e))
          have HFr3 := Lib.hid hfr3
          clear hfr3 c6 c7 z6 z7
          go_roundw
          case rel =>
            refine ⟨t1.row.length + 1, ⟨setAt t1.W t1.row.length r, t1.ov, t1.row ++ [l], true⟩, by go_num, by simp, by omega, HSt.out.more HM.out, ⟨_, val2, _, hpr.out, own_trans HF12.out.size HX12.out (ownP_set (Nat.le_refl _) (fun k hk => ?_))⟩, own_then HF12.out HX12.out HFr3.out⟩
            rcases HX3.out k hk with e | e
            · exact .inl e
            · refine .inr ?_
              simp at e
              omega
          case measure => simp [intOf]; omega
      | nil =>
        have HTk := Lib.hid (HP1.out.tookNone hlt hw)
        have HOv := Lib.hid (HP1.out.overs hlt hw)
        have HW := Lib.hid hw
        cases ho : t1.ov t1.row.length with
        | false =>
          have c0 := HP1.out.c0
          have z0 := HP1.out.froz 0
          rw [ho] at HOv
          have HO := Lib.hid ho
          clear hw ho
          go_wp2_with fail
          refine HTk.out.mono ?_
          rintro e w2 ⟨rfl, rfl⟩
          go_wp2_with fail
          refine HOv.out.mono ?_
          rintro e w2 ⟨rfl, rfl⟩
          go_wp2_with fail
          refine (read_any (t1.row.length : Int) c0 z0).mono ?_
          rintro e w2 ⟨rfl, rfl⟩
          go_wp2_with fail
          go_ret
          refine ⟨t1, .inr ⟨rfl, by exact hlt, .waits (by exact hlt) (by exact HW.out) (by exact HO.out), ?_⟩⟩
          exact ⟨HSt.out, ⟨X1, val1, _, HP1.out.setNeed _, HX1.out⟩, HF1.out.trans ((Frame.cell _ ⟨g, 0, none⟩ _).mono (fun k _ e => .inl e))⟩
        | true =>
          obtain ⟨S, hS⟩ : ∃ S : ByteArray, strV [] = .string S := ⟨_, rfl⟩
          rw [hS] at HTk
          have HS := Lib.hid hS
          rw [ho] at HOv
          have hm := Micro.over (N := N) (A := A) (t := t1) hlt hw ho
          have HM := Lib.hid hm
          have hp2 := HP1.out
          have c6 := hp2.c6
          have c7 := hp2.c7
          clear hw ho hm hp2 hS
          go_wp2_with fail
          refine HTk.out.mono ?_
          rintro e w2 ⟨rfl, rfl⟩
          go_wp2_with fail
          refine HOv.out.mono ?_
          rintro e w2 ⟨rfl, rfl⟩
          have HF12 := HF1
          have HX12 := HX1
          cases hgv : t1.given with
          | true =>
            simp only [hgv] at c7
            rw [hgv] at HM
            have HG := Lib.hid hgv
            clear hgv
            go_wp2_with (at_builtin; refine wpList_append_kept rfl (.tmp 52) (.tmp 54) rfl _ _ _ rfl (HP1.out.row.frame ((Frame.refl (fun _ => False) WR).alloc (.cells #[.string S] 9 (0, 0))) (fun _ _ e => e)) ⟨WR.heap.size, 0, none⟩ [] rfl (by rw [HS.out, cell_of_row _ _ _ _ _ _ (heap_alloc_last WR _)]; rfl) (by show t1.row.length ≤ 1000000; omega) ?_; intro v' w3 XR hk3 hf3 hx3; obtain ⟨va, vc, rfl⟩ := hk3.slice2; have hal := HP1.out.below ((Below.refl WR.heap.size WR).alloc (Nat.le_refl _) (.cells #[.string S] 9 (0, 0))); have HK3 := Lib.hid hk3; have HF3 := Lib.hid hf3; have HX3 := Lib.hid hx3; have HAl := Lib.hid hal; have c6 := hf3.cell? hal.c6 hal.awayN; have c7 : w3.cell? ⟨g, 8, none⟩ = some (.bool true) := (by rw [← HG.out]; exact hf3.cell? hal.c7 hal.awayN); have z6 := hal.frozN hf3 7; have z7 := hal.frozN hf3 8; clear hk3 hf3 hx3 hal)
            have hpr := Lib.hid ((HAl.out.setRow HK3.out HF3.out HX3.out).setGiven true)
            have hfr3 : Frame (ownP N g q X1) WR ((w3.setCell ⟨g, 7, none⟩ (.slice va (t1.row.length + [([] : List UInt8)].length) vc)).setCell ⟨g, 8, none⟩ (.bool true)) := (((Frame.refl _ WR).alloc (.cells #[.string S] 9 (0, 0))).trans (HF3.out.mono (fun k _ e => .inr (.inr ⟨N, Nat.le_refl _, e⟩)))).trans (((Frame.cell w3 ⟨g, 7, none⟩ _).trans (Frame.cell _ ⟨g, 8, none⟩ _)).mono (fun k _ e => .inl e))
            have HFr3 := Lib.hid hfr3
            clear hfr3 c6 c7 z6 z7
            go_roundw
            case rel =>
              refine ⟨t1.row.length + 1, ⟨t1.W, t1.ov, t1.row ++ [[]], true⟩, by go_num, by simp, by omega, HSt.out.more HM.out, ⟨_, val1, _, hpr.out, own_trans HF12.out.size HX12.out (ownP_set (Nat.le_refl _) (fun k hk => ?_))⟩, own_then HF12.out HX12.out HFr3.out⟩
              rcases HX3.out k hk with e | e
              · exact .inl e
              · refine .inr ?_
                simp at e
                omega
            case measure => simp [intOf]; omega
          | false =>
            simp only [hgv] at c7
            rw [hgv] at HM
            have HG := Lib.hid hgv
            clear hgv
            go_wp2_with (at_builtin; refine wpList_append_kept rfl (.tmp 52) (.tmp 54) rfl _ _ _ rfl (HP1.out.row.frame ((Frame.refl (fun _ => False) WR).alloc (.cells #[.string S] 9 (0, 0))) (fun _ _ e => e)) ⟨WR.heap.size, 0, none⟩ [] rfl (by rw [HS.out, cell_of_row _ _ _ _ _ _ (heap_alloc_last WR _)]; rfl) (by show t1.row.length ≤ 1000000; omega) ?_; intro v' w3 XR hk3 hf3 hx3; obtain ⟨va, vc, rfl⟩ := hk3.slice2; have hal := HP1.out.below ((Below.refl WR.heap.size WR).alloc (Nat.le_refl _) (.cells #[.string S] 9 (0, 0))); have HK3 := Lib.hid hk3; have HF3 := Lib.hid hf3; have HX3 := Lib.hid hx3; have HAl := Lib.hid hal; have c6 := hf3.cell? hal.c6 hal.awayN; have c7 : w3.cell? ⟨g, 8, none⟩ = some (.bool false) := (by rw [← HG.out]; exact hf3.cell? hal.c7 hal.awayN); have z6 := hal.frozN hf3 7; have z7 := hal.frozN hf3 8; clear hk3 hf3 hx3 hal)
            have hpr := Lib.hid ((HAl.out.setRow HK3.out HF3.out HX3.out).setGiven false)
            have hfr3 : Frame (ownP N g q X1) WR ((w3.setCell ⟨g, 7, none⟩ (.slice va (t1.row.length + [([] : List UInt8)].length) vc)).setCell ⟨g, 8, none⟩ (.bool false)) := (((Frame.refl _ WR).alloc (.cells #[.string S] 9 (0, 0))).trans (HF3.out.mono (fun k _ e => .inr (.inr ⟨N, Nat.le_refl _, e⟩)))).trans (((Frame.cell w3 ⟨g, 7, none⟩ _).trans (Frame.cell _ ⟨g, 8, none⟩ _)).mono (fun k _ e => .inl e))
            have HFr3 := Lib.hid hfr3
            clear hfr3 c6 c7 z6 z7
            go_roundw
            case rel =>
              refine ⟨t1.row.length + 1, ⟨t1.W, t1.ov, t1.row ++ [[]], false⟩, by go_num, by simp, by omega, HSt.out.more HM.out, ⟨_, val1, _, hpr.out, own_trans HF12.out.size HX12.out (ownP_set (Nat.le_refl _) (fun k hk => ?_))⟩, own_then HF12.out HX12.out HFr3.out⟩
              rcases HX3.out k hk with e | e
              · exact .inl e
              · refine .inr ?_
                simp at e
                omega
            case measure => simp [intOf]; omega
    · have hjl : t1.row.length = N := by omega
      have q2 : ¬ (t1.row.length : Int) < (N : Int) := by omega
      clear hp1
      go_wp2_with fail
      go_ret
      exact ⟨t1, .inl ⟨rfl, by omega, HFl.out⟩⟩
end

end Go.Proofs.YteghdepedlaneaaDoor

namespace Go.Proofs.YteghdepedlaneaaDoor
open Go.RowKit

theorem qZero : Tryd.zeroCells107 = (qL false [] (.slice none 0 0) false).toArray := by kernel_rfl
/-- 'clear' of the queues: each of them is a new one. -/
theorem run_clear_queues (w : World) (ty : TypeId) (q N c : Nat) (cs : Array Value) (hh : w.heap[q]? = some (.cells cs 107 (0, 0))) (hs : cs.size = N * 68) (hN : 0 < N) :
    ∃ w', (Builtin.clear_ #[75] ty #[.slice (some ⟨q, 0, none⟩) N c]).run Tryd.prog w = .ok (.tuple #[]) w' ∧ Qs N q (fun _ => false) (fun _ => []) (fun _ => .slice none 0 0) (fun _ => false) w' ∧ Frame (· = q) w w' := by
  have hz : (qL false [] (.slice none 0 0) false).toArray.size = 68 := by rw [List.size_toArray]; exact length_qL (by decide)
  obtain ⟨L, hL⟩ : ∃ L, L = (Builtin.zeroCells (qL false [] (.slice none 0 0) false).toArray N).toList := ⟨_, rfl⟩
  have hlen : L.length = N * 68 := by rw [hL]; simp [Builtin.zeroCells, hz]
  have hat : ∀ j, j < N → ∀ i, i < 68 → L[j * 68 + i]? = (qL false [] (.slice none 0 0) false)[i]? := fun j hj i hi => by
    have hlt : j * 68 + i < N * 68 := by omega
    rw [hL]
    simp only [Builtin.zeroCells, Array.getElem?_toList, Array.getElem?_map, hz]
    rw [Array.getElem?_range]
    rw [if_pos hlt]
    simp only [Option.map_some]
    have hm : (j * 68 + i) % 68 = i := by omega
    rw [hm]
    have hl68 : (qL false [] (.slice none 0 0) false).length = 68 := length_qL (by decide)
    rw [List.getElem?_eq_getElem (by rw [hl68]; exact hi)]
    simp [hl68, hi]
  have hone : ∀ v ∈ L, v.oneCell' = true := fun v hv => by
    obtain ⟨n, hn, rfl⟩ := List.mem_iff_getElem.1 hv
    have h1 := hat (n / 68) (by omega) (n % 68) (by omega)
    rw [show n / 68 * 68 + n % 68 = n by omega, List.getElem?_eq_getElem hn] at h1
    have h2 := List.mem_of_getElem? h1.symm
    rcases List.mem_append.1 h2 with h3 | h3
    · exact one_splL _ _ _ h3
    · simp only [List.mem_cons, List.not_mem_nil, or_false] at h3
      rcases h3 with h3 | h3 <;> rw [h3] <;> rfl
  have hst := run_storeCells_cells (P := Tryd.prog) q 0 L 0 w (fun j hj => by
    rw [show (0 + 0 + j) = j by omega, cell_of_row _ _ _ _ _ _ hh]
    simp
    omega) (fun j _ => by simp [World.frozen?, hh]) hone
  obtain ⟨cs', h1, h2, h3, -⟩ := setCells_at L 0 w q cs 107 (0, 0) hh (by omega)
  refine ⟨w.setCells q 0 L, ?_, ⟨⟨cs', h1, by omega, fun j hj i hi => ?_⟩, fun _ _ => Nat.zero_le _, fun _ _ h => by cases h⟩, Frame.cells q 0 L⟩
  · obtain ⟨m, rfl⟩ : ∃ m, N = m + 1 := ⟨N - 1, by omega⟩
    have hv : (zeroValue 107).run Tryd.prog w = .ok (.agg (qL false [] (.slice none 0 0) false).toArray) w := by
      have := Tryd.zeroValue107 w
      rw [qZero] at this
      exact this
    have hL2 : (Builtin.zeroCells (Value.agg (qL false [] (.slice none 0 0) false).toArray).cells (m + 1)).toList = L := by rw [hL]; rfl
    simp only [Nat.zero_add] at hst
    simp [Builtin.clear_, run_underlying Tryd.underlying75, hv, hL2, hst]
  · have hn : j * 68 + i < L.length := by omega
    have := h3 (j * 68 + i) L[j * 68 + i] (List.getElem?_eq_getElem hn)
    rw [Nat.zero_add] at this
    rw [this, ← hat j hj i hi, List.getElem?_eq_getElem hn]

section
variable {N : Nat} {a : UInt8} {g q : Nat} {nd : Int} {f : Nat → Bool} {b : Nat → List UInt8} {t : PT} {X : Nat → Nat → Prop} {val : Nat → Value} {rowv : Value} {w : World}
/-- The queues are cleared. -/
theorem PRep.cleared (h : PRep N [a] g q nd f b t X val rowv w) {w' : World} (hq : Qs N q (fun _ => false) (fun _ => []) (fun _ => .slice none 0 0) (fun _ => false) w') (hf : Frame (· = q) w w') (hr : t.row = []) (hg : t.given = false) :
    PRep N [a] g q nd (fun _ => false) (fun _ => []) ⟨fun _ => [], fun _ => false, [], false⟩ (setAt (fun _ _ => False) N (X N)) (fun _ => .slice none 0 0) rowv w' := by
  refine ⟨by have := hf.heap h.mach h.gq; rw [hg] at this; exact this, hq, fun j hj => ?_, ?_, h.gq, fun j k hj hk => ?_, fun i j k hi hj hik hjk => ?_⟩
  · rw [setAt_other _ _ (by omega)]
    exact .nil _ (fun _ h => h)
  · rw [setAt_self]
    have := h.row.frame hf (fun k hk e => (h.away N k (Nat.le_refl _) hk).2 e)
    rw [hr] at this
    exact this
  · by_cases he : j = N
    · subst he; rw [setAt_self] at hk; exact h.away j k hj hk
    · rw [setAt_other _ _ he] at hk; exact hk.elim
  · by_cases he : i = N <;> by_cases he' : j = N
    · omega
    · rw [setAt_other _ _ he'] at hjk; exact hjk.elim
    · rw [setAt_other _ _ he] at hik; exact hik.elim
    · rw [setAt_other _ _ he] at hik; exact hik.elim

theorem input_enters : Enters 29 := enters_of Tryd.func29 (by kernel_rfl) (by kernel_rfl)
theorem tellRows_enters : Enters 30 := enters_of Tryd.func30 (by kernel_rfl) (by kernel_rfl)

theorem giveUp_enters : Enters 31 := enters_of Tryd.func31 (by kernel_rfl) (by kernel_rfl)
/-- All is given up. -/
def GivenUp (N : Nat) (a : UInt8) (g q : Nat) (nd : Int) (w w' : World) : Prop :=
  (∃ X' val' rowv', PRep N [a] g q nd (fun _ => false) (fun _ => []) ⟨fun _ => [], fun _ => false, [], false⟩ X' val' rowv' w' ∧ ∀ k, ownP N g q X' k → k = g ∨ k = q) ∧ Frame (fun k => k = g ∨ k = q) w w'
set_option maxRecDepth 100000 in
set_option maxHeartbeats 2000000 in
theorem giveUp_any (h : PRep N [a] g q nd f b t X val rowv w) (h1 : 1 ≤ N) :
    Calls Tryd.prog 31 #[.pointer (some ⟨g, 0, none⟩)] w fun e w' => e = .returned (.tuple #[]) ∧ GivenUp N a g q nd w w' := by
  have HBr := Lib.hid (beginRow_any h)
  clear h
  go_enter Tryd.func31, Tryd.ntmps31
  go_wp2_with fail
  refine HBr.out.mono ?_
  rintro e w2 ⟨rfl, hp2, hf2⟩
  have HP2 := Lib.hid hp2
  have HF2 := Lib.hid hf2
  have c5 := hp2.c5
  obtain ⟨cs, hh, hs, -⟩ := hp2.qs.row
  clear hp2 hf2 HBr
  have HH := Lib.hid hh
  have HSz := Lib.hid hs
  clear hh hs
  obtain ⟨w3, hrun, hq3, hf3⟩ := run_clear_queues w2 0 q N N cs HH.out HSz.out h1
  have HQ3 := Lib.hid hq3
  have HF3 := Lib.hid hf3
  clear hq3 hf3
  go_wp2_with fail
  go_returns
  refine ⟨rfl, ⟨_, _, _, HP2.out.cleared HQ3.out HF3.out rfl rfl, fun k hk => ?_⟩, (HF2.out.mono (fun k _ e => .inl e)).trans (HF3.out.mono (fun k _ e => .inr e))⟩
  rcases hk with e | e | ⟨j, hj, e⟩
  · exact .inl e
  · exact .inr e
  · by_cases he : j = N
    · subst he
      rw [setAt_self, setAt_self] at e
      exact e.elim
    · rw [setAt_other _ _ he] at e
      exact e.elim
set_option maxRecDepth 100000 in
set_option maxHeartbeats 2000000 in
theorem queuesStop_any (h : PRep N [a] g q nd f b t X val rowv w) (h1 : 1 ≤ N) :
    Calls Tryd.prog 44 #[.pointer (some ⟨g, 0, none⟩)] w fun e w' => e = .returned (.tuple #[]) ∧ GivenUp N a g q (-1) w w' := by
  have c0 := h.c0
  have z0 := h.froz 0
  have hp1 := h.setNeed (-1)
  have c4 := hp1.cGive
  have HG := Lib.hid (giveUp_any hp1 h1)
  have hent := giveUp_enters
  unfold Enters at hent
  clear h hp1
  go_enter Tryd.func44, Tryd.ntmps44
  go_wp2_with fail
  refine (stop_any c0 z0).mono ?_
  rintro e w1 ⟨rfl, rfl⟩
  go_wp2_with fail
  refine HG.out.mono ?_
  rintro e w2 ⟨rfl, h2, hf2⟩
  go_wp2_with fail
  go_returns
  exact ⟨rfl, h2, ((Frame.cell w ⟨g, 0, none⟩ _).mono (fun k _ e => .inl e)).trans hf2⟩
end

end Go.Proofs.YteghdepedlaneaaDoor

namespace Go.Proofs.YteghdepedlaneaaDoor
open Go.RowKit

theorem Steps.rows {N : Nat} {A : List UInt8} {t t' : PT} {E : Lines} (h : Steps N A t E t') : E.length + muP N t' ≤ muP N t := by
  induction h with
  | refl => simp
  | step h m ih =>
    have h2 := micro_mu m
    cases m with
    | take l r hr hw => simp only [List.append_nil] at *; omega
    | over hr hw ho => simp only [List.append_nil] at *; omega
    | tell hr hg =>
      have := h2.2 (by simp)
      simp only [List.length_append, List.length_singleton]
      omega
def sliceLen : Value → Nat
  | .slice _ n _ => n
  | _ => 0
section
variable {N : Nat} {g q : Nat} {nd : Int} {f : Nat → Bool} {b : Nat → List UInt8} {t : PT} {X : Nat → Nat → Prop} {val : Nat → Value} {rowv : Value} {w : World}
def TellEnd (N : Nat) (A : List UInt8) (g q : Nat) (b : Nat → List UInt8) (t : PT) (X : Nat → Nat → Prop) (w : World) (e : Ending) (w' : World) : Prop :=
  ∃ v, e = .returned (.tuple #[v, .int .i64 0]) ∧ OwnOuts w.heap.size w' v (rowsO (settle N A t).1) ∧ (∃ X' val' rowv', PRep N A g q (settledP N b (settle N A t).2).need (fun _ => false) (settledP N b (settle N A t).2).b (settledP N b (settle N A t).2).t X' val' rowv' w' ∧ ∀ k, ownP N g q X' k → ownP N g q X k ∨ w.heap.size ≤ k) ∧ Frame (ownP N g q X) w w'
/-- What holds ahead of each row. -/
structure Telling (N : Nat) (A : List UInt8) (g q : Nat) (nd : Int) (f : Nat → Bool) (b : Nat → List UInt8) (t : PT) (X : Nat → Nat → Prop) (w : World) (E : Lines) (rv : Value) (w' : World) : Prop where
  ex : ∃ t' X' val' rowv' R, Steps N A t E t' ∧ PRep N A g q nd f b t' X' val' rowv' w' ∧ (∀ k, ownP N g q X' k → ownP N g q X k ∨ w.heap.size ≤ k) ∧ KeptIn w' rv R E ∧ (∀ k, R k → w.heap.size ≤ k ∧ ¬ ownP N g q X' k)
  fr : Frame (ownP N g q X) w w'
theorem own_kept {N g q : Nat} {X1 X2 : Nat → Nat → Prop} {R : Nat → Prop} {w : World} {rv : Value} {E : Lines} (hk : KeptIn w rv R E) (hR : ∀ k, R k → ¬ ownP N g q X1 k) (hx : ∀ k, ownP N g q X2 k → ownP N g q X1 k ∨ w.heap.size ≤ k) : ∀ k, R k → ¬ ownP N g q X2 k := fun k hr ho => by
  rcases hx k ho with e | e
  · exact hR k hr e
  · have := hk.old k hr; omega

theorem row_short {N : Nat} {t : PT} {B : Nat → Nat} (hc : ∀ j, j < N → costT t j + B j ≤ 96) (hl : t.row.length ≤ N) (hN : N ≤ 4) : cW t.row ≤ 384 := by
  rw [← cR_all hl]
  have : sumN (cR t.row) N ≤ sumN (fun _ => 96) N := sumN_le N fun j hj => by
    have := hc j hj
    unfold costT at this
    omega
  rw [sumN_const] at this
  omega
set_option maxRecDepth 100000 in
set_option maxHeartbeats 8000000 in
theorem tellRows_any {a : UInt8} (h : PRep N [a] g q nd (fun _ => false) b t X val rowv w) (hl : t.row.length ≤ N) (h1 : 1 ≤ N) (hN : N ≤ 4) (hb : ∀ j, j < N → (b j).length ≤ 64) (hc : ∀ j, j < N → costT t j + (b j).length ≤ 96) (hout : (joinL (settle N [a] t).1).length ≤ 1024) :
    Calls Tryd.prog 30 #[.pointer (some ⟨g, 0, none⟩)] w (TellEnd N [a] g q b t X w) := by
  have HCost := Lib.hid hc
  have HB := Lib.hid hb
  have HLen := Lib.hid hl
  have HOut := Lib.hid hout
  have hmu : muP N t ≤ 400 := by
    have hs : sumN (fun j => (t.W j).length) N ≤ sumN (fun _ => 96) N := sumN_le N fun j hj => by
      have h1 := hc j hj
      have h2 := cW_len (t.W j)
      unfold costT at h1
      omega
    rw [sumN_const] at hs
    unfold muP waitN
    split <;> omega
  have HMu := Lib.hid hmu
  have HI : Telling N [a] g q nd (fun _ => false) b t X w [] (.slice none 0 0) w := ⟨⟨t, X, val, rowv, fun _ => False, .refl, h, fun k hk => .inl hk, .nil _ (fun _ h => h), fun _ h => h.elim⟩, Frame.refl _ _⟩
  have HI2 := Lib.hid HI
  have hg0 := Lib.hid h.old
  clear h hc hb hl hout hmu HI
  go_enter Tryd.func30, Tryd.ntmps30
  go_wp2_with fail
  go_loopw [4] (fun rv wr => ∃ E : Lines, Telling N [a] g q nd (fun _ => false) b t X w E rv wr) (fun rv _ => muP N t + 1 - sliceLen rv)
  case atStart => exact ⟨[], HI2.out⟩
  case round =>
    obtain ⟨E, ⟨t1, X1, val1, rowv1, R, hst, hp1, hx1, hk, hR⟩, hf1⟩ := hrel
    obtain ⟨ea, ec, hev⟩ := hk.slice
    subst hev
    have HSt := Lib.hid hst
    have HX1 := Lib.hid hx1
    have HK := Lib.hid hk
    have HR := Lib.hid hR
    have HF1 := Lib.hid hf1
    have hcost1 := hst.cost (fun j => (b j).length) HB.out HCost.out
    have HC := Lib.hid (fillRow_any hp1 (hst.len HLen.out) hN HB.out hcost1)
    rename World => WR
    clear hst hp1 hx1 hk hR hf1 hcost1
    go_wp2_with fail
    refine HC.out.mono ?_
    rintro e w2 ⟨t2, hcase⟩
    rcases hcase with ⟨rfl, hfull, hst2, ⟨X2, val2, rowv2, hp2, hx2⟩, hf2⟩ | ⟨rfl, hless, hstk, hst2, ⟨X2, val2, rowv2, hp2, hx2⟩, hf2⟩
    · have HSt2 := Lib.hid (show Steps N [a] t E t2 by have := HSt.out.trans hst2; rwa [List.append_nil] at this)
      have HX12 := Lib.hid (own_trans HF1.out.size HX1.out hx2)
      have HF12 := Lib.hid (own_then HF1.out HX1.out hf2)
      have HK2 := Lib.hid (HK.out.frame hf2 (fun k hk => (HR.out k hk).2))
      have HR2 := Lib.hid (own_kept HK.out (fun k hk => (HR.out k hk).2) hx2)
      have HP2 := Lib.hid hp2
      have HFull := Lib.hid hfull
      have c7 := hp2.c7
      have c0 := hp2.c0
      have z0 := hp2.froz 0
      clear hst2 hx2 hf2 hp2 hfull
      cases hgv : t2.given with
      | false =>
        rw [hgv] at c7
        have hstk : Stuck (N := N) t2 := .ended HFull.out hgv
        have hset := HSt2.out.settle
        rw [settle_none hstk] at hset
        simp only [List.append_nil] at hset
        have HSet := Lib.hid hset
        clear hgv hstk hset
        go_wp2_with fail
        refine (queuesStop_any HP2.out h1).mono ?_
        rintro e w4 ⟨rfl, ⟨X4, val4, rowv4, hp4, hx4⟩, hf4⟩
        have HP4 := Lib.hid hp4
        have HX4 := Lib.hid hx4
        have HF4 := Lib.hid (own_then HF12.out HX12.out (hf4.mono (fun k _ e => by rcases e with e | e; exact .inl e; exact .inr (.inl e))))
        have HK4 := Lib.hid (HK2.out.frame hf4 (fun k hk e => HR2.out k hk (by rcases e with e | e; exact .inl e; exact .inr (.inl e))))
        clear hp4 hx4 hf4 c7 c0 z0
        go_wp2_with fail
        have HTl := Lib.hid (tellLines_any 0 _ E w4 HK4.out.texts (by have := HSt.out.rows; have := HMu.out; omega) (by have := HOut.out; rw [HSet.out] at this; simp only at this; omega))
        refine HTl.out.mono ?_
        rintro e w5 ⟨v, rfl, ho, hb5⟩
        have HO := Lib.hid ho
        have HB5 := Lib.hid hb5
        clear ho hb5
        go_wp2_with fail
        go_ret2
        refine ⟨v, rfl, ?_, ⟨X4, val4, rowv4, ?_, fun k hk => .inl (by rcases HX4.out k hk with e | e; exact .inl e; exact .inr (.inl e))⟩, HF4.out.trans (Below.toFrame HB5.out _)⟩
        · rw [HSet.out]
          exact HO.out.mono HF4.out.size
        · rw [HSet.out]
          unfold settledP
          rw [if_neg (by have := HFull.out; simp only; omega)]
          exact HP4.out.below HB5.out
      | true =>
        rw [hgv] at c7
        have hcost2 := HSt2.out.cost (fun j => (b j).length) HB.out HCost.out
        have hl2 := HSt2.out.len HLen.out
        have hrow := row_short hcost2 hl2 hN
        have hlen := cW_len t2.row
        have hjl := join_le [a] rfl t2.row
        have hm := Micro.tell (N := N) (A := [a]) (t := t2) HFull.out hgv
        obtain ⟨l, hl⟩ : ∃ l, l = Lib.join t2.row [a] := ⟨_, rfl⟩
        rw [← hl] at hjl hm
        have hal := asLine_any HP2.out (by rw [← hl]; omega) (by omega)
        rw [← hl] at hal
        obtain ⟨S, hS⟩ : ∃ S : ByteArray, strV l = .string S := ⟨_, rfl⟩
        rw [hS] at hal
        have HS := Lib.hid hS
        have HAl := Lib.hid hal
        have HSt3 := Lib.hid (HSt2.out.step hm)
        have HEl := Lib.hid (show E.length ≤ 1000 by have := HSt2.out.rows; have := HMu.out; omega)
        clear hcost2 hl2 hrow hlen hjl hm hl hal hS hgv c0 z0
        go_wp2_with fail
        refine HAl.out.mono ?_
        rintro e w3 ⟨rfl, hb3⟩
        have HP3 := Lib.hid (HP2.out.below hb3)
        have HF3 := Lib.hid (HF12.out.trans (Below.toFrame hb3 _))
        have HK3 := Lib.hid (HK2.out.frame (Below.toFrame hb3 fun _ => False) (fun _ _ e => e))
        clear hb3 c7
        go_wp2_with (at_builtin; refine wpList_append_kept rfl (.tmp 16) (.tmp 19) rfl _ _ _ rfl (HK3.out.frame ((Frame.refl (fun _ => False) w3).alloc (.cells #[.string S] 9 (0, 0))) (fun _ _ e => e)) ⟨w3.heap.size, 0, none⟩ l rfl (by rw [HS.out, cell_of_row _ _ _ _ _ _ (heap_alloc_last w3 _)]; rfl) (by have := HEl.out; omega) ?_; intro v' w4 R4 hk4 hf4 hx4; obtain ⟨va, vc, rfl⟩ := hk4.slice2; have HK4 := Lib.hid hk4; have HX4 := Lib.hid hx4; have HF4 := Lib.hid (((Frame.refl R w3).alloc (.cells #[.string S] 9 (0, 0))).trans hf4); clear hk4 hf4 hx4)
        have HP4 := Lib.hid (HP3.out.frame HF4.out (fun k hk hr => HR2.out k hr hk))
        have hsz3 := HF3.out.size
        have HR4 := Lib.hid (show ∀ k, R4 k → w.heap.size ≤ k ∧ ¬ ownP N g q X2 k from fun k hk => by
          rcases HX4.out k hk with e | e
          · exact ⟨(HR.out k e).1, HR2.out k e⟩
          · simp at e
            exact ⟨by omega, fun ho => by have := HP3.out.old k ho; omega⟩)
        refine (beginRow_any HP4.out).mono ?_
        rintro e w5 ⟨rfl, hp5, hf5⟩
        have HP5 := Lib.hid hp5
        have HF5 := Lib.hid (hf5.mono (q := ownP N g q X2) (fun k _ e => .inl e))
        have HK5 := Lib.hid (HK4.out.frame hf5 (fun k hk e => (HR4.out k hk).2 (.inl e)))
        clear hp5 hf5
        go_wp2_with fail
        go_roundw
        case rel =>
          refine ⟨E ++ [l], ⟨⟨_, _, val2, _, R4, HSt3.out, HP5.out, own_trans (w := w) (w1 := w) (Nat.le_refl _) HX12.out (ownP_set (w := w) (X' := fun _ => False) (Nat.le_refl _) (fun _ (e : False) => e.elim)), HK5.out, fun k hk => ⟨(HR4.out k hk).1, fun ho => (HR4.out k hk).2 ?_⟩⟩, ?_⟩⟩
          · rcases ownP_set (X' := fun _ => False) (w := w4) (Nat.le_refl _) (fun _ (e : False) => e.elim) k ho with e | e
            · exact e
            · have := HK4.out.old k hk; omega
          · exact own_then (HF3.out.then HF4.out (fun k hk e => by have := (HR.out k e).1; omega)) HX12.out HF5.out
        case measure =>
          have := HSt3.out.rows
          simp only [List.length_append, List.length_singleton] at this
          simp only [sliceLen]
          omega
    · have HSt2 := Lib.hid (show Steps N [a] t E t2 by have := HSt.out.trans hst2; rwa [List.append_nil] at this)
      have HX12 := Lib.hid (own_trans HF1.out.size HX1.out hx2)
      have HF12 := Lib.hid (own_then HF1.out HX1.out hf2)
      have HK2 := Lib.hid (HK.out.frame hf2 (fun k hk => (HR.out k hk).2))
      have HP2 := Lib.hid hp2
      have HLess := Lib.hid hless
      have hset := HSt2.out.settle
      rw [settle_none hstk] at hset
      simp only [List.append_nil] at hset
      have HSet := Lib.hid hset
      clear hst2 hx2 hf2 hp2 hless hstk hset
      go_wp2_with fail
      have HTl := Lib.hid (tellLines_any 0 _ E w2 HK2.out.texts (by have := HSt.out.rows; have := HMu.out; omega) (by have := HOut.out; rw [HSet.out] at this; simp only at this; omega))
      refine HTl.out.mono ?_
      rintro e w5 ⟨v, rfl, ho, hb5⟩
      have HO := Lib.hid ho
      have HB5 := Lib.hid hb5
      clear ho hb5
      go_wp2_with fail
      go_ret2
      refine ⟨v, rfl, ?_, ⟨X2, val2, rowv2, ?_, HX12.out⟩, HF12.out.trans (Below.toFrame HB5.out _)⟩
      · rw [HSet.out]
        exact HO.out.mono HF12.out.size
      · rw [HSet.out]
        unfold settledP
        rw [if_pos (by simpa using HLess.out)]
        exact HP2.out.below HB5.out
end

end Go.Proofs.YteghdepedlaneaaDoor

namespace Go.Proofs.YteghdepedlaneaaDoor
open Go.RowKit

section
variable {N : Nat} {a : UInt8} {g q : Nat} {nd : Int} {f : Nat → Bool} {b : Nat → List UInt8} {t : PT} {X : Nat → Nat → Prop} {val : Nat → Value} {rowv : Value} {w : World}
set_option maxRecDepth 100000 in
set_option maxHeartbeats 1000000 in
theorem queuesFeed_no (g : Nat) (n : Int) (port : Int) (ad : Option Addr) (l c : Nat) (w : World) (hn : w.cell? ⟨g, 0, none⟩ = some (.int .i64 n)) (hE : feedE n port l ≠ 0) :
    Calls Tryd.prog 88 #[.pointer (some ⟨g, 0, none⟩), .int .i64 port, .slice ad l c] w (Says w (.tuple #[.slice none 0 0, .int .i64 (feedE n port l)])) := by
  have HN := Lib.hid hn
  obtain ⟨E, hE2⟩ : ∃ E, E = feedE n port l := ⟨_, rfl⟩
  rw [← hE2] at hE ⊢
  have HE := Lib.hid hE2
  have g1 : (E != 0) = true := by simpa using hE
  clear hn hE hE2
  go_enter Tryd.func88, Tryd.ntmps88
  go_wp2_with fail
  refine (mayFeed_any port ad l c HN.out).mono ?_
  rintro e w' ⟨rfl, rfl⟩
  rw [← HE.out]
  go_wp2
  go_ret2
  exact ⟨rfl, rfl⟩

set_option maxRecDepth 100000 in
set_option maxHeartbeats 1000000 in
theorem queuesEnd_no (g : Nat) (n : Int) (port : Int) (w : World) (hn : w.cell? ⟨g, 0, none⟩ = some (.int .i64 n)) (hE : endE n port ≠ 0) :
    Calls Tryd.prog 87 #[.pointer (some ⟨g, 0, none⟩), .int .i64 port] w (Says w (.tuple #[.slice none 0 0, .int .i64 (endE n port)])) := by
  have HN := Lib.hid hn
  obtain ⟨E, hE2⟩ : ∃ E, E = endE n port := ⟨_, rfl⟩
  rw [← hE2] at hE ⊢
  have HE := Lib.hid hE2
  have g1 : (E != 0) = true := by simpa using hE
  clear hn hE hE2
  go_enter Tryd.func87, Tryd.ntmps87
  go_wp2_with fail
  refine (mayEnd_any port HN.out).mono ?_
  rintro e w' ⟨rfl, rfl⟩
  rw [← HE.out]
  go_wp2
  go_ret2
  exact ⟨rfl, rfl⟩

theorem PInv.ready {N : Nat} {s : PS} {i : Nat} (h : PInv N s) (hr : s.t.row.length = i) (hw : s.t.W i = []) (L : Lines) (d : List UInt8) (o : Nat → Bool) (hL : cW L + d.length ≤ 96) (hd : d.length ≤ 64) :
    (∀ j, j < N → (setAt s.b i d j).length ≤ 64) ∧ ∀ j, j < N → costT (extT s.t (oneV i L) o) j + (setAt s.b i d j).length ≤ 96 := by
  refine ⟨fun j hj => ?_, fun j hj => ?_⟩
  · by_cases he : j = i
    · subst he; rw [setAt_self]; exact hd
    · rw [setAt_other _ _ he]; exact h.b j hj
  · show cR s.t.row j + cW (s.t.W j ++ oneV i L j) + _ ≤ 96
    unfold oneV
    by_cases he : j = i
    · subst he
      rw [setAt_self, if_pos rfl, hw, cR_past (by omega)]
      simp only [List.nil_append]
      omega
    · rw [setAt_other _ _ he, if_neg he, List.append_nil]
      exact h.cost j hj
theorem ext_at (t : PT) (i : Nat) (L : Lines) (o : Bool) : extT t (oneV i L) (oneO i o) = ⟨setAt t.W i (t.W i ++ L), setAt t.ov i (t.ov i || o), t.row, t.given⟩ := by
  unfold extT
  simp only [PT.mk.injEq, and_true]
  refine ⟨funext fun j => ?_, funext fun j => ?_⟩
  · unfold oneV
    by_cases h : j = i
    · subst h; rw [setAt_self, if_pos rfl]
    · rw [setAt_other _ _ h, if_neg h, List.append_nil]
  · unfold oneO
    by_cases h : j = i
    · subst h; rw [setAt_self, if_pos rfl]
    · rw [setAt_other _ _ h, if_neg h, Bool.or_false]
theorem oneO_false (i : Nat) : (oneO i false) = fun _ => false := by funext j; unfold oneO; split <;> rfl
/-- What comes of a chunk, or of an end, in memory. -/
def ComesEnd (N : Nat) (A : List UInt8) (g q : Nat) (b : Nat → List UInt8) (t : PT) (X : Nat → Nat → Prop) (w : World) (e : Ending) (w' : World) : Prop :=
  ∃ v, e = .returned (.tuple #[v, .int .i64 0]) ∧ OwnOuts w.heap.size w' v (rowsO (settle N A t).1) ∧ (∃ X' val' rowv', PRep N A g q (settledP N b (settle N A t).2).need (fun _ => false) (settledP N b (settle N A t).2).b (settledP N b (settle N A t).2).t X' val' rowv' w' ∧ ∀ k, ownP N g q X' k → ownP N g q X k ∨ w.heap.size ≤ k) ∧ Frame (ownP N g q X) w w'
/-- A line was too long: all is given up. -/
def DeadEnd (N : Nat) (A : List UInt8) (g q : Nat) (X : Nat → Nat → Prop) (w : World) (e : Ending) (w' : World) : Prop :=
  e = .returned (.tuple #[.slice none 0 0, .int .i64 20]) ∧ (∃ X' val' rowv', PRep N A g q (-1) (fun _ => false) (fun _ => []) ⟨fun _ => [], fun _ => false, [], false⟩ X' val' rowv' w' ∧ ∀ k, ownP N g q X' k → ownP N g q X k ∨ w.heap.size ≤ k) ∧ Frame (ownP N g q X) w w'

set_option maxRecDepth 100000 in
set_option maxHeartbeats 4000000 in
theorem queuesFeed_long {i : Nat} (h : PRep N [a] g q i (fun _ => false) b t X val rowv w) (hi : PInv N ⟨i, b, t⟩) (hiN : i < N) (hr : t.row.length = i) (hw : t.W i = []) (v : Value) (x : List UInt8) (hX : IsBytes (fun k => ¬ ownP N g q X k) w v x) (hx1 : 1 ≤ x.length) (hx : x.length ≤ 32) (L : Lines) (hc : cutL (b i) x = (L, none)) :
    Calls Tryd.prog 88 #[.pointer (some ⟨g, 0, none⟩), .int .i64 i, v] w (DeadEnd N [a] g q X w) := by
  have c2 := h.c2
  obtain ⟨pre, post, hq, hback⟩ := h.queue hiN
  have hL : L.length ≤ 1000 := by
    have := cutL_short x (b i) (by rw [hc]) (by omega)
    rw [hc] at this
    simp only at this
    rw [this]
    simp
  have hput := qput_any v x hq (hX.mono (fun k _ hk e => hk (.inr (.inl e)))) (by omega) (by rw [hw]; simp) (by rw [hc]; exact hL)
  rw [hc] at hput
  simp only [hw, List.nil_append] at hput
  have hent := input_enters
  unfold Enters at hent
  have hent2 := tellRows_enters
  unfold Enters at hent2
  obtain ⟨va, vc, rfl, -, -⟩ := id hX
  have HE := Lib.hid (show feedE i i x.length = 0 by unfold feedE; rw [show endE (i : Int) i = 0 by unfold endE; rw [if_neg (by omega), if_neg (by omega)], if_neg (by simp), if_neg (by omega)])
  have HC0 := Lib.hid h.c0
  have HIn := Lib.hid (input_any h hiN)
  have HI := Lib.hid hi
  have HR := Lib.hid hr
  have HW := Lib.hid hw
  have HPut := Lib.hid hput
  have HBack := Lib.hid hback
  have HOwn := Lib.hid (show ∀ k, (k = q ∨ X i k) → ownP N g q X k from fun k e => by
    rcases e with e | e
    · exact .inr (.inl e)
    · exact .inr (.inr ⟨i, by omega, e⟩))
  clear h hq hback hput hX hi hr hw hx1 hL hc
  go_enter Tryd.func88, Tryd.ntmps88
  go_wp2_with fail
  refine (mayFeed_any (i : Int) va x.length vc HC0.out).mono ?_
  rintro e w' ⟨rfl, rfl⟩
  rw [HE.out]
  go_wp2_with fail
  refine HIn.out.mono ?_
  rintro e w' ⟨rfl, rfl⟩
  go_wp2_with fail
  refine HPut.out.mono ?_
  rintro e w2 ⟨X', wv', rfl, hq2, hx2, hf2⟩
  have hp2 := HBack.out w2 _ _ X' _ _ wv' hq2 hx2 hf2
  have HX2 := Lib.hid (ownP_set (g := g) (q := q) (N := N) (X := X) (i := i) (by omega) hx2)
  have HF2 := Lib.hid (hf2.mono (fun k _ e => HOwn.out k e))
  have c0 := hp2.c0
  have z0 := hp2.froz 0
  have HP2 := Lib.hid hp2
  clear hq2 hx2 hf2 hp2 c2
  go_wp2_with fail
  refine (queuesStop_any HP2.out (by omega)).mono ?_
  rintro e w3 ⟨rfl, ⟨X3, val3, rowv3, hp3, hx3⟩, hf3⟩
  have HP3 := Lib.hid hp3
  have HX3 := Lib.hid hx3
  have HF3 := Lib.hid hf3
  clear hp3 hx3 hf3 c0 z0
  go_wp2_with fail
  go_ret2
  exact ⟨rfl, ⟨_, _, _, HP3.out, fun k hk => .inl (by rcases HX3.out k hk with e | e; exact .inl e; exact .inr (.inl e))⟩, HF2.out.trans (HF3.out.mono (fun k _ e => by rcases e with e | e; exact .inl e; exact .inr (.inl e)))⟩

set_option maxRecDepth 100000 in
set_option maxHeartbeats 4000000 in
theorem queuesFeed_yes {i : Nat} (h : PRep N [a] g q i (fun _ => false) b t X val rowv w) (hi : PInv N ⟨i, b, t⟩) (h1 : 1 ≤ N) (hN : N ≤ 4) (hiN : i < N) (hr : t.row.length = i) (hw : t.W i = []) (v : Value) (x : List UInt8) (hX : IsBytes (fun k => ¬ ownP N g q X k) w v x) (hx1 : 1 ≤ x.length) (hx : x.length ≤ 32) (L : Lines) (d : List UInt8) (hc : cutL (b i) x = (L, some d)) :
    Calls Tryd.prog 88 #[.pointer (some ⟨g, 0, none⟩), .int .i64 i, v] w (ComesEnd N [a] g q (setAt b i d) (extT t (oneV i L) (fun _ => false)) X w) := by
  have c2 := h.c2
  obtain ⟨pre, post, hq, hback⟩ := h.queue hiN
  have hL : L.length ≤ 1000 := by
    have h2 := cutL_count x (b i) L d hc
    have h3 := cW_len L
    have h4 := hi.b i hiN
    simp only at h4
    omega
  have hput := qput_any v x hq (hX.mono (fun k _ hk e => hk (.inr (.inl e)))) (by omega) (by rw [hw]; simp) (by rw [hc]; exact hL)
  rw [hc] at hput
  simp only [hw, List.nil_append] at hput
  have hent := input_enters
  unfold Enters at hent
  have hent2 := tellRows_enters
  unfold Enters at hent2
  obtain ⟨va, vc, rfl, -, -⟩ := id hX
  have HE := Lib.hid (show feedE i i x.length = 0 by unfold feedE; rw [show endE (i : Int) i = 0 by unfold endE; rw [if_neg (by omega), if_neg (by omega)], if_neg (by simp), if_neg (by omega)])
  have HC0 := Lib.hid h.c0
  have HIn := Lib.hid (input_any h hiN)
  have HI := Lib.hid hi
  have HR := Lib.hid hr
  have HW := Lib.hid hw
  have HPut := Lib.hid hput
  have HBack := Lib.hid hback
  have HOwn := Lib.hid (show ∀ k, (k = q ∨ X i k) → ownP N g q X k from fun k e => by
    rcases e with e | e
    · exact .inr (.inl e)
    · exact .inr (.inr ⟨i, by omega, e⟩))
  clear h hq hback hput hX hi hr hw hx1 hL
  go_enter Tryd.func88, Tryd.ntmps88
  go_wp2_with fail
  refine (mayFeed_any (i : Int) va x.length vc HC0.out).mono ?_
  rintro e w' ⟨rfl, rfl⟩
  rw [HE.out]
  go_wp2_with fail
  refine HIn.out.mono ?_
  rintro e w' ⟨rfl, rfl⟩
  go_wp2_with fail
  refine HPut.out.mono ?_
  rintro e w2 ⟨X', wv', rfl, hq2, hx2, hf2⟩
  have hp2 := HBack.out w2 _ _ X' _ _ wv' hq2 hx2 hf2
  have HX2 := Lib.hid (ownP_set (g := g) (q := q) (N := N) (X := X) (i := i) (by omega) hx2)
  have HF2 := Lib.hid (hf2.mono (fun k _ e => HOwn.out k e))
  have hLd : cW L + d.length ≤ 96 := by
    have h2 := cutL_count x (b i) L d hc
    have h4 := HI.out.b i hiN
    simp only at h4
    omega
  have hd64 := cutL_le x (b i) (HI.out.b i hiN) d (by rw [hc])
  obtain ⟨hrb, hrc⟩ := HI.out.ready HR.out HW.out L d (fun _ => false) hLd hd64
  have hout := (HI.out.comes (A := [a]) rfl h1 hN hiN HR.out HW.out L d (fun _ => false) hLd hd64).2
  have hT : (⟨setAt t.W i L, setAt t.ov i (t.ov i), t.row, t.given⟩ : PT) = extT t (oneV i L) (fun _ => false) := by
    rw [← oneO_false i, ext_at, HW.out, List.nil_append, Bool.or_false]
  have hF : setAt (fun _ => false) i (some d).isNone = fun _ => false := setAt_eta (fun _ => false) i
  rw [hT, hF] at hp2
  have c3 := hp2.c3
  have htl := tellRows_any hp2 (by show t.row.length ≤ N; rw [HR.out]; omega) h1 hN hrb hrc hout
  have HTl := Lib.hid htl
  clear hq2 hx2 hf2 hp2 c2 hc hLd hd64 hrb hrc hout hT hF htl hent
  go_wp2_with fail
  refine HTl.out.mono ?_
  rintro e w3 ⟨v, rfl, ho, ⟨X3, val3, rowv3, hp3, hx3⟩, hf3⟩
  have HO := Lib.hid ho
  have HP3 := Lib.hid hp3
  have HX3 := Lib.hid hx3
  have HF3 := Lib.hid hf3
  clear ho hp3 hx3 hf3 c3
  go_wp2_with fail
  go_ret2
  exact ⟨v, rfl, HO.out.mono HF2.out.size, ⟨X3, val3, rowv3, HP3.out, own_trans HF2.out.size HX2.out HX3.out⟩, own_then HF2.out HX2.out HF3.out⟩

set_option maxRecDepth 100000 in
set_option maxHeartbeats 4000000 in
theorem queuesEnd_yes {i : Nat} (h : PRep N [a] g q i (fun _ => false) b t X val rowv w) (hi : PInv N ⟨i, b, t⟩) (h1 : 1 ≤ N) (hN : N ≤ 4) (hiN : i < N) (hr : t.row.length = i) (hw : t.W i = []) :
    Calls Tryd.prog 87 #[.pointer (some ⟨g, 0, none⟩), .int .i64 i] w (ComesEnd N [a] g q (setAt b i []) (extT t (oneV i (if b i = [] then [] else [b i])) (oneO i true)) X w) := by
  have c2 := h.c2
  obtain ⟨pre, post, hq, hback⟩ := h.queue hiN
  have hput := qclose_any hq (by rw [hw]; simp)
  simp only [hw, List.nil_append] at hput
  have hent := input_enters
  unfold Enters at hent
  have hent2 := tellRows_enters
  unfold Enters at hent2
  have HE := Lib.hid (show endE (i : Int) i = 0 by unfold endE; rw [if_neg (by omega), if_neg (by omega)])
  have HC0 := Lib.hid h.c0
  have HIn := Lib.hid (input_any h hiN)
  have HI := Lib.hid hi
  have HR := Lib.hid hr
  have HW := Lib.hid hw
  obtain ⟨L, hL⟩ : ∃ L : Lines, L = if b i = [] then [] else [b i] := ⟨_, rfl⟩
  rw [← hL] at hput ⊢
  have hLd : cW L + ([] : List UInt8).length ≤ 96 := by
    have h4 := hi.b i hiN
    simp only at h4
    rw [hL]
    split <;> simp [cW]
    omega
  have HLd := Lib.hid hLd
  have HPut := Lib.hid hput
  have HBack := Lib.hid hback
  have HOwn := Lib.hid (show ∀ k, (k = q ∨ X i k) → ownP N g q X k from fun k e => by
    rcases e with e | e
    · exact .inr (.inl e)
    · exact .inr (.inr ⟨i, by omega, e⟩))
  clear h hq hback hput hi hr hw hL hLd
  go_enter Tryd.func87, Tryd.ntmps87
  go_wp2_with fail
  refine (mayEnd_any (i : Int) HC0.out).mono ?_
  rintro e w' ⟨rfl, rfl⟩
  rw [HE.out]
  go_wp2_with fail
  refine HIn.out.mono ?_
  rintro e w' ⟨rfl, rfl⟩
  go_wp2_with fail
  refine HPut.out.mono ?_
  rintro e w2 ⟨X', wv', rfl, hq2, hx2, hf2⟩
  have hp2 := HBack.out w2 _ _ X' _ _ wv' hq2 hx2 hf2
  have HX2 := Lib.hid (ownP_set (g := g) (q := q) (N := N) (X := X) (i := i) (by omega) hx2)
  have HF2 := Lib.hid (hf2.mono (fun k _ e => HOwn.out k e))
  obtain ⟨hrb, hrc⟩ := HI.out.ready HR.out HW.out L [] (oneO i true) HLd.out (by simp)
  have hout := (HI.out.comes (A := [a]) rfl h1 hN hiN HR.out HW.out L [] (oneO i true) HLd.out (by simp)).2
  have hT : (⟨setAt t.W i L, setAt t.ov i true, t.row, t.given⟩ : PT) = extT t (oneV i L) (oneO i true) := by
    rw [ext_at, HW.out, List.nil_append, Bool.or_true]
  have hF : setAt (fun _ => false) i false = fun _ => false := setAt_eta (fun _ => false) i
  rw [hT, hF] at hp2
  have c3 := hp2.c3
  have htl := tellRows_any hp2 (by show t.row.length ≤ N; rw [HR.out]; omega) h1 hN hrb hrc hout
  have HTl := Lib.hid htl
  clear hq2 hx2 hf2 hp2 c2 hrb hrc hout hT hF htl hent
  go_wp2_with fail
  refine HTl.out.mono ?_
  rintro e w3 ⟨v, rfl, ho, ⟨X3, val3, rowv3, hp3, hx3⟩, hf3⟩
  have HO := Lib.hid ho
  have HP3 := Lib.hid hp3
  have HX3 := Lib.hid hx3
  have HF3 := Lib.hid hf3
  clear ho hp3 hx3 hf3 c3
  go_wp2_with fail
  go_ret2
  exact ⟨v, rfl, HO.out.mono HF2.out.size, ⟨X3, val3, rowv3, HP3.out, own_trans HF2.out.size HX2.out HX3.out⟩, own_then HF2.out HX2.out HF3.out⟩

/-! The machine's own Feed. -/
end

end Go.Proofs.YteghdepedlaneaaDoor

namespace Go.Proofs.YteghdepedlaneaaDoor
open Go.RowKit

theorem sumN_mono (f : Nat → Nat) {k n : Nat} (h : k ≤ n) : sumN f k ≤ sumN f n := by
  induction n with
  | zero => rw [Nat.le_zero.1 h]; exact Nat.le_refl _
  | succ n ih =>
    by_cases he : k = n + 1
    · rw [he]; exact Nat.le_refl _
    · have := ih (by omega)
      rw [sumN]
      omega
section
variable {N : Nat} {a : UInt8} {g q : Nat} {nd : Int} {b : Nat → List UInt8} {t : PT} {X : Nat → Nat → Prop} {val : Nat → Value} {rowv : Value} {w : World}
theorem PRep.queueHeld (h : PRep N [a] g q nd (fun _ => false) b t X val rowv w) {j : Nat} (hj : j < N) (hL : (t.W j).length ≤ 1000) (hs : keptSum (t.W j) ≤ 100000) :
    Calls Tryd.prog 96 #[.pointer (some ⟨q, j * 68, none⟩)] w (Says w (.int .i64 (((b j).length + keptSum (t.W j) : Nat) : Int))) := by
  obtain ⟨pre, post, hq, -⟩ := h.queue hj
  exact qheld_any hq hL hs

set_option maxRecDepth 100000 in
set_option maxHeartbeats 4000000 in
theorem pasteHeld_any (s : PS) (h : PRep N [a] g q s.need (fun _ => false) s.b s.t X val rowv w) (hi : PInv N s) (hN : N ≤ 4) :
    Calls Tryd.prog 89 #[.pointer (some ⟨g, 0, none⟩)] w (SaysN w (.int .i64 (heldP N [a] s))) := by
  have hrow := row_short (B := fun j => (s.b j).length) hi.cost hi.len hN
  have hjl := join_le [a] rfl s.t.row
  have hlen := cW_len s.t.row
  have hq : ∀ j, j < N → ((s.t.W j).length ≤ 1000 ∧ keptSum (s.t.W j) ≤ 100000) ∧ (s.b j).length + keptSum (s.t.W j) ≤ 96 := fun j hj => by
    have h1 := hi.cost j hj
    have h2 := cW_len (s.t.W j)
    have h3 := cW_sum (s.t.W j)
    have h4 : keptSum (s.t.W j) = ((s.t.W j).map List.length).sum := rfl
    unfold costT at h1
    omega
  obtain ⟨F, hF⟩ : ∃ F : Nat → Nat, F = fun j => (s.b j).length + keptSum (s.t.W j) := ⟨_, rfl⟩
  obtain ⟨J, hJ⟩ : ∃ J, J = (Lib.join s.t.row [a]).length := ⟨_, rfl⟩
  have hheld : heldP N [a] s = J + sumN F N := by rw [hF, hJ, heldP, Nat.add_comm]; rfl
  have hsum : ∀ k, k ≤ N → sumN F k ≤ 96 * k := fun k hk => by
    rw [← sumN_const]
    exact sumN_le k fun j hj => by rw [hF]; exact (hq j (by omega)).2
  rw [hheld]
  have HSum := Lib.hid hsum
  have HAs := Lib.hid (asLine_any h (by omega) (by omega))
  have HQ := Lib.hid (show ∀ W j, Below w.heap.size w W → j < N → Calls Tryd.prog 96 #[.pointer (some ⟨q, j * 68, none⟩)] W (Says W (.int .i64 (F j : Nat))) from fun W j hb hj => by
    rw [hF]
    exact (h.below hb).queueHeld hj (hq j hj).1.1 (hq j hj).1.2)
  have HC5 := Lib.hid (show ∀ W, Below w.heap.size w W → W.cell? ⟨g, 6, none⟩ = some (.slice (some ⟨q, 0, none⟩) N N) from fun W hb => (h.below hb).c5)
  obtain ⟨S, hS⟩ : ∃ S : ByteArray, strV (Lib.join s.t.row [a]) = .string S := ⟨_, rfl⟩
  have hz : S.size = J := by rw [hJ]; exact (strCells_eq hS).2
  rw [hS] at HAs
  have hJ400 : J ≤ 400 := by omega
  have HZ := Lib.hid hz
  clear h hi hrow hjl hlen hq hF hJ hheld hsum hS hz
  go_enter Tryd.func89, Tryd.ntmps89
  go_wp2_with fail
  refine HAs.out.mono ?_
  rintro e w1 ⟨rfl, hb1⟩
  have c5 := HC5.out w1 hb1
  have HB1 := Lib.hid hb1
  clear hb1
  go_wp2_with fail
  rw [HZ.out]
  go_loopw [3, 13] (fun hv iv wr => ∃ k : Nat, hv = .int .i64 ((J + sumN F k : Nat) : Int) ∧ iv = .int .i64 k ∧ k ≤ N ∧ wr = w1) (fun _ iv _ => N - (intOf iv).toNat)
  case atStart => exact ⟨0, by simp [sumN], rfl, Nat.zero_le _, rfl⟩
  case round =>
    obtain ⟨k, rfl, rfl, hk, rfl⟩ := hrel
    have hs1 := HSum.out k hk
    obtain ⟨sm, hsm⟩ : ∃ sm, sm = sumN F k := ⟨_, rfl⟩
    rw [← hsm] at hs1 ⊢
    have HSm := Lib.hid hsm
    by_cases hlt : k < N
    · have hs2 := HSum.out (k + 1) hlt
      rw [sumN, ← hsm] at hs2
      obtain ⟨fk, hfk⟩ : ∃ fk, fk = F k := ⟨_, rfl⟩
      rw [← hfk] at hs2
      have HFk := Lib.hid hfk
      have HCall := HQ.out wr k HB1.out hlt
      rw [← hfk] at HCall
      have HCl := Lib.hid HCall
      have q0 : (0 : Int) ≤ (k : Int) := by omega
      have q1 : (k : Int) < (N : Int) := by omega
      clear hsm hfk HCall
      go_wp2_with fail
      refine HCl.out.mono ?_
      rintro e w' ⟨rfl, rfl⟩
      go_wp2_with fail
      go_roundw
      case rel =>
        refine ⟨k + 1, ?_, by go_num, by omega, trivial⟩
        rw [sumN, ← HSm.out, ← HFk.out]
        go_num
      case measure => simp [intOf]; omega
    · obtain rfl : k = N := by omega
      have q1 : ¬ (k : Int) < (k : Int) := by omega
      clear hsm
      go_wp2_with fail
      go_ret
      rw [HSm.out]
      exact ⟨rfl, HB1.out⟩
end

/-! The machine. -/
def pasteRep (N : Nat) (A : List UInt8) (g : Nat) (s : PS) (own : Nat → Prop) (w : World) : Prop :=
  ∃ q X val rowv, PRep N A g q s.need (fun _ => false) s.b s.t X val rowv w ∧ PInv N s ∧ own = ownP N g q X
theorem paste_goes (g : Nat) (w : World) :
    (method 257 74 (.pointer (some ⟨g, 0, none⟩)) "Need").run Tryd.prog w = .ok (91, .pointer (some ⟨g, 0, none⟩)) w ∧
    (method 257 74 (.pointer (some ⟨g, 0, none⟩)) "Held").run Tryd.prog w = .ok (89, .pointer (some ⟨g, 0, none⟩)) w ∧
    (method 257 74 (.pointer (some ⟨g, 0, none⟩)) "Feed").run Tryd.prog w = .ok (88, .pointer (some ⟨g, 0, none⟩)) w ∧
    (method 257 74 (.pointer (some ⟨g, 0, none⟩)) "End").run Tryd.prog w = .ok (87, .pointer (some ⟨g, 0, none⟩)) w ∧
    (method 257 74 (.pointer (some ⟨g, 0, none⟩)) "More").run Tryd.prog w = .ok (90, .pointer (some ⟨g, 0, none⟩)) w :=
  ⟨by kernel_rfl, by kernel_rfl, by kernel_rfl, by kernel_rfl, by kernel_rfl⟩
theorem PInv.need_ge {N : Nat} {s : PS} (h : PInv N s) : s.need = -1 ∨ (0 ≤ s.need ∧ s.need < N) := by
  rcases h.waits with e | ⟨i, h1, h2, -⟩
  · exact .inl e
  · exact .inr (by omega)
theorem rowsO_ok {L : Lines} (h : outSum (rowsO L) ≤ 1024) : OutsOk (rowsO L) ∧ (rowsO L).length ≤ 1000000 := by
  unfold rowsO at h ⊢
  by_cases hL : L = []
  · rw [if_pos hL]; exact ⟨⟨(fun t ht => by cases ht), (fun t ht => by cases ht), by decide⟩, by simp⟩
  · rw [if_neg hL] at h ⊢
    refine ⟨⟨fun t ht => ?_, fun t ht => ?_, h⟩, by simp⟩
    · rw [List.mem_singleton.1 ht]; exact Nat.zero_le _
    · rw [List.mem_singleton.1 ht]
      cases L with
      | nil => exact absurd rfl hL
      | cons l r => simp [joinL]
theorem ComesEnd.answers {N : Nat} {A : List UInt8} {g q : Nat} {b : Nat → List UInt8} {t : PT} {X : Nat → Nat → Prop} {w : World} {e : Ending} {w' : World} (h : ComesEnd N A g q b t X w e w') (hi : PInv N (comesP N A b t).1) (ho : outSum (comesP N A b t).2.1 ≤ 1024) :
    Answers (ownP N g q X) (pasteRep N A g) (comesP N A b t) w e w' := by
  obtain ⟨v, rfl, hout, ⟨X', val', rowv', hp, hx⟩, hf⟩ := h
  obtain ⟨o1, o2⟩ := rowsO_ok ho
  refine ⟨v, rfl, hout.is, ⟨_, ⟨q, X', val', rowv', ?_, hi, rfl⟩, hx⟩, hf, o1, o2⟩
  show PRep N A g q (settledP N b (settle N A t).2).need _ (settledP N b (settle N A t).2).b _ _ _ _ _
  exact hp

theorem paste_driven (N : Nat) (a : UInt8) (h1 : 1 ≤ N) (hN : N ≤ 4) (g : Nat) : Driven (pasteMach N [a]) 0 (pasteRep N [a] g) 74 (.pointer (some ⟨g, 0, none⟩)) 91 89 88 87 90
    (.pointer (some ⟨g, 0, none⟩)) (.pointer (some ⟨g, 0, none⟩)) (.pointer (some ⟨g, 0, none⟩)) (.pointer (some ⟨g, 0, none⟩)) (.pointer (some ⟨g, 0, none⟩)) where
  goN w := (paste_goes g w).1
  goH w := (paste_goes g w).2.1
  goF w := (paste_goes g w).2.2.1
  goE w := (paste_goes g w).2.2.2.1
  goM w := (paste_goes g w).2.2.2.2
  inN := enters_of Tryd.func91 (by kernel_rfl) (by kernel_rfl)
  inH := enters_of Tryd.func89 (by kernel_rfl) (by kernel_rfl)
  inF := enters_of Tryd.func88 (by kernel_rfl) (by kernel_rfl)
  inE := enters_of Tryd.func87 (by kernel_rfl) (by kernel_rfl)
  inM := enters_of Tryd.func90 (by kernel_rfl) (by kernel_rfl)
  keep s own w w' p h hf hp := by
    obtain ⟨q, X, val, rowv, h, hi, rfl⟩ := h
    exact ⟨q, X, val, rowv, h.frame hf (fun k hk => hp k (.inl hk)), hi, rfl⟩
  old s own w h := by
    obtain ⟨q, X, val, rowv, h, hi, rfl⟩ := h
    exact h.old
  need s own w h := by
    obtain ⟨q, X, val, rowv, h, hi, rfl⟩ := h
    exact need_any h.c0
  held s own w h := by
    obtain ⟨q, X, val, rowv, h, hi, rfl⟩ := h
    exact pasteHeld_any s h hi hN
  feed s own w v x h hn hB hx1 hx := by
    obtain ⟨q, X, val, rowv, h, hi, rfl⟩ := h
    have hn' : 0 ≤ s.need := hn
    obtain ⟨i, hiN, hne, hr, hw, -⟩ := hi.due (by omega)
    obtain ⟨nd, b, t⟩ := s
    simp only at hne hr hw
    subst hne
    have hsafe := hi.feed (A := [a]) rfl h1 hN (by show (i : Int) ≠ -1; omega) x hx
    show Calls Tryd.prog _ #[_, .int .i64 (i : Int), v] w _
    have hfeed : (pasteMach N [a]).feed ⟨i, b, t⟩ x = match cutL (b i) x with
      | (_, none) => (deadP, [], 20)
      | (L, some d) => comesP N [a] (setAt b i d) (extT t (oneV i L) (fun _ => false)) := rfl
    rw [hfeed] at hsafe ⊢
    rcases hc : cutL (b i) x with ⟨L, _ | d⟩
    · refine (queuesFeed_long h hi hiN hr hw v x hB hx1 hx L hc).mono ?_
      rintro e w' ⟨rfl, ⟨X', val', rowv', hp, hx'⟩, hf⟩
      exact ⟨_, rfl, (OwnOuts.nil w.heap.size w').is, ⟨_, ⟨q, X', val', rowv', hp, PInv.dead, rfl⟩, hx'⟩, hf, ⟨(fun t ht => by cases ht), (fun t ht => by cases ht), Nat.zero_le _⟩, by simp⟩
    · rw [hc] at hsafe
      exact (queuesFeed_yes h hi h1 hN hiN hr hw v x hB hx1 hx L d hc).mono fun e w' hh => hh.answers hsafe.1 hsafe.2
  fin s own w h hn := by
    obtain ⟨q, X, val, rowv, h, hi, rfl⟩ := h
    have hn' : 0 ≤ s.need := hn
    obtain ⟨i, hiN, hne, hr, hw, -⟩ := hi.due (by omega)
    obtain ⟨nd, b, t⟩ := s
    simp only at hne hr hw
    subst hne
    have hsafe := hi.fin (A := [a]) rfl h1 hN (by show (i : Int) ≠ -1; omega)
    show Calls Tryd.prog _ #[_, .int .i64 (i : Int)] w _
    have hfin : (pasteMach N [a]).fin ⟨i, b, t⟩ = comesP N [a] (setAt b i []) (extT t (oneV i (if b i = [] then [] else [b i])) (oneO i true)) := rfl
    rw [hfin] at hsafe ⊢
    exact (queuesEnd_yes h hi h1 hN hiN hr hw).mono fun e w' hh => hh.answers hsafe.1 hsafe.2
  more s own w h hn := by
    obtain ⟨q, X, val, rowv, h, hi, rfl⟩ := h
    have hn' : s.need = -2 := hn
    have := hi.need_ge
    omega
  heldB s own w h := by
    obtain ⟨q, X, val, rowv, h, hi, rfl⟩ := h
    have := hi.held (A := [a]) rfl
    show 0 ≤ ((heldP N [a] s : Nat) : Int) ∧ ((heldP N [a] s : Nat) : Int) ≤ 1000000
    omega
theorem paste_refusing (N : Nat) (a : UInt8) (g : Nat) : Refusing (pasteMach N [a]) (pasteRep N [a] g) 88 87 90 (.pointer (some ⟨g, 0, none⟩)) (.pointer (some ⟨g, 0, none⟩)) (.pointer (some ⟨g, 0, none⟩)) where
  feed s own w port ad l c h hr := by
    obtain ⟨q, X, val, rowv, h, hi, rfl⟩ := h
    have he : feedE s.need port l = errN s.need := feedE_err hr
    have := queuesFeed_no g _ port ad l c w h.c0 (by rw [he]; exact (errN_ne _).1)
    rw [he] at this
    exact this
  fin s own w port h hr := by
    obtain ⟨q, X, val, rowv, h, hi, rfl⟩ := h
    have he : endE s.need port = errN s.need := endE_err hr
    have := queuesEnd_no g _ port w h.c0 (by rw [he]; exact (errN_ne _).1)
    rw [he] at this
    exact this
  more s own w h hr := by
    obtain ⟨q, X, val, rowv, h, hi, rfl⟩ := h
    exact more_any h.c0 hr

end Go.Proofs.YteghdepedlaneaaDoor
