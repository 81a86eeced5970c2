/- What uniq comes to is what the document says. -/
import Derived.Test.YtmmhpjhmobhdiaaDoorUniqDoc
import Derived.Test.YtmmhpjhmobhdiaaDoorUniqFace
namespace Go.Proofs.YtmmhpjhmobhdiaaDoor
open Go.RowKit

/-- What is told, one behind the other. -/
def flatO (O : Outs) : List UInt8 := O.flatMap (·.2)
theorem flatO_append (O P : Outs) : flatO (O ++ P) = flatO O ++ flatO P := by simp [flatO]
theorem putOuts_flat : ∀ (O : Outs) (f : Nat → List UInt8), (∀ t ∈ O, t.1 = 0) → putOuts f O 0 = f 0 ++ flatO O ∧ ∀ j, j ≠ 0 → putOuts f O j = f j
  | [], f, _ => by simp [putOuts, flatO]
  | (q, x) :: O, f, h => by
    obtain rfl : q = 0 := h (q, x) (by simp)
    obtain ⟨h1, h2⟩ := putOuts_flat O (fun i => if i = 0 then f i ++ x else f i) (fun t ht => h t (List.mem_cons_of_mem _ ht))
    refine ⟨?_, fun j hj => ?_⟩
    · show putOuts _ O 0 = _
      rw [h1]
      simp [flatO]
    · have := h2 j hj
      rw [if_neg hj] at this
      exact this
theorem cntO_port (u : US) : ∀ t ∈ cntO u, t.1 = 0 := by
  intro t ht
  unfold cntO at ht
  split at ht
  · cases ht
  · rw [List.mem_singleton.1 ht]
theorem runT_port (c : Bool) : ∀ (L : Lines) (u : US), ∀ t ∈ (runT (uniqT c) u L).2, t.1 = 0
  | [], u, t, ht => by cases ht
  | l :: r, u, t, ht => by
    rw [runT] at ht
    rcases List.mem_append.1 ht with ht | ht
    · simp only [uniqT] at ht
      split at ht
      · cases ht
      · split at ht
        · exact cntO_port u t ht
        · rw [List.mem_singleton.1 ht]
    · exact runT_port c r _ t ht
theorem end_port (c : Bool) (u : US) : ∀ t ∈ (uniqEnd c u).2, t.1 = 0 := by
  intro t ht
  simp only [uniqEnd] at ht
  split at ht
  · exact cntO_port u t ht
  · cases ht
theorem cntO_flat {n : Nat} (x : List UInt8) (h : 1 ≤ n) : flatO (cntO ((n : Int), x)) = Lib.decDigits n ++ 32 :: x ++ [10] := by
  unfold cntO
  rw [if_neg (by simp; omega), Lib.itoa_nonneg]
  simp [flatO]
theorem uniq_cont (c all : Bool) : ∀ (L : Lines) (n : Nat) (x : List UInt8), 1 ≤ n → n + L.length ≤ 1000000 →
    flatO (runT (uniqT c) ((n : Int), x) L).2 ++ (if all = true then flatO (uniqEnd c (runT (uniqT c) ((n : Int), x) L).1).2 else []) = (if c = true then groupS true (decide (runLen x L < L.length) || all) x (n + runLen x L) else []) ++ docS c all (L.drop (runLen x L))
  | [], n, x, h, _ => by
    rw [runT, runLen]
    simp only [List.length_nil, Nat.lt_irrefl, decide_false, Bool.false_or, Nat.add_zero, List.drop_nil, docS, List.append_nil, uniqEnd]
    cases c <;> cases all <;> simp [flatO, groupS]
    have := cntO_flat x h
    simp only [flatO] at this
    rw [this]
    simp
  | l :: r, n, x, h, hl => by
    simp only [List.length_cons] at hl
    have hn : ((n : Int) ≠ 0) := by omega
    rw [runT]
    by_cases hlx : l = x
    · subst hlx
      have ha : alike ((n : Int), l) l = true := by simp [alike]; omega
      have hw : wrap64 ((n : Int) + 1) = ((n + 1 : Nat) : Int) := by rw [i64_id (by omega) (by omega)]; omega
      have ih := uniq_cont c all r (n + 1) l (by omega) (by omega)
      have ht : uniqT c ((n : Int), l) l = ((((n + 1 : Nat) : Int), l), [], false) := by simp only [uniqT, ha, if_true, hw]
      rw [ht]
      simp only [List.nil_append]
      rw [ih, runLen, if_pos rfl, List.drop_succ_cons, show n + 1 + runLen l r = n + (runLen l r + 1) by omega]
      simp
    · have ha : alike ((n : Int), x) l = false := by simp [alike, hlx]
      have ih := uniq_cont c all r 1 l (Nat.le_refl _) (by omega)
      have hrl : runLen x (l :: r) = 0 := by rw [runLen, if_neg hlx]
      rw [hrl]
      simp only [List.drop_zero, List.length_cons, Nat.zero_lt_succ, decide_true, Bool.true_or, Nat.add_zero]
      rw [docS]
      rw [show ((1 : Nat) : Int) = 1 from rfl] at ih
      have ht : uniqT c ((n : Int), x) l = ((1, l), if c = true then cntO ((n : Int), x) else [(0, l ++ [10])], false) := by simp [uniqT, ha]
      rw [ht]
      simp only [flatO_append, List.append_assoc]
      rw [ih]
      cases c
      · simp [flatO, groupS]
      · simp only [if_true]
        rw [cntO_flat x h, show 1 + runLen l r = runLen l r + 1 by omega]
        simp [groupS]
theorem uniq_doc (c all : Bool) (L : Lines) (hl : L.length ≤ 100000) :
    flatO (runT (uniqT c) (0, []) L).2 ++ (if all = true then flatO (uniqEnd c (runT (uniqT c) (0, []) L).1).2 else []) = docS c all L := by
  cases L with
  | nil => cases c <;> cases all <;> simp [runT, uniqEnd, cntO, flatO, docS]
  | cons x r =>
    simp only [List.length_cons] at hl
    have ih := uniq_cont c all r 1 x (Nat.le_refl _) (by omega)
    rw [show ((1 : Nat) : Int) = 1 from rfl] at ih
    have ht : uniqT c (0, []) x = ((1, x), if c = true then [] else [(0, x ++ [10])], false) := by simp [uniqT, alike, cntO]
    rw [runT, ht, docS]
    simp only [flatO_append, List.append_assoc]
    rw [ih]
    cases c
    · simp [flatO, groupS]
    · rw [show 1 + runLen x r = runLen x r + 1 by omega]
      simp [flatO]

theorem uniq_case (N : Nat) (A B : List UInt8) (i : Strm) (g : GotL) (h1 : g.outs = (uniqFin N A B i).outs) (h2 : g.need = (uniqFin N A B i).need) (h3 : g.err = (uniqFin N A B i).err) (hb : i.bytes.length ≤ 4000 := by omega) :
    g.outs 0 = (uniqWant N A B i).bytes ∧ g.outs 1 = [] ∧ g.outs 2 = [] ∧ g.outs 3 = [] ∧ SameCase g [i] (uniqWant N A B i) := by
  obtain ⟨f1, f2, f3⟩ := linesX_final (uniqT (uniqC N)) (uniqEnd (uniqC N)) uniqDrop (uniq_goes_on (uniqC N)) uniqHeld (0, []) i.bytes i.ended (i.code, i.stage, i.id)
  obtain ⟨-, hrl⟩ := readL_lines i.bytes i.ended (i.code, i.stage, i.id)
  have hport : ∀ t ∈ (uniqAll N i).2.1, t.1 = 0 := by
    intro t ht
    have ht : t ∈ (finalM (linesX (uniqT (uniqC N)) (uniqEnd (uniqC N)) uniqDrop uniqHeld) 0 ⟨true, false, [], (0, [])⟩ i.bytes i.ended).2.1 := ht
    rw [f1] at ht
    rcases List.mem_append.1 ht with ht | ht
    · exact runT_port _ _ _ t ht
    · split at ht
      · exact end_port _ _ t ht
      · cases ht
  obtain ⟨p0, p1⟩ := putOuts_flat (uniqAll N i).2.1 (fun _ => []) hport
  have hflat : flatO (uniqAll N i).2.1 = (uniqWant N A B i).bytes := by
    have h : (uniqAll N i).2.1 = (finalM (linesX (uniqT (uniqC N)) (uniqEnd (uniqC N)) uniqDrop uniqHeld) 0 ⟨true, false, [], (0, [])⟩ i.bytes i.ended).2.1 := rfl
    rw [h, f1, flatO_append]
    have hd := uniq_doc (uniqC N) (readL i.bytes i.ended (i.code, i.stage, i.id)).2.1 (readL i.bytes i.ended (i.code, i.stage, i.id)).1 (by omega)
    rw [show (uniqWant N A B i).bytes = docS (uniqC N) (readL i.bytes i.ended (i.code, i.stage, i.id)).2.1 (readL i.bytes i.ended (i.code, i.stage, i.id)).1 from rfl, ← hd]
    congr 1
    split <;> rfl
  have ho : (uniqFin N A B i).outs = putOuts (fun _ => []) (uniqAll N i).2.1 := rfl
  have hn : (uniqFin N A B i).need = needOf (finalM (linesX (uniqT (uniqC N)) (uniqEnd (uniqC N)) uniqDrop uniqHeld) 0 ⟨true, false, [], (0, [])⟩ i.bytes i.ended).1 := rfl
  have he : (uniqFin N A B i).err = (finalM (linesX (uniqT (uniqC N)) (uniqEnd (uniqC N)) uniqDrop uniqHeld) 0 ⟨true, false, [], (0, [])⟩ i.bytes i.ended).2.2 := rfl
  refine ⟨by rw [h1, ho, p0, hflat]; rfl, by rw [h1, ho]; exact p1 1 (by decide), by rw [h1, ho]; exact p1 2 (by decide), by rw [h1, ho]; exact p1 3 (by decide), ?_⟩
  unfold SameCase uniqWant
  simp only
  by_cases hc : (readL i.bytes i.ended (i.code, i.stage, i.id)).2.1 = true
  · obtain ⟨q1, q2⟩ := f2 hc
    exact .inl ⟨hc, by rw [h2, hn, q1], by rw [h3, he, q2]⟩
  · have hb : (readL i.bytes i.ended (i.code, i.stage, i.id)).2.1 = false := by simpa using hc
    rw [hb]
    rcases f3 hc with ⟨q1, q2, q3⟩ | ⟨q1, q2, q3⟩
    · refine .inr (.inl ⟨rfl, ?_, ?_, ?_⟩)
      · rw [h2, hn, q2]
      · rw [h3, he, q3]; decide
      · rw [h3, he, q3, q1]; rfl
    · refine .inr (.inr ⟨rfl, by rw [h3, he, q3], 0, i, ?_, rfl, ?_, ?_, ?_⟩)
      · rw [h2, hn, q2]; rfl
      · rw [q1]; rfl
      · rw [q1]; rfl
      · rw [q1]; rfl

end Go.Proofs.YtmmhpjhmobhdiaaDoor
