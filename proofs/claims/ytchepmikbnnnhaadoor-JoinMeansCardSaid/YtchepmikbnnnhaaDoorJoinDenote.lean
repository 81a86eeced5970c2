/- What the document's Means of join does. -/
import Derived.Test.YtchepmikbnnnhaaDoorJoinDocs
import Derived.Test.YtchepmikbnnnhaaDoorDenote
namespace Go.Proofs.YtchepmikbnnnhaaDoor
open Go.RowKit

/-- What the two groups and their places are in memory. -/
structure JMem (Ab Nb : Nat) (at0 : Nat → Nat) (now : Nat → Lines) (r : Nat → List Value) (nv : Nat → Value) (W3 wr : World) : Prop where
  atR : wr.heap[Ab]? = some (.cells #[.int .i64 (at0 0), .int .i64 (at0 1)] 106 (0, 0))
  nowR : wr.heap[Nb]? = some (.cells (r 0 ++ r 1).toArray 109 (0, 0))
  len : ∀ k, k < 2 → (r k).length = 6
  val : ∀ k, k < 2 → (r k)[0]? = some (nv k)
  tx : ∀ k, k < 2 → IsTexts (fun b => b ≠ Ab ∧ b ≠ Nb) wr (nv k) (now k)
  fr : Frame (fun b => b = Ab ∨ b = Nb) W3 wr
  ne : Ab ≠ Nb

/-- What stays as it is: the parameters' N, what is read of the inputs. -/
structure JFix (N : Nat) (f : Nat → Strm) (Bx Rb : Nat) (W : World) : Prop where
  n : W.cell? ⟨Bx, 1, none⟩ = some (.int .i64 N)
  rd : ∀ j, j < 2 → ∃ lv, W.rangeAt Rb (j * 5) [lv, .bool (rdOv (f j)), .int .i64 (rdErrJ (f j)).1, .int .i64 (rdErrJ (f j)).2.1, .int .i64 (rdErrJ (f j)).2.2] ∧ IsTexts (fun b => b < W.heap.size) W lv (rdW (f j))
def isYes : Value → Bool
  | .bool b => b
  | _ => false
def wantPos (Ab Nb : Nat) (wv : Value) (W : World) (j : Nat) : Nat :=
  (intOf ((W.cell? ⟨Ab, j, none⟩).getD (.int .i64 0))).toNat + match wv with
    | .slice (some ad) _ _ => if isYes ((W.cell? ⟨ad.block, j, none⟩).getD (.bool false)) = true then sliceN ((W.cell? ⟨Nb, j * 6, none⟩).getD (.slice none 0 0)) else 0
    | _ => 0
theorem exec_load_mid {P : Program} {op : Oper} {ev : Operand → Value} {w : World} (ty : TypeId) (x : Operand) (ho : op.op = .load ty x) (b o : Nat) (hx : ev x = .pointer (some ⟨b, o, none⟩)) (cs : List Value) (d : TypeDesc) (hc : w.rangeAt b o cs)
    (hu : P.underlying ty = some d) (hd : d.isRow = true) (hi : (P.info? ty).map (·.size) = some cs.length) : (execOp ev op).run P w = .ok (.value (.agg cs.toArray)) w := by
  unfold execOp
  simp only [ho, hx, Instr.loadAt, Instr.sureAddr, Sem.run_bind, Sem.run_pure, Result.andThen_ok, run_loadVar_mid w b o ty cs d hc hu hd hi]
theorem range5 {w : World} {b o : Nat} {v0 v1 v2 v3 v4 : Value} (h0 : w.cell? ⟨b, o, none⟩ = some v0) (h1 : w.cell? ⟨b, o + 1, none⟩ = some v1) (h2 : w.cell? ⟨b, o + 2, none⟩ = some v2) (h3 : w.cell? ⟨b, o + 3, none⟩ = some v3) (h4 : w.cell? ⟨b, o + 4, none⟩ = some v4) : w.rangeAt b o [v0, v1, v2, v3, v4] := fun j v hv => by
  rcases j with _ | _ | _ | _ | _ | j
  · cases hv; exact h0
  · cases hv; exact h1
  · cases hv; exact h2
  · cases hv; exact h3
  · cases hv; exact h4
  · simp at hv
theorem range_below {w w' : World} {b o : Nat} {cs : List Value} (h : w.rangeAt b o cs) (hb : Below w.heap.size w w') : w'.rangeAt b o cs := fun j v hv => by
  have := h j v hv
  rw [hb.cell (block_lt_of_cell this)]
  exact this

theorem texts_to {p : Nat → Prop} {w : World} {v : Value} {L : Lines} (h : IsTexts p w v L) : IsTexts (fun b => b < w.heap.size) w v L := by
  obtain ⟨a, cap, rfl, hc⟩ := h
  refine ⟨a, cap, rfl, fun j b hj => ?_⟩
  obtain ⟨gb, off, e, -, hx⟩ := hc j b hj
  exact ⟨gb, off, e, block_lt_of_cell hx, hx⟩
theorem texts_past {B Ab Nb : Nat} {w : World} {v : Value} {L : Lines} (h : IsTexts (B ≤ ·) w v L) (hA : Ab < B) (hN : Nb < B) : IsTexts (fun b => b ≠ Ab ∧ b ≠ Nb) w v L := by
  obtain ⟨a, cap, rfl, hc⟩ := h
  refine ⟨a, cap, rfl, fun j b hj => ?_⟩
  obtain ⟨gb, off, e, hb, hx⟩ := hc j b hj
  have hb : B ≤ gb := hb
  exact ⟨gb, off, e, ⟨by omega, by omega⟩, hx⟩

section
variable {Ab Nb : Nat} {at0 : Nat → Nat} {now : Nat → Lines} {r : Nat → List Value} {nv : Nat → Value} {W3 wr wr' : World}
theorem JMem.cAt (h : JMem Ab Nb at0 now r nv W3 wr) {j : Nat} (hj : j < 2) : wr.cell? ⟨Ab, j, none⟩ = some (.int .i64 (at0 j)) := by
  rw [cell_of_row _ _ _ _ _ _ h.atR]
  obtain rfl | rfl : j = 0 ∨ j = 1 := by omega
  · rfl
  · rfl
theorem JMem.cNow (h : JMem Ab Nb at0 now r nv W3 wr) {j i : Nat} {v : Value} (hj : j < 2) (hv : (r j)[i]? = some v) : wr.cell? ⟨Nb, j * 6 + i, none⟩ = some v := by
  have hi := (List.getElem?_eq_some_iff.1 hv).1
  rw [h.len j hj] at hi
  have h0 := h.len 0 (by decide)
  rw [cell_of_row _ _ _ _ _ _ h.nowR, List.getElem?_toArray]
  obtain rfl | rfl : j = 0 ∨ j = 1 := by omega
  · rw [List.getElem?_append_left (by omega), Nat.zero_mul, Nat.zero_add]; exact hv
  · rw [List.getElem?_append_right (by omega), show 1 * 6 + i - (r 0).length = i by omega]; exact hv
theorem JMem.cVal (h : JMem Ab Nb at0 now r nv W3 wr) {j : Nat} (hj : j < 2) : wr.cell? ⟨Nb, j * 6, none⟩ = some (nv j) := h.cNow hj (i := 0) (h.val j hj)
theorem JMem.frozA (h : JMem Ab Nb at0 now r nv W3 wr) (o : Nat) : wr.frozen? ⟨Ab, o, none⟩ = false := by simp [World.frozen?, h.atR]
theorem JMem.lt (h : JMem Ab Nb at0 now r nv W3 wr) : Ab < wr.heap.size ∧ Nb < wr.heap.size := ⟨(Array.getElem?_eq_some_iff.1 h.atR).1, (Array.getElem?_eq_some_iff.1 h.nowR).1⟩
theorem JMem.below (h : JMem Ab Nb at0 now r nv W3 wr) (hb : Below wr.heap.size wr wr') : JMem Ab Nb at0 now r nv W3 wr' :=
  ⟨(hb.block _ h.lt.1).trans h.atR, (hb.block _ h.lt.2).trans h.nowR, h.len, h.val, fun k hk => (h.tx k hk).below hb, h.fr.trans (Below.toFrame hb _), h.ne⟩
theorem JMem.setAt (h : JMem Ab Nb at0 now r nv W3 wr) {j : Nat} (hj : j < 2) (v : Nat) : JMem Ab Nb (Go.Proofs.YtchepmikbnnnhaaDoor.setAt at0 j v) now r nv W3 (wr.setCell ⟨Ab, j, none⟩ (.int .i64 v)) := by
  have hc := Frame.cell wr ⟨Ab, j, none⟩ (.int .i64 (v : Int))
  refine ⟨?_, hc.heap h.nowR (fun e => h.ne e.symm), h.len, h.val, fun k hk => (h.tx k hk).frame hc (fun b hb e => hb.1 e), h.fr.trans (hc.mono (fun k _ e => .inl e)), h.ne⟩
  rw [setCell_row h.atR]
  obtain rfl | rfl : j = 0 ∨ j = 1 := by omega
  · rfl
  · rfl
theorem JMem.there (h : JMem Ab Nb at0 now r nv W3 wr) {j : Nat} (hj : j < 2) : wr.there Nb (j * 6) 6 := by
  refine there_of_row h.nowR _ _ ?_
  have h0 := h.len 0 (by decide)
  have h1 := h.len 1 (by decide)
  rw [List.size_toArray, List.length_append]
  omega
theorem JMem.setNow (h : JMem Ab Nb at0 now r nv W3 wr) {j : Nat} (hj : j < 2) (cs : List Value) (v : Value) (L : Lines) (hl : cs.length = 6) (hv : cs[0]? = some v) (ht : IsTexts (fun b => b ≠ Ab ∧ b ≠ Nb) wr v L) :
    JMem Ab Nb at0 (Go.Proofs.YtchepmikbnnnhaaDoor.setAt now j L) (Go.Proofs.YtchepmikbnnnhaaDoor.setAt r j cs) (Go.Proofs.YtchepmikbnnnhaaDoor.setAt nv j v) W3 (wr.setCells Nb (j * 6) cs) := by
  have hc := Frame.cells (w := wr) Nb (j * 6) cs
  have h0 := h.len 0 (by decide)
  have h1 := h.len 1 (by decide)
  refine ⟨hc.heap h.atR h.ne, ?_, fun k hk => ?_, fun k hk => ?_, fun k hk => ?_, h.fr.trans (hc.mono (fun k _ e => .inr e)), h.ne⟩
  · obtain rfl | rfl : j = 0 ∨ j = 1 := by omega
    · have := heap_setCells cs 0 wr Nb [] (r 0) (r 1) 109 (0, 0) (by rw [h.nowR]; rfl) rfl (by omega)
      rw [setAt_self, setAt_other _ _ (show 1 ≠ 0 by decide)]
      exact this
    · have := heap_setCells cs 6 wr Nb (r 0) (r 1) [] 109 (0, 0) (by rw [h.nowR, List.append_nil]) h0 (by omega)
      rw [setAt_self, setAt_other _ _ (show 0 ≠ 1 by decide)]
      rw [List.append_nil] at this
      exact this
  · by_cases he : k = j
    · subst he; rw [setAt_self]; exact hl
    · rw [setAt_other _ _ he]; exact h.len k hk
  · by_cases he : k = j
    · subst he; rw [setAt_self, setAt_self]; exact hv
    · rw [setAt_other _ _ he, setAt_other _ _ he]; exact h.val k hk
  · by_cases he : k = j
    · subst he; rw [setAt_self, setAt_self]; exact ht.frame hc (fun b hb e => hb.2 e)
    · rw [setAt_other _ _ he, setAt_other _ _ he]; exact (h.tx k hk).frame hc (fun b hb e => hb.2 e)
theorem JFix.frame {N : Nat} {f : Nat → Strm} {Bx Rb : Nat} {W W' : World} (h : JFix N f Bx Rb W) (hf : Frame (fun b => b = Ab ∨ b = Nb) W W') (hA : W.heap.size ≤ Ab) (hN : W.heap.size ≤ Nb) : JFix N f Bx Rb W' := by
  have hlt : ∀ {b o : Nat} {v : Value}, W.cell? ⟨b, o, none⟩ = some v → W'.cell? ⟨b, o, none⟩ = some v := fun {b o v} hc => hf.cell? hc (fun e => by
    have := block_lt_of_cell hc
    simp only at this e
    omega)
  refine ⟨hlt h.n, fun j hj => ?_⟩
  obtain ⟨lv, h1, h2⟩ := h.rd j hj
  refine ⟨lv, fun i v hv => hlt (h1 i v hv), ?_⟩
  obtain ⟨a, cap, rfl, hc⟩ := h2
  refine ⟨a, cap, rfl, fun i b hi => ?_⟩
  obtain ⟨gb, off, e, hp, hx⟩ := hc i b hi
  exact ⟨gb, off, e, Nat.lt_of_lt_of_le hp hf.size, hlt hx⟩
end

/-- Ahead of a round of the document's. -/
structure OutRel (N : Nat) (a : UInt8) (f : Nat → Strm) (Ab Nb : Nat) (W7 : World) (wv sv : Value) (E : Lines) (t : JT) (at0 : Nat → Nat) (now : Nat → Lines) (wn : Nat → Bool) (wr : World) : Prop where
  want : ∃ Wb, wv = .slice (some ⟨Wb, 0, none⟩) 2 2 ∧ (Wb ≠ Ab ∧ Wb ≠ Nb) ∧ ∀ j, j < 2 → wr.cell? ⟨Wb, j, none⟩ = some (.bool (wn j))
  s : sv = strV (joinL E)
  run : settleJ N a (startJ f) = (E ++ (settleJ N a t).1, (settleJ N a t).2)
  doc : DocJ N a f t 0 at0 now wn
  mem : ∃ r nv, JMem Ab Nb at0 now r nv W7 wr
theorem OutRel.pos {N : Nat} {a : UInt8} {f : Nat → Strm} {Ab Nb : Nat} {W7 : World} {wv sv : Value} {E : Lines} {t : JT} {at0 : Nat → Nat} {now : Nat → Lines} {wn : Nat → Bool} {wr : World} (h : OutRel N a f Ab Nb W7 wv sv E t at0 now wn wr) {j : Nat} (hj : j < 2) :
    wantPos Ab Nb wv wr j = at0 j + if wn j = true then (now j).length else 0 := by
  obtain ⟨Wb, rfl, -, hc⟩ := h.want
  obtain ⟨r, nv, hm⟩ := h.mem
  obtain ⟨_, _, e, -⟩ := hm.tx j hj
  unfold wantPos
  rw [hm.cAt hj, hm.cVal hj]
  simp only [hc j hj, Option.getD_some, isYes, intOf, Int.toNat_natCast, e, sliceN]

/-- Ahead of a round of the inner loop. -/
structure InRel (N : Nat) (a : UInt8) (f : Nat → Strm) (Ab Nb : Nat) (W7 : World) (Wb : Nat) (t : JT) (at0 : Nat → Nat) (now : Nat → Lines) (wn : Nat → Bool) (kk : Nat) (at1 : Nat → Nat) (now1 : Nat → Lines) (wr : World) : Prop where
  le : kk ≤ 2
  doc : DocJ N a f t kk at1 now1 wn
  mem : ∃ r nv, JMem Ab Nb at1 now1 r nv W7 wr
  want : ∀ j, j < 2 → wr.cell? ⟨Wb, j, none⟩ = some (.bool (wn j))
  pos : ∀ j, j < 2 → (j < kk → at1 j = at0 j + if wn j = true then (now j).length else 0) ∧ (kk ≤ j → at1 j = at0 j ∧ now1 j = now j)
section
variable {N : Nat} {a : UInt8} {f : Nat → Strm} {Ab Nb : Nat} {W7 : World} {Wb : Nat} {t : JT} {at0 at1 : Nat → Nat} {now now1 : Nat → Lines} {wn : Nat → Bool} {kk : Nat} {wr wr' : World}
theorem InRel.skip (h : InRel N a f Ab Nb W7 Wb t at0 now wn kk at1 now1 wr) (hk : kk < 2) (hw : wn kk = false) : InRel N a f Ab Nb W7 Wb t at0 now wn (kk + 1) at1 now1 wr :=
  ⟨by omega, h.doc.skip hk hw, h.mem, h.want, fun j hj => ⟨fun hjk => by
    by_cases he : j = kk
    · subst he
      rw [((h.pos j hj).2 (Nat.le_refl _)).1, hw]
      simp
    · exact (h.pos j hj).1 (by omega), fun hkj => (h.pos j hj).2 (by omega)⟩⟩
theorem InRel.read (h : InRel N a f Ab Nb W7 Wb t at0 now wn kk at1 now1 wr) (hk : kk < 2) (hw : wn kk = true) (hc : (sideR N a t kk).2.2 = 1)
    (hm : ∃ r nv, JMem Ab Nb (setAt at1 kk (at1 kk + (now1 kk).length)) (setAt now1 kk (sideR N a t kk).2.1) r nv W7 wr') (hwt : ∀ j, j < 2 → wr'.cell? ⟨Wb, j, none⟩ = some (.bool (wn j))) :
    InRel N a f Ab Nb W7 Wb t at0 now wn (kk + 1) (setAt at1 kk (at1 kk + (now1 kk).length)) (setAt now1 kk (sideR N a t kk).2.1) wr' :=
  ⟨by omega, h.doc.read hk hw hc, hm, hwt, fun j hj => ⟨fun hjk => by
    by_cases he : j = kk
    · subst he
      obtain ⟨e1, e2⟩ := (h.pos j hj).2 (Nat.le_refl _)
      rw [setAt_self, e1, e2, if_pos hw]
    · rw [setAt_other _ _ he]
      exact (h.pos j hj).1 (by omega), fun hkj => by
    rw [setAt_other _ _ (show j ≠ kk by omega), setAt_other _ _ (show j ≠ kk by omega)]
    exact (h.pos j hj).2 (by omega)⟩⟩
/-- A round that does not go on: what comes of it all. -/
theorem InRel.halts (h : InRel N a f Ab Nb W7 Wb t at0 now wn kk at1 now1 wr) (hk : kk < 2) (hc : (sideR N a t kk).2.2 ≠ 1) : (settleJ N a t).1 = [] ∧ (settleJ N a t).2.2 = haltJ kk (sideR N a t kk).2.2 := by
  have hr : ∃ t', roundJ N a t = (t', haltJ kk (sideR N a t kk).2.2) := by
    obtain rfl | rfl : kk = 0 ∨ kk = 1 := by omega
    · exact ⟨_, round_halt0 hc⟩
    · exact ⟨_, round_halt1 (h.doc.done 0 (by decide) (by decide)).1 hc⟩
  obtain ⟨t', hr⟩ := hr
  by_cases hz : (sideR N a t kk).2.2 = 0
  · rw [haltJ_zero kk hz] at hr ⊢
    rw [settleJ_waits hr]
    exact ⟨rfl, rfl⟩
  · rw [haltJ_else kk hz] at hr ⊢
    rw [settleJ_ends hr]
    exact ⟨rfl, rfl⟩
theorem InRel.wants (h : InRel N a f Ab Nb W7 Wb t at0 now wn kk at1 now1 wr) (hk : kk < 2) (hc : (sideR N a t kk).2.2 ≠ 1) {E : Lines} (hrun : settleJ N a (startJ f) = (E ++ (settleJ N a t).1, (settleJ N a t).2)) :
    joinWantF N a f = match haltJ kk (sideR N a t kk).2.2 with
      | .waits p => ⟨joinL E, false, (rdErrJ (f p)).1, (rdErrJ (f p)).2.1, (rdErrJ (f p)).2.2⟩
      | .ends e => if e = 0 then ⟨joinL E, true, 0, 0, 0⟩ else ⟨joinL E, false, e, -1, 0⟩
      | _ => ⟨joinL E, true, 0, 0, 0⟩ := by
  obtain ⟨e1, e2⟩ := h.halts hk hc
  unfold joinWantF
  rw [hrun]
  simp only
  rw [e1, e2, List.append_nil]
  generalize haltJ kk (sideR N a t kk).2.2 = n
  cases n <;> rfl
/-- There is no group more. -/
theorem InRel.none (h : InRel N a f Ab Nb W7 Wb t at0 now wn kk at1 now1 wr) (hk : kk < 2) (hc : (sideR N a t kk).2.2 = 2) {E : Lines} (hrun : settleJ N a (startJ f) = (E ++ (settleJ N a t).1, (settleJ N a t).2)) :
    joinWantF N a f = ⟨joinL E, true, 0, 0, 0⟩ := by
  rw [h.wants hk (by rw [hc]; decide) hrun, hc, haltJ_else kk (by decide)]
  rfl
/-- A line that has not come, or a fault. -/
theorem InRel.stops (h : InRel N a f Ab Nb W7 Wb t at0 now wn kk at1 now1 wr) (hk : kk < 2) (hc : (sideR N a t kk).2.2 ≠ 1) (hc2 : (sideR N a t kk).2.2 ≠ 2) {E : Lines} (hrun : settleJ N a (startJ f) = (E ++ (settleJ N a t).1, (settleJ N a t).2))
    {c s i : Int} (h0 : (sideR N a t kk).2.2 = 0 → (c, s, i) = rdErrJ (f kk)) (h3 : (sideR N a t kk).2.2 = 3 → (c, s, i) = (22, -1, 0)) (h4 : (sideR N a t kk).2.2 = 4 → (c, s, i) = (21, -1, 0)) :
    joinWantF N a f = ⟨joinL E, false, c, s, i⟩ := by
  rw [h.wants hk hc hrun]
  have hcode := readG_code (N := N) (a := a) (t.ov kk) (t.W kk) (t.G kk)
  change (sideR N a t kk).2.2 = 0 ∨ (sideR N a t kk).2.2 = 1 ∨ (sideR N a t kk).2.2 = 2 ∨ (sideR N a t kk).2.2 = 3 ∨ (sideR N a t kk).2.2 = 4 at hcode
  rcases hcode with e | e | e | e | e
  · rw [haltJ_zero kk e]
    simp only
    rw [← h0 e]
  · exact absurd e hc
  · exact absurd e hc2
  · rw [e, haltJ_else kk (by decide)]
    obtain ⟨rfl, rfl, rfl⟩ := by simpa using h3 e
    rfl
  · rw [e, haltJ_else kk (by decide)]
    obtain ⟨rfl, rfl, rfl⟩ := by simpa using h4 e
    rfl
end

/-- Which groups the next round wants: those of the lesser key. -/
def wantsN (a : UInt8) (now : Nat → Lines) (j : Nat) : Bool := if j = 0 then lessL (keyG a (now 0)) (keyG a (now 1)) || decide (keyG a (now 0) = keyG a (now 1)) else lessL (keyG a (now 1)) (keyG a (now 0)) || decide (keyG a (now 0) = keyG a (now 1))
def toldN (a : UInt8) (now : Nat → Lines) : Lines := if keyG a (now 0) = keyG a (now 1) then pairsJ a (now 0) (now 1) else []
section
variable {N : Nat} {a : UInt8} {f : Nat → Strm} {t : JT} {at1 : Nat → Nat} {now1 : Nat → Lines} {wn : Nat → Bool}
theorem DocJ.groups (h : DocJ N a f t 2 at1 now1 wn) : ∀ j, j < 2 → (readJ N a (readJ N a t 0) 1).G j = now1 j := by
  obtain ⟨c0, c1, n0, n1, -, -⟩ := h.both
  obtain ⟨g0, g1, -, -⟩ := both_G (N := N) (a := a) t
  intro j hj
  obtain rfl | rfl : j = 0 ∨ j = 1 := by omega
  · rw [g0, n0]
  · rw [g1, n1]
theorem DocJ.fits (h : DocJ N a f t 2 at1 now1 wn) (h1 : 1 ≤ N) : ∀ j, j < 2 → (now1 j).length ≤ N ∧ (∀ l ∈ now1 j, l.length ≤ 64) ∧ Keyed a (now1 j) := by
  have hok := (h.ok.read h1 0).read h1 1
  intro j hj
  rw [← h.groups j hj]
  exact ⟨hok.most j hj, fun l hl => hok.fine j hj l (List.mem_append_left _ hl), hok.keyed j hj⟩
theorem DocJ.meets (h : DocJ N a f t 2 at1 now1 wn) (h1 : 1 ≤ N) : ∃ t', settleJ N a t = (toldN a now1 ++ (settleJ N a t').1, (settleJ N a t').2) ∧ DocJ N a f t' 0 at1 now1 (wantsN a now1) := by
  obtain ⟨c0, c1, -, -, -, -⟩ := h.both
  have hr := round_meet c0 c1
  have hg := h.groups
  unfold meetJ at hr
  rw [hg 0 (by decide), hg 1 (by decide)] at hr
  by_cases hl : lessL (keyG a (now1 0)) (keyG a (now1 1)) = true
  · rw [if_pos hl] at hr
    have hne : keyG a (now1 0) ≠ keyG a (now1 1) := fun e => by rw [e, lessL_self] at hl; cases hl
    refine ⟨_, ?_, h.next h1 (t' := dropJ (readJ N a (readJ N a t 0) 1) 0) (wantsN a now1) rfl rfl (fun j hj => ?_)⟩
    · rw [settleJ_again hr, toldN, if_neg hne]; rfl
    · obtain rfl | rfl : j = 0 ∨ j = 1 := by omega
      · rw [if_pos (by simp [wantsN, hl])]
        show setAt (readJ N a (readJ N a t 0) 1).G 0 [] 0 = []
        exact setAt_self _ _ _
      · rw [if_neg (by simp [wantsN, lessL_asymm _ _ hl, hne])]
        show setAt (readJ N a (readJ N a t 0) 1).G 0 [] 1 = now1 1
        rw [setAt_other _ _ (show 1 ≠ 0 by decide)]
        exact hg 1 (by decide)
  · rw [if_neg hl] at hr
    have hl' : lessL (keyG a (now1 0)) (keyG a (now1 1)) = false := by simpa using hl
    by_cases hk : gtrL (keyG a (now1 0)) (keyG a (now1 1)) = true
    · rw [if_pos hk] at hr
      rw [gtrL_iff] at hk
      have hne : keyG a (now1 0) ≠ keyG a (now1 1) := fun e => by rw [e, lessL_self] at hk; cases hk
      refine ⟨_, ?_, h.next h1 (t' := dropJ (readJ N a (readJ N a t 0) 1) 1) (wantsN a now1) rfl rfl (fun j hj => ?_)⟩
      · rw [settleJ_again hr, toldN, if_neg hne]; rfl
      · obtain rfl | rfl : j = 0 ∨ j = 1 := by omega
        · rw [if_neg (by simp [wantsN, hl', hne])]
          show setAt (readJ N a (readJ N a t 0) 1).G 1 [] 0 = now1 0
          rw [setAt_other _ _ (show 0 ≠ 1 by decide)]
          exact hg 0 (by decide)
        · rw [if_pos (by simp [wantsN, hk])]
          show setAt (readJ N a (readJ N a t 0) 1).G 1 [] 1 = []
          exact setAt_self _ _ _
    · rw [if_neg hk] at hr
      have he := eq_of_not hl' (by simpa using hk)
      refine ⟨_, ?_, h.next h1 (t' := drops (readJ N a (readJ N a t 0) 1)) (wantsN a now1) rfl rfl (fun j hj => ?_)⟩
      · rw [settleJ_tells hr, toldN, if_pos he, hg 0 (by decide), hg 1 (by decide)]
      · obtain rfl | rfl : j = 0 ∨ j = 1 := by omega
        · rw [if_pos (by simp [wantsN, he])]
          show setAt (setAt (readJ N a (readJ N a t 0) 1).G 0 []) 1 [] 0 = []
          rw [setAt_other _ _ (show 0 ≠ 1 by decide), setAt_self]
        · rw [if_pos (by simp [wantsN, he])]
          show setAt (setAt (readJ N a (readJ N a t 0) 1).G 0 []) 1 [] 1 = []
          exact setAt_self _ _ _
/-- The next round begins further on. -/
theorem DocJ.grows (h : DocJ N a f t 2 at1 now1 wn) : at1 0 + at1 1 < (at1 0 + if wantsN a now1 0 = true then (now1 0).length else 0) + (at1 1 + if wantsN a now1 1 = true then (now1 1).length else 0) := by
  obtain ⟨-, -, -, -, n0, n1⟩ := h.both
  have p0 := List.length_pos_iff.2 n0
  have p1 := List.length_pos_iff.2 n1
  have hw : wantsN a now1 0 = true ∨ wantsN a now1 1 = true := by
    by_cases hl : lessL (keyG a (now1 0)) (keyG a (now1 1)) = true
    · exact .inl (by simp [wantsN, hl])
    · by_cases he : keyG a (now1 0) = keyG a (now1 1)
      · exact .inl (by simp [wantsN, he])
      · exact .inr (by simp [wantsN, lessL_total _ _ (by simpa using hl) he])
  rcases hw with e | e
  · rw [if_pos e]
    split <;> omega
  · rw [if_pos e]
    split <;> omega
end

section
variable {N : Nat} {a : UInt8} {f : Nat → Strm} {Ab Nb : Nat} {W7 : World} {t' : JT} {at1 : Nat → Nat} {now1 : Nat → Lines}
theorem OutRel.next {r : Nat → List Value} {nv : Nat → Value} {W3 : World} {E : Lines} {S : ByteArray} {b0 b1 : Bool} (hd : DocJ N a f t' 0 at1 now1 (wantsN a now1)) (hm : JMem Ab Nb at1 now1 r nv W7 W3) (hrun : settleJ N a (startJ f) = (E ++ (settleJ N a t').1, (settleJ N a t').2))
    (h0 : wantsN a now1 0 = b0) (h1 : wantsN a now1 1 = b1) (hs : strV (joinL E) = .string S) : OutRel N a f Ab Nb W7 (.slice (some ⟨W3.heap.size, 0, none⟩) 2 2) (.string S) E t' at1 now1 (wantsN a now1) (W3.alloc (.cells #[.bool b0, .bool b1] 4)) := by
  have hl := hm.lt
  refine ⟨⟨W3.heap.size, rfl, ⟨by omega, by omega⟩, fun j hj => ?_⟩, hs.symm, hrun, hd, _, _, hm.below ((Below.refl _ _).alloc (Nat.le_refl _) _)⟩
  rw [cell_of_row _ _ _ _ _ _ (heap_alloc_last W3 _)]
  obtain rfl | rfl : j = 0 ∨ j = 1 := by omega
  · rw [h0]; rfl
  · rw [h1]; rfl
theorem OutRel.less {t : JT} {wv wv' sv' : Value} {E : Lines} {at0 : Nat → Nat} {now : Nat → Lines} {wn : Nat → Bool} {Wb : Nat} {wr WR WI : World} (h : OutRel N a f Ab Nb W7 wv' sv' E t' at1 now1 (wantsN a now1) wr) (hi : InRel N a f Ab Nb W7 Wb t at0 now wn 2 at1 now1 WI)
    (h0 : wantPos Ab Nb wv WR 0 = at0 0 + if wn 0 = true then (now 0).length else 0) (h1 : wantPos Ab Nb wv WR 1 = at0 1 + if wn 1 = true then (now 1).length else 0) (hl : ∀ j, j < 2 → (rdW (f j)).length ≤ 4001) :
    10000 - (wantPos Ab Nb wv' wr 0 + wantPos Ab Nb wv' wr 1) < 10000 - (wantPos Ab Nb wv WR 0 + wantPos Ab Nb wv WR 1) := by
  have g := hi.doc.grows
  have e0 := (hi.pos 0 (by decide)).1 (by decide)
  have e1 := (hi.pos 1 (by decide)).1 (by decide)
  have m0 := hi.doc.le 0 (by decide)
  have m1 := hi.doc.le 1 (by decide)
  have q0 := hl 0 (by decide)
  have q1 := hl 1 (by decide)
  rw [h.pos (j := 0) (by decide), h.pos (j := 1) (by decide), h0, h1, ← e0, ← e1]
  have z0 : (if wantsN a now1 0 = true then (now1 0).length else 0) ≤ (now1 0).length := by split <;> omega
  have z1 : (if wantsN a now1 1 = true then (now1 1).length else 0) ≤ (now1 1).length := by split <;> omega
  generalize (if wantsN a now1 0 = true then (now1 0).length else 0) = u0 at g z0 ⊢
  generalize (if wantsN a now1 1 = true then (now1 1).length else 0) = u1 at g z1 ⊢
  omega
end

set_option maxRecDepth 100000 in
set_option maxHeartbeats 16000000 in
theorem joinMeans_any {p : Nat → Prop} (k : Int) (N : Nat) (va vb : Value) (A B : List UInt8) (iv : Value) (ins : List Strm) (w : World) (hA : Pm.IsBytes w va A) (_ : Pm.IsBytes w vb B) (hI : IsStrms p w iv ins) (hok : joinOk N A B) (hlen : ins.length = joinIns N) (hl : ∀ t ∈ ins, t.bytes.length ≤ 4000) :
    Calls Tryd.prog 19 #[Pm.parV k N va vb, iv] w (OutEnd w (joinWant N A B ins)) := by
  obtain ⟨⟨h1, h14⟩, hA1⟩ := hok
  obtain ⟨a, rfl⟩ := oneJ_of hA1
  have hins : ins.length = 2 := hlen
  obtain ⟨i0, i1, rfl⟩ : ∃ i0 i1, ins = [i0, i1] := by
    match ins, hins with
    | [x, y], _ => exact ⟨x, y, rfl⟩
  obtain ⟨ab, ao, ca, rfl, hxa⟩ : ∃ ab ao ca, va = .slice (some ⟨ab, ao, none⟩) 1 ca ∧ w.cell? ⟨ab, ao, none⟩ = some (.int .u8 a.toNat) := by
    obtain ⟨aa, ca, rfl, hca, hx⟩ := hA
    obtain ⟨ab, ao, rfl, hx2⟩ := hx 0 a rfl
    exact ⟨ab, ao, ca, rfl, hx2⟩
  generalize hva : Value.slice (some ⟨ab, ao, none⟩) 1 ca = va
  have hb0 : Below w.heap.size w (w.alloc (.cells #[.int .i64 k, .int .i64 N, va, vb] 24)) := (Below.refl _ _).alloc (Nat.le_refl _) _
  have hr0 := heap_alloc_last w (.cells #[.int .i64 k, .int .i64 N, va, vb] 24)
  have hs0 : (w.alloc (.cells #[.int .i64 k, .int .i64 N, va, vb] 24)).heap.size = w.heap.size + 1 := by simp
  obtain ⟨T, hT⟩ : ∃ T, T = joinWantF N a (insF [i0, i1]) := ⟨_, rfl⟩
  rw [show joinWant N [a] B [i0, i1] = T from hT.symm]
  have HT := Lib.hid hT
  have HTot := Lib.hid (doc_most (a := a) h1 h14 (insF [i0, i1]) (hl i0 (by simp)))
  have HL0 := Lib.hid (hl i0 (by simp))
  have HL1 := Lib.hid (hl i1 (by simp))
  have hxa : (w.alloc (.cells #[.int .i64 k, .int .i64 N, va, vb] 24)).cell? ⟨ab, ao, none⟩ = some (.int .u8 a.toNat) := by rw [hb0.cell (block_lt_of_cell hxa)]; exact hxa
  subst hva
  obtain ⟨ai, ci, rfl, hst⟩ := hI.below hb0
  obtain ⟨gb, off, bv0, e0, hp0, s00, s01, s02, s03, s04, hby0⟩ := hst 0 i0 rfl
  obtain ⟨gb1, off1, bv1, e1, hp1, s10, s11, s12, s13, s14, hby1⟩ := hst 1 i1 rfl
  subst e0
  cases e1
  have hrg0 := range5 s00 s01 s02 s03 s04
  have hrg1 := range5 s10 s11 s12 s13 s14
  simp only [Nat.zero_mul, Nat.add_zero, Nat.one_mul] at hrg0 hrg1
  have HLens := Lib.hid (show ∀ j, j < 2 → (rdW ((insF [i0, i1]) j)).length ≤ 4001 from fun j hj => by
    obtain rfl | rfl : j = 0 ∨ j = 1 := by omega
    · have := (readL_lines i0.bytes i0.ended (i0.code, i0.stage, i0.id)).2
      have h2 := HL0.out
      show (readL i0.bytes i0.ended (i0.code, i0.stage, i0.id)).1.length ≤ 4001
      omega
    · have := (readL_lines i1.bytes i1.ended (i1.code, i1.stage, i1.id)).2
      have h2 := HL1.out
      show (readL i1.bytes i1.ended (i1.code, i1.stage, i1.id)).1.length ≤ 4001
      omega)
  clear hT hl hA1 hlen hins hst hA s00 s01 s02 s03 s04 s10 s11 s12 s13 s14 hI
  unfold Pm.parV
  go_enter Tryd.func19, Tryd.ntmps19
  go_wp2_with fail
  generalize hW0 : w.alloc (.cells #[.int .i64 k, .int .i64 N, .slice (some ⟨ab, ao, none⟩) 1 ca, vb] 24) = W0 at hb0 hr0 hs0 hxa hrg0 hrg1 hby0 hby1 ⊢
  clear hW0 hxa
  have HB0 := Lib.hid hb0
  have HR0 := Lib.hid hr0
  refine anyG_start (S := fun W => W.rangeAt gb off [bv0, .bool i0.ended, .int .i64 i0.code, .int .i64 i0.stage, .int .i64 i0.id] ∧ W.rangeAt gb (off + 5) [bv1, .bool i1.ended, .int .i64 i1.code, .int .i64 i1.stage, .int .i64 i1.id]) (by kernel_rfl) ?_
  have hbd : Below W0.heap.size W0 W0.drew := (Below.refl _ _).drew
  have hS0 : (fun W : World => W.rangeAt gb off [bv0, .bool i0.ended, .int .i64 i0.code, .int .i64 i0.stage, .int .i64 i0.id] ∧ W.rangeAt gb (off + 5) [bv1, .bool i1.ended, .int .i64 i1.code, .int .i64 i1.stage, .int .i64 i1.id]) W0.drew := ⟨hrg0, hrg1⟩
  have hby0d := hby0.below hbd
  have hby1d := hby1.below hbd
  generalize W0.drew = W1 at hbd hS0 hby0d hby1d ⊢
  clear hb0 hr0 hrg0 hrg1 hby0 hby1
  refine anyG_take (i := 0) 20 (.slice (some ⟨gb, off, none⟩) 2 ci) rfl rfl (by kernel_rfl) (by kernel_rfl) (by kernel_rfl) rfl (fun _ _ => rfl) hS0 ?_
  simp only [Act.put, List.setIfInBounds_toArray, List.set_cons_succ, List.set_cons_zero]
  refine anyG_take (i := 1) 21 (.pointer (some ⟨gb, off, none⟩)) rfl rfl (by kernel_rfl) (by kernel_rfl) (by kernel_rfl) rfl (fun _ _ => by go_simp) hS0 ?_
  simp only [Act.put, List.setIfInBounds_toArray, List.set_cons_succ, List.set_cons_zero]
  refine anyG_take (i := 2) 22 (.agg #[bv0, .bool i0.ended, .int .i64 i0.code, .int .i64 i0.stage, .int .i64 i0.id]) rfl rfl (by kernel_rfl) (by kernel_rfl) (by kernel_rfl) rfl (fun W hW => exec_load_mid 61 (.tmp 21) rfl gb off rfl _ _ hW.1 Tryd.underlying61 rfl (by kernel_rfl)) hS0 ?_
  simp only [Act.put, List.setIfInBounds_toArray, List.set_cons_succ, List.set_cons_zero]
  refine anyG_take (i := 4) 24 (.slice (some ⟨gb, off, none⟩) 2 ci) rfl rfl (by kernel_rfl) (by kernel_rfl) (by kernel_rfl) rfl (fun _ _ => rfl) hS0 ?_
  simp only [Act.put, List.setIfInBounds_toArray, List.set_cons_succ, List.set_cons_zero]
  refine anyG_take (i := 5) 25 (.pointer (some ⟨gb, off + 5, none⟩)) rfl rfl (by kernel_rfl) (by kernel_rfl) (by kernel_rfl) rfl (fun _ _ => by go_simp) hS0 ?_
  simp only [Act.put, List.setIfInBounds_toArray, List.set_cons_succ, List.set_cons_zero]
  refine anyG_take (i := 6) 26 (.agg #[bv1, .bool i1.ended, .int .i64 i1.code, .int .i64 i1.stage, .int .i64 i1.id]) rfl rfl (by kernel_rfl) (by kernel_rfl) (by kernel_rfl) rfl (fun W hW => exec_load_mid 61 (.tmp 25) rfl gb (off + 5) rfl _ _ hW.2 Tryd.underlying61 rfl (by kernel_rfl)) hS0 ?_
  simp only [Act.put, List.setIfInBounds_toArray, List.set_cons_succ, List.set_cons_zero]
  have hln0 : Calls Tryd.prog 38 #[.agg #[bv0, .bool i0.ended, .int .i64 i0.code, .int .i64 i0.stage, .int .i64 i0.id]] W1 (fun e w' => ∃ v, e = .returned (.agg #[v, .bool (rdOv i0), .int .i64 (rdErrJ i0).1, .int .i64 (rdErrJ i0).2.1, .int .i64 (rdErrJ i0).2.2]) ∧ w'.ownsRow W1.heap.size 9 1 v (rdW i0).length ((rdW i0).map strV) ∧ Below W1.heap.size W1 w') :=
    lines_any bv0 i0.bytes i0.ended i0.code i0.stage i0.id W1 hby0d (by have := HL0.out; omega)
  refine anyG_step (i := 3) rfl (by kernel_rfl) rfl (fun K hK => ?_)
  go_simp
  refine hln0.mono ?_
  rintro e W2 ⟨lv0, rfl, hown0, hb2⟩
  have hbd2 := hbd.trans (hb2.mono hbd.size)
  have hS2 : (fun W : World => W.rangeAt gb off [bv0, .bool i0.ended, .int .i64 i0.code, .int .i64 i0.stage, .int .i64 i0.id] ∧ W.rangeAt gb (off + 5) [bv1, .bool i1.ended, .int .i64 i1.code, .int .i64 i1.stage, .int .i64 i1.id]) W2 := ⟨range_below hS0.1 hb2, range_below hS0.2 hb2⟩
  refine hK.out _ _ hS2 ?_
  clear hK K hln0
  try simp only [Act.put, List.setIfInBounds_toArray, List.set_cons_succ, List.set_cons_zero]
  have hln1 : Calls Tryd.prog 38 #[.agg #[bv1, .bool i1.ended, .int .i64 i1.code, .int .i64 i1.stage, .int .i64 i1.id]] W2 (fun e w' => ∃ v, e = .returned (.agg #[v, .bool (rdOv i1), .int .i64 (rdErrJ i1).1, .int .i64 (rdErrJ i1).2.1, .int .i64 (rdErrJ i1).2.2]) ∧ w'.ownsRow W2.heap.size 9 1 v (rdW i1).length ((rdW i1).map strV) ∧ Below W2.heap.size W2 w') :=
    lines_any bv1 i1.bytes i1.ended i1.code i1.stage i1.id W2 (hby1d.below hb2) (by have := HL1.out; omega)
  refine anyG_step (i := 7) rfl (by kernel_rfl) rfl (fun K hK => ?_)
  go_simp
  refine hln1.mono ?_
  rintro e W3 ⟨lv1, rfl, hown1, hb3⟩
  have hbd3 := hbd2.trans (hb3.mono hbd2.size)
  have hS3 : (fun W : World => W.rangeAt gb off [bv0, .bool i0.ended, .int .i64 i0.code, .int .i64 i0.stage, .int .i64 i0.id] ∧ W.rangeAt gb (off + 5) [bv1, .bool i1.ended, .int .i64 i1.code, .int .i64 i1.stage, .int .i64 i1.id]) W3 := ⟨range_below hS2.1 hb3, range_below hS2.2 hb3⟩
  have ht0 := (isTexts_of_owns hown0).below hb3
  have ht1 := isTexts_of_owns hown1
  refine hK.out _ _ hS3 ?_
  clear hK K hln1 hown0 hown1 hS2 hS0 hby0d hby1d
  try simp only [Act.put, List.setIfInBounds_toArray, List.set_cons_succ, List.set_cons_zero]
  refine anyG_step (i := 8) rfl (by kernel_rfl) rfl (fun K hK => ?_)
  go_simp
  have hal4 : Below W3.heap.size W3 (W3.alloc (.cells #[lv0, .bool (rdOv i0), .int .i64 (rdErrJ i0).1, .int .i64 (rdErrJ i0).2.1, .int .i64 (rdErrJ i0).2.2, lv1, .bool (rdOv i1), .int .i64 (rdErrJ i1).1, .int .i64 (rdErrJ i1).2.1, .int .i64 (rdErrJ i1).2.2] 103)) := (Below.refl _ _).alloc (Nat.le_refl _) _
  have hr4 := heap_alloc_last W3 (.cells #[lv0, .bool (rdOv i0), .int .i64 (rdErrJ i0).1, .int .i64 (rdErrJ i0).2.1, .int .i64 (rdErrJ i0).2.2, lv1, .bool (rdOv i1), .int .i64 (rdErrJ i1).1, .int .i64 (rdErrJ i1).2.1, .int .i64 (rdErrJ i1).2.2] 103)
  have hs4 : (W3.alloc (.cells #[lv0, .bool (rdOv i0), .int .i64 (rdErrJ i0).1, .int .i64 (rdErrJ i0).2.1, .int .i64 (rdErrJ i0).2.2, lv1, .bool (rdOv i1), .int .i64 (rdErrJ i1).1, .int .i64 (rdErrJ i1).2.1, .int .i64 (rdErrJ i1).2.2] 103)).heap.size = W3.heap.size + 1 := by simp
  have hS4 : (fun W : World => W.rangeAt gb off [bv0, .bool i0.ended, .int .i64 i0.code, .int .i64 i0.stage, .int .i64 i0.id] ∧ W.rangeAt gb (off + 5) [bv1, .bool i1.ended, .int .i64 i1.code, .int .i64 i1.stage, .int .i64 i1.id]) (W3.alloc (.cells #[lv0, .bool (rdOv i0), .int .i64 (rdErrJ i0).1, .int .i64 (rdErrJ i0).2.1, .int .i64 (rdErrJ i0).2.2, lv1, .bool (rdOv i1), .int .i64 (rdErrJ i1).1, .int .i64 (rdErrJ i1).2.1, .int .i64 (rdErrJ i1).2.2] 103)) := ⟨range_below hS3.1 hal4, range_below hS3.2 hal4⟩
  have ht0 := ht0.below hal4
  have ht1 := ht1.below hal4
  refine hK.out _ _ hS4 ?_
  clear hK K
  have hbw4 : Below w.heap.size w (W3.alloc (.cells #[lv0, .bool (rdOv i0), .int .i64 (rdErrJ i0).1, .int .i64 (rdErrJ i0).2.1, .int .i64 (rdErrJ i0).2.2, lv1, .bool (rdOv i1), .int .i64 (rdErrJ i1).1, .int .i64 (rdErrJ i1).2.1, .int .i64 (rdErrJ i1).2.2] 103)) := HB0.out.trans ((hbd3.trans (hal4.mono hbd3.size)).mono (by omega))
  have hbx4 := (hal4.block w.heap.size (by have := hbd3.size; omega)).trans ((hbd3.block w.heap.size (by omega)).trans HR0.out)
  generalize W3.alloc (.cells #[lv0, .bool (rdOv i0), .int .i64 (rdErrJ i0).1, .int .i64 (rdErrJ i0).2.1, .int .i64 (rdErrJ i0).2.2, lv1, .bool (rdOv i1), .int .i64 (rdErrJ i1).1, .int .i64 (rdErrJ i1).2.1, .int .i64 (rdErrJ i1).2.2] 103) = W4 at hr4 hs4 hS4 ht0 ht1 hbw4 hbx4 ⊢
  generalize hRb : W3.heap.size = Rb at hr4 hs4 ⊢
  have hfix : JFix N (insF [i0, i1]) w.heap.size Rb W4 := by
    refine ⟨by rw [cell_of_row _ _ _ _ _ _ hbx4]; rfl, fun j hj => ?_⟩
    obtain rfl | rfl : j = 0 ∨ j = 1 := by omega
    · refine ⟨lv0, fun j v hv => ?_, texts_to ht0⟩
      rw [cell_of_row _ _ _ _ _ _ hr4]
      rcases j with _ | _ | _ | _ | _ | j
      · exact hv
      · exact hv
      · exact hv
      · exact hv
      · exact hv
      · simp at hv
    · refine ⟨lv1, fun j v hv => ?_, texts_to ht1⟩
      rw [cell_of_row _ _ _ _ _ _ hr4]
      rcases j with _ | _ | _ | _ | _ | j
      · exact hv
      · exact hv
      · exact hv
      · exact hv
      · exact hv
      · simp at hv
  have HFx := Lib.hid hfix
  have HBw := Lib.hid hbw4
  have hszw := hbw4.size
  try simp only [Act.put, List.setIfInBounds_toArray, List.set_cons_succ, List.set_cons_zero]
  refine anyG_take (i := 9) 6 (.slice (some ⟨Rb, 0, none⟩) 2 2) rfl rfl (by kernel_rfl) (by kernel_rfl) (by kernel_rfl) rfl (fun _ _ => rfl) hS4 ?_
  simp only [Act.put, List.setIfInBounds_toArray, List.set_cons_succ, List.set_cons_zero]
  refine anyG_done (by kernel_rfl) ?_
  clear hS4 hS3 hr4 ht0 ht1 hbw4 hbx4 hal4 hbd hbd2 hbd3 hb2 hb3 hfix hs0 hRb hp0 hp1
  go_wp2_with fail
  obtain ⟨W7, hW7⟩ : ∃ W7, W7 = ((W4.alloc (.cells #[.int .i64 0, .int .i64 0] 106)).alloc (.cells #[.slice none 0 0, .bool false, .bool false, .int .i64 0, .int .i64 0, .int .i64 0, .slice none 0 0, .bool false, .bool false, .int .i64 0, .int .i64 0, .int .i64 0] 109)).alloc (.cells #[.bool true, .bool true] 4) := ⟨_, rfl⟩
  have hb7 : Below W4.heap.size W4 W7 := by rw [hW7]; exact (((Below.refl _ _).alloc (Nat.le_refl _) _).alloc (by simp) _).alloc (by simp; omega) _
  have h7a : W7.heap[Rb + 1]? = some (.cells #[.int .i64 0, .int .i64 0] 106 (0, 0)) := by
    rw [hW7, Below.heap_alloc _ _ _ (by simp; omega), Below.heap_alloc _ _ _ (by simp; omega), ← hs4]
    exact heap_alloc_last W4 _
  have h7b : W7.heap[Rb + 2]? = some (.cells #[.slice none 0 0, .bool false, .bool false, .int .i64 0, .int .i64 0, .int .i64 0, .slice none 0 0, .bool false, .bool false, .int .i64 0, .int .i64 0, .int .i64 0] 109 (0, 0)) := by
    rw [hW7, Below.heap_alloc _ _ _ (by simp; omega)]
    have := heap_alloc_last (W4.alloc (.cells #[.int .i64 0, .int .i64 0] 106)) (.cells #[.slice none 0 0, .bool false, .bool false, .int .i64 0, .int .i64 0, .int .i64 0, .slice none 0 0, .bool false, .bool false, .int .i64 0, .int .i64 0, .int .i64 0] 109)
    rw [World.size_alloc, hs4] at this
    exact this
  have h7c : W7.heap[Rb + 3]? = some (.cells #[.bool true, .bool true] 4 (0, 0)) := by
    rw [hW7]
    have := heap_alloc_last ((W4.alloc (.cells #[.int .i64 0, .int .i64 0] 106)).alloc (.cells #[.slice none 0 0, .bool false, .bool false, .int .i64 0, .int .i64 0, .int .i64 0, .slice none 0 0, .bool false, .bool false, .int .i64 0, .int .i64 0, .int .i64 0] 109)) (.cells #[.bool true, .bool true] 4)
    rw [World.size_alloc, World.size_alloc, hs4] at this
    exact this
  have hs7 : W7.heap.size = Rb + 4 := by rw [hW7]; simp [hs4]
  rw [← hW7]
  clear hW7
  have hm7 : JMem (Rb + 1) (Rb + 2) (fun _ => 0) (fun _ => []) (fun _ => [.slice none 0 0, .bool false, .bool false, .int .i64 0, .int .i64 0, .int .i64 0]) (fun _ => .slice none 0 0) W7 W7 :=
    ⟨h7a, h7b, fun _ _ => rfl, fun _ _ => rfl, fun _ _ => ⟨none, 0, rfl, fun j b hj => by simp at hj⟩, Frame.refl _ _, by omega⟩
  have hfx7 := HFx.out.frame (Ab := Rb + 1) (Nb := Rb + 2) (Below.toFrame hb7 _) (by omega) (by omega)
  have HFx7 := Lib.hid hfx7
  have HB7 := Lib.hid hb7
  have HBw7 := Lib.hid (HBw.out.trans (hb7.mono hszw))
  have hO7 : OutRel N a (insF [i0, i1]) (Rb + 1) (Rb + 2) W7 (.slice (some ⟨Rb + 1 + 1 + 1, 0, none⟩) 2 2) (.string { data := #[] }) [] (startJ (insF [i0, i1])) (fun _ => 0) (fun _ => []) (fun _ => true) W7 :=
    ⟨⟨_, rfl, ⟨by omega, by omega⟩, fun j hj => by
      rw [cell_of_row _ _ _ _ _ _ h7c]
      obtain rfl | rfl : j = 0 ∨ j = 1 := by omega
      · rfl
      · rfl⟩, rfl, by simp, docJ_start _, _, _, hm7⟩
  have HO7 := Lib.hid hO7
  have HS7 := Lib.hid hs7
  have HS4 := Lib.hid hs4
  have HSw := Lib.hid hszw
  clear hb7 h7a h7b h7c hm7 hfx7 hO7 hs7 hs4 hszw
  go_loopw [9, 10] (fun wv sv wr => ∃ (E : Lines) (t : JT) (at0 : Nat → Nat) (now : Nat → Lines) (wn : Nat → Bool), OutRel N a (insF [i0, i1]) (Rb + 1) (Rb + 2) W7 wv sv E t at0 now wn wr) (fun wv _ wr => 10000 - (wantPos (Rb + 1) (Rb + 2) wv wr 0 + wantPos (Rb + 1) (Rb + 2) wv wr 1))
  case atStart => exact ⟨_, _, _, _, _, HO7.out⟩
  case round =>
    obtain ⟨E, t, at0, now, wn, hor⟩ := hrel
    rename World => WR
    have HPos0 := Lib.hid (hor.pos (j := 0) (by decide))
    have HPos1 := Lib.hid (hor.pos (j := 1) (by decide))
    obtain ⟨⟨Wb, hwv, hwb, hwc⟩, hsv, hrun, hdoc, r, nv, hmem⟩ := hor
    subst hwv hsv
    obtain ⟨SE, hSE⟩ : ∃ S : ByteArray, strV (joinL E) = .string S := ⟨_, rfl⟩
    rw [hSE]
    have HSE := Lib.hid hSE
    have HRun := Lib.hid hrun
    have HWb := Lib.hid hwb
    have HWc := Lib.hid hwc
    have HDoc := Lib.hid hdoc
    have HMem := Lib.hid hmem
    clear hSE hrun hwb hwc hdoc hmem
    go_wp2_with fail
    go_loopw [11] (fun kv wr => ∃ (kk : Nat) (at1 : Nat → Nat) (now1 : Nat → Lines), kv = .int .i64 kk ∧ InRel N a (insF [i0, i1]) (Rb + 1) (Rb + 2) W7 Wb t at0 now wn kk at1 now1 wr) (fun kv _ => 2 - (intOf kv).toNat)
    case atStart => exact ⟨0, at0, now, rfl, by omega, HDoc.out, ⟨_, _, HMem.out⟩, HWc.out, fun j _ => ⟨fun h => absurd h (Nat.not_lt_zero _), fun _ => ⟨rfl, rfl⟩⟩⟩
    case round =>
      obtain ⟨kk, at1, now1, rfl, hin⟩ := hrel
      rename World => WI
      by_cases hk : kk < 2
      · have q0 : (0 : Int) ≤ (kk : Int) := by omega
        have q1 : (kk : Int) < 2 := by omega
        have x0 := hin.want kk hk
        have HIn := Lib.hid hin
        clear hin
        cases hwn : wn kk with
        | false =>
          rw [hwn] at x0
          have HSk := Lib.hid (HIn.out.skip hk hwn)
          clear hwn
          go_wp2_with fail
          go_roundw
          case rel => exact ⟨kk + 1, at1, now1, by go_num, HSk.out⟩
          case measure => simp [intOf]; omega
        | true =>
          rw [hwn] at x0
          obtain ⟨r1, nv1, hm1⟩ := HIn.out.mem
          have HWn := Lib.hid hwn
          obtain ⟨na, nc, hnv, -⟩ := id (hm1.tx kk hk)
          have y0 := hm1.cAt hk
          have y1 : WI.cell? ⟨Rb + 1 + 1, kk * 6, none⟩ = some (.slice na (now1 kk).length nc) := by rw [← hnv]; exact hm1.cVal hk
          have z0 := hm1.frozA kk
          have HM1 := Lib.hid hm1
          have hle1 := HIn.out.doc.le kk hk
          have hle2 : (rdW ((insF [i0, i1]) kk)).length ≤ 4001 := by
            obtain rfl | rfl : kk = 0 ∨ kk = 1 := by omega
            · have := (readL_lines i0.bytes i0.ended (i0.code, i0.stage, i0.id)).2
              have h2 := HL0.out
              show (readL i0.bytes i0.ended (i0.code, i0.stage, i0.id)).1.length ≤ 4001
              omega
            · have := (readL_lines i1.bytes i1.ended (i1.code, i1.stage, i1.id)).2
              have h2 := HL1.out
              show (readL i1.bytes i1.ended (i1.code, i1.stage, i1.id)).1.length ≤ 4001
              omega
          have q2 : IntKind.i64.wrap ((at1 kk : Int) + ((now1 kk).length : Int)) = ((at1 kk + (now1 kk).length : Nat) : Int) := by simp [IntKind.wrap, IntKind.bits, IntKind.signed]; omega
          have HLe1 := Lib.hid hle1
          have HLe2 := Lib.hid hle2
          clear hle1 hle2
          clear hwn hm1
          go_upto_region 11 with fail
          go_still_tail 11, (by kernel_rfl)
          change wpList _ _ _ _ _ WI.drew
          have hbd : Below WI.heap.size WI WI.drew := (Below.refl _ _).drew
          have hmD := HM1.out.below hbd
          have hwD : ∀ j, j < 2 → WI.drew.cell? ⟨Wb, j, none⟩ = some (.bool (wn j)) := HIn.out.want
          have y0 : WI.drew.cell? ⟨Rb + 1, kk, none⟩ = some (.int .i64 (at1 kk)) := y0
          have y1 : WI.drew.cell? ⟨Rb + 1 + 1, kk * 6, none⟩ = some (.slice na (now1 kk).length nc) := y1
          have z0 : WI.drew.frozen? ⟨Rb + 1, kk, none⟩ = false := z0
          have HMD := Lib.hid hmD
          have HWD := Lib.hid hwD
          clear hmD hwD hbd x0
          generalize WI.drew = WD at HMD HWD y0 y1 z0 ⊢
          have HMS := Lib.hid (HMD.out.setAt hk (at1 kk + (now1 kk).length))
          go_upto_region 12 with fail
          have hms := HMS.out
          rw [show Value.int .i64 ((at1 kk + (now1 kk).length : Nat) : Int) = Value.int .i64 ((at1 kk : Int) + ((now1 kk).length : Int)) by rw [Int.natCast_add]] at hms
          have hws : ∀ j, j < 2 → (WD.setCell ⟨Rb + 1, kk, none⟩ (.int .i64 ((at1 kk : Int) + ((now1 kk).length : Int)))).cell? ⟨Wb, j, none⟩ = some (.bool (wn j)) := fun j hj => (Frame.cell WD ⟨Rb + 1, kk, none⟩ (.int .i64 ((at1 kk : Int) + ((now1 kk).length : Int)))).cell? (HWD.out j hj) (fun e => HWb.out.1 e)
          change Code.wp _ _ _ _ (WD.setCell ⟨Rb + 1, kk, none⟩ (.int .i64 ((at1 kk : Int) + ((now1 kk).length : Int))))
          generalize WD.setCell ⟨Rb + 1, kk, none⟩ (.int .i64 ((at1 kk : Int) + ((now1 kk).length : Int))) = WS at hms hws ⊢
          clear y0 y1 z0 HMD HWD HMS HM1
          have hfxS := HFx.out.frame (Ab := Rb + 1) (Nb := Rb + 2) ((Below.toFrame HB7.out _).trans hms.fr) (by have := HS4.out; omega) (by have := HS4.out; omega)
          obtain ⟨lv, hlr, hlt⟩ := hfxS.rd kk hk
          have hP2 : at1 kk + (now1 kk).length ≤ (rdW ((insF [i0, i1]) kk)).length := HLe1.out
          have hcA := hms.cAt hk
          rw [setAt_self] at hcA
          obtain ⟨P, hP⟩ : ∃ P, P = at1 kk + (now1 kk).length := ⟨_, rfl⟩
          rw [← hP] at hcA hP2
          have HP := Lib.hid hP
          have hcN := hfxS.n
          clear hP hfxS q2
          refine anyG_start (S := (fun W : World => W.rangeAt Rb (kk * 5) [lv, .bool (rdOv ((insF [i0, i1]) kk)), .int .i64 (rdErrJ ((insF [i0, i1]) kk)).1, .int .i64 (rdErrJ ((insF [i0, i1]) kk)).2.1, .int .i64 (rdErrJ ((insF [i0, i1]) kk)).2.2] ∧ W.cell? ⟨Rb + 1, kk, none⟩ = some (.int .i64 P) ∧ W.cell? ⟨w.heap.size, 1, none⟩ = some (.int .i64 N))) (by kernel_rfl) ?_
          have hbd : Below WS.heap.size WS WS.drew := (Below.refl _ _).drew
          have hmE := hms.below hbd
          have hwE : ∀ j, j < 2 → WS.drew.cell? ⟨Wb, j, none⟩ = some (.bool (wn j)) := hws
          have hltE := hlt.below hbd
          have hSE : (fun W : World => W.rangeAt Rb (kk * 5) [lv, .bool (rdOv ((insF [i0, i1]) kk)), .int .i64 (rdErrJ ((insF [i0, i1]) kk)).1, .int .i64 (rdErrJ ((insF [i0, i1]) kk)).2.1, .int .i64 (rdErrJ ((insF [i0, i1]) kk)).2.2] ∧ W.cell? ⟨Rb + 1, kk, none⟩ = some (.int .i64 P) ∧ W.cell? ⟨w.heap.size, 1, none⟩ = some (.int .i64 N)) WS.drew := ⟨hlr, hcA, hcN⟩
          clear hms hws hbd hlr hcA hcN hlt
          generalize WS.drew = WE at hmE hwE hltE hSE ⊢
          have HME := Lib.hid hmE
          have HWE := Lib.hid hwE
          clear hmE hwE
          refine anyG_take (i := 0) 50 (.int .i64 kk) rfl rfl (by kernel_rfl) (by kernel_rfl) (by kernel_rfl) rfl (fun _ _ => rfl) hSE ?_
          simp only [Act.put, List.setIfInBounds_toArray, List.set_cons_succ, List.set_cons_zero]
          refine anyG_take (i := 1) 51 (.slice (some ⟨Rb, 0, none⟩) 2 2) rfl rfl (by kernel_rfl) (by kernel_rfl) (by kernel_rfl) rfl (fun _ _ => rfl) hSE ?_
          simp only [Act.put, List.setIfInBounds_toArray, List.set_cons_succ, List.set_cons_zero]
          refine anyG_take (i := 2) 52 (.int .i64 kk) rfl rfl (by kernel_rfl) (by kernel_rfl) (by kernel_rfl) rfl (fun _ _ => rfl) hSE ?_
          simp only [Act.put, List.setIfInBounds_toArray, List.set_cons_succ, List.set_cons_zero]
          refine anyG_take (i := 3) 53 (.pointer (some ⟨Rb, kk * 5, none⟩)) rfl rfl (by kernel_rfl) (by kernel_rfl) (by kernel_rfl) rfl (fun _ _ => by go_simp) hSE ?_
          simp only [Act.put, List.setIfInBounds_toArray, List.set_cons_succ, List.set_cons_zero]
          refine anyG_take (i := 4) 54 (.agg #[lv, .bool (rdOv ((insF [i0, i1]) kk)), .int .i64 (rdErrJ ((insF [i0, i1]) kk)).1, .int .i64 (rdErrJ ((insF [i0, i1]) kk)).2.1, .int .i64 (rdErrJ ((insF [i0, i1]) kk)).2.2]) rfl rfl (by kernel_rfl) (by kernel_rfl) (by kernel_rfl) rfl (fun W hW => exec_load_mid 103 (.tmp 53) rfl Rb (kk * 5) rfl _ _ hW.1 Tryd.underlying103 rfl (by kernel_rfl)) hSE ?_
          simp only [Act.put, List.setIfInBounds_toArray, List.set_cons_succ, List.set_cons_zero]
          refine anyG_take (i := 5) 55 (.int .i64 kk) rfl rfl (by kernel_rfl) (by kernel_rfl) (by kernel_rfl) rfl (fun _ _ => rfl) hSE ?_
          simp only [Act.put, List.setIfInBounds_toArray, List.set_cons_succ, List.set_cons_zero]
          refine anyG_take (i := 6) 56 (.pointer (some ⟨Rb + 1, kk, none⟩)) rfl rfl (by kernel_rfl) (by kernel_rfl) (by kernel_rfl) rfl (fun _ _ => by go_simp) hSE ?_
          simp only [Act.put, List.setIfInBounds_toArray, List.set_cons_succ, List.set_cons_zero]
          refine anyG_take (i := 7) 57 (.int .i64 P) rfl rfl (by kernel_rfl) (by kernel_rfl) (by kernel_rfl) rfl (fun W hW => by have hc := hW.2.1; go_simp) hSE ?_
          simp only [Act.put, List.setIfInBounds_toArray, List.set_cons_succ, List.set_cons_zero]
          refine anyG_take (i := 8) 58 (.pointer (some ⟨w.heap.size, 1, none⟩)) rfl rfl (by kernel_rfl) (by kernel_rfl) (by kernel_rfl) rfl (fun _ _ => by go_simp) hSE ?_
          simp only [Act.put, List.setIfInBounds_toArray, List.set_cons_succ, List.set_cons_zero]
          refine anyG_take (i := 9) 59 (.int .i64 N) rfl rfl (by kernel_rfl) (by kernel_rfl) (by kernel_rfl) rfl (fun W hW => by have hc := hW.2.2; go_simp) hSE ?_
          simp only [Act.put, List.setIfInBounds_toArray, List.set_cons_succ, List.set_cons_zero]
          refine anyG_take (i := 10) 60 (.int .u8 a.toNat) rfl rfl (by kernel_rfl) (by kernel_rfl) (by kernel_rfl) rfl (fun _ _ => rfl) hSE ?_
          simp only [Act.put, List.setIfInBounds_toArray, List.set_cons_succ, List.set_cons_zero]
          have hreads := HIn.out.doc.reads hk HWn.out
          rw [← HP.out] at hreads
          have hrd := docRead_any N a lv (rdW ((insF [i0, i1]) kk)) (rdOv ((insF [i0, i1]) kk)) (rdErrJ ((insF [i0, i1]) kk)) P WE h1 h14 hltE (by have := HLe2.out; omega) (fun l hl => by have := (readL_lines ((insF [i0, i1]) kk).bytes ((insF [i0, i1]) kk).ended (((insF [i0, i1]) kk).code, ((insF [i0, i1]) kk).stage, ((insF [i0, i1]) kk).id)).1 l hl; omega) hP2
          rw [← hreads] at hrd
          have HRd := Lib.hid hrd
          clear hreads hrd hltE
          generalize hR : sideR N a t kk = R at HRd
          have HR := Lib.hid hR
          clear hR
          refine anyG_step (i := 11) rfl (by kernel_rfl) rfl (fun K hK => ?_)
          go_simp
          refine HRd.out.mono ?_
          rintro e W2 ⟨v, c, sg, id, rfl, hown, hb2, e0, e3, e4⟩
          obtain ⟨av, cv, rfl⟩ := Pm.owns_slice hown
          have hm2 := HME.out.below hb2
          have hw2 : ∀ j, j < 2 → W2.cell? ⟨Wb, j, none⟩ = some (.bool (wn j)) := fun j hj => by
            have hc := HWE.out j hj
            rw [hb2.cell (block_lt_of_cell hc)]
            exact hc
          have hS2 : (fun W : World => W.rangeAt Rb (kk * 5) [lv, .bool (rdOv ((insF [i0, i1]) kk)), .int .i64 (rdErrJ ((insF [i0, i1]) kk)).1, .int .i64 (rdErrJ ((insF [i0, i1]) kk)).2.1, .int .i64 (rdErrJ ((insF [i0, i1]) kk)).2.2] ∧ W.cell? ⟨Rb + 1, kk, none⟩ = some (.int .i64 P) ∧ W.cell? ⟨w.heap.size, 1, none⟩ = some (.int .i64 N)) W2 := ⟨range_below hSE.1 hb2, by rw [hb2.cell (block_lt_of_cell hSE.2.1)]; exact hSE.2.1, by rw [hb2.cell (block_lt_of_cell hSE.2.2)]; exact hSE.2.2⟩
          have htx : IsTexts (fun b => b ≠ Rb + 1 ∧ b ≠ Rb + 2) W2 (.slice av R.2.1.length cv) R.2.1 := texts_past (isTexts_of_owns hown) HME.out.lt.1 HME.out.lt.2
          have E0 := Lib.hid e0
          have E3 := Lib.hid e3
          have E4 := Lib.hid e4
          refine hK.out _ _ hS2 ?_
          clear hK K hown hb2 e0 e3 e4 hSE HRd
          try simp only [Act.put, List.setIfInBounds_toArray, List.set_cons_succ, List.set_cons_zero]
          generalize hno : decide (R.2.2 = 2) = no
          generalize hwh : decide (R.2.2 = 1) = wh
          have HNo := Lib.hid hno
          have HWh := Lib.hid hwh
          clear hno hwh
          refine anyG_take (i := 12) 62 (.pointer (some ⟨Rb + 1 + 1, kk * 6, none⟩)) rfl rfl (by kernel_rfl) (by kernel_rfl) (by kernel_rfl) rfl (fun _ _ => by go_simp) hS2 ?_
          simp only [Act.put, List.setIfInBounds_toArray, List.set_cons_succ, List.set_cons_zero]
          have hm3 := hm2.setNow hk [.slice av R.2.1.length cv, .bool no, .bool wh, .int .i64 c, .int .i64 sg, .int .i64 id] (.slice av R.2.1.length cv) R.2.1 rfl rfl htx
          have hfc := Frame.cells (w := W2) (Rb + 2) (kk * 6) [.slice av R.2.1.length cv, .bool no, .bool wh, .int .i64 c, .int .i64 sg, .int .i64 id]
          have hw3 : ∀ j, j < 2 → (W2.setCells (Rb + 2) (kk * 6) [.slice av R.2.1.length cv, .bool no, .bool wh, .int .i64 c, .int .i64 sg, .int .i64 id]).cell? ⟨Wb, j, none⟩ = some (.bool (wn j)) := fun j hj => hfc.cell? (hw2 j hj) (fun e => HWb.out.2 e)
          have hS3 : (fun W : World => W.rangeAt Rb (kk * 5) [lv, .bool (rdOv ((insF [i0, i1]) kk)), .int .i64 (rdErrJ ((insF [i0, i1]) kk)).1, .int .i64 (rdErrJ ((insF [i0, i1]) kk)).2.1, .int .i64 (rdErrJ ((insF [i0, i1]) kk)).2.2] ∧ W.cell? ⟨Rb + 1, kk, none⟩ = some (.int .i64 P) ∧ W.cell? ⟨w.heap.size, 1, none⟩ = some (.int .i64 N)) (W2.setCells (Rb + 2) (kk * 6) [.slice av R.2.1.length cv, .bool no, .bool wh, .int .i64 c, .int .i64 sg, .int .i64 id]) :=
            ⟨fun j x hx => hfc.cell? (hS2.1 j x hx) (fun e => by have e' : Rb = Rb + 2 := e; omega), hfc.cell? hS2.2.1 (fun e => by have e' : Rb + 1 = Rb + 2 := e; omega), hfc.cell? hS2.2.2 (fun e => by have e' : w.heap.size = Rb + 2 := e; have := HSw.out; have := HS4.out; omega)⟩
          refine anyG_step (i := 13) rfl (by kernel_rfl) rfl (fun K hK => ?_)
          refine wp_store_mid 108 (.tmp 62) (.tmp 61) rfl (Rb + 1 + 1) (kk * 6) (groupV (.slice av R.2.1.length cv) no wh c sg id) rfl rfl (hm2.there hk) (by kernel_rfl) (by simp [groupV, Value.oneCell']) ?_
          refine hK.out _ _ hS3 ?_
          clear hK K
          change AnyG _ _ _ _ _ _ _ _ (W2.setCells (Rb + 2) (kk * 6) [.slice av R.2.1.length cv, .bool no, .bool wh, .int .i64 c, .int .i64 sg, .int .i64 id])
          clear hS3 hS2 hfc hm2 hw2 htx
          generalize W2.setCells (Rb + 2) (kk * 6) [.slice av R.2.1.length cv, .bool no, .bool wh, .int .i64 c, .int .i64 sg, .int .i64 id] = W3 at hm3 hw3 ⊢
          try simp only [Act.put, List.setIfInBounds_toArray]
          refine anyG_done (by kernel_rfl) ?_
          have u1 : W3.cell? ⟨Rb + 1 + 1, kk * 6 + 1, none⟩ = some (.bool no) := hm3.cNow hk (i := 1) (by rw [setAt_self]; rfl)
          have u2 : W3.cell? ⟨Rb + 1 + 1, kk * 6 + 2, none⟩ = some (.bool wh) := hm3.cNow hk (i := 2) (by rw [setAt_self]; rfl)
          have u3 : W3.cell? ⟨Rb + 1 + 1, kk * 6 + 3, none⟩ = some (.int .i64 c) := hm3.cNow hk (i := 3) (by rw [setAt_self]; rfl)
          have u4 : W3.cell? ⟨Rb + 1 + 1, kk * 6 + 4, none⟩ = some (.int .i64 sg) := hm3.cNow hk (i := 4) (by rw [setAt_self]; rfl)
          have u5 : W3.cell? ⟨Rb + 1 + 1, kk * 6 + 5, none⟩ = some (.int .i64 id) := hm3.cNow hk (i := 5) (by rw [setAt_self]; rfl)
          have HM3 := Lib.hid hm3
          have HW3 := Lib.hid hw3
          clear hm3 hw3
          by_cases c2 : R.2.2 = 2
          · obtain rfl : no = true := by rw [← HNo.out, c2]; rfl
            have hT := HIn.out.none hk (by rw [HR.out]; exact c2) HRun.out
            rw [← HT.out] at hT
            have ho := out_any (joinL E) true 0 0 0 W3
            rw [HSE.out] at ho
            have HO := Lib.hid ho
            have hbw3 := HBw7.out.trans (HM3.out.fr.below (by have := HS7.out; have := HSw.out; have := HS4.out; omega) (fun k hk => by have := HSw.out; have := HS4.out; omega))
            have HBW3 := Lib.hid hbw3
            have HTT := Lib.hid hT
            clear ho hT c2 u2 u3 u4 u5 hbw3
            go_wp2_with fail
            refine HO.out.mono ?_
            rintro e w9 ho9
            have hd := ho9.lower HBW3.out
            obtain ⟨v9, rfl, h9, hb9⟩ := hd
            clear ho9
            go_wp2_with fail
            go_ret
            rw [HTT.out]
            exact ⟨_, rfl, h9, hb9⟩
          · obtain rfl : no = false := by rw [← HNo.out]; exact decide_eq_false c2
            by_cases c1 : R.2.2 = 1
            · obtain rfl : wh = true := by rw [← HWh.out, c1]; rfl
              have hm3 := HM3.out
              have hc1 : (sideR N a t kk).2.2 = 1 := by rw [HR.out]; exact c1
              rw [← HR.out] at hm3
              have HNx := Lib.hid (HIn.out.read hk HWn.out hc1 ⟨_, _, hm3⟩ HW3.out)
              clear hm3 hc1 c1 c2 u3 u4 u5
              go_wp2_with fail
              go_roundw
              case rel => exact ⟨kk + 1, _, _, by go_num, HNx.out⟩
              case measure => simp [intOf]; omega
            · obtain rfl : wh = false := by rw [← HWh.out]; exact decide_eq_false c1
              have hT := HIn.out.stops hk (by rw [HR.out]; exact c1) (by rw [HR.out]; exact c2) HRun.out (c := c) (s := sg) (i := id) (by rw [HR.out]; exact E0.out) (by rw [HR.out]; exact E3.out) (by rw [HR.out]; exact E4.out)
              rw [← HT.out] at hT
              have ho := out_any (joinL E) false c sg id W3
              rw [HSE.out] at ho
              have HO := Lib.hid ho
              have hbw3 := HBw7.out.trans (HM3.out.fr.below (by have := HS7.out; have := HSw.out; have := HS4.out; omega) (fun k hk => by have := HSw.out; have := HS4.out; omega))
              have HBW3 := Lib.hid hbw3
              have HTT := Lib.hid hT
              clear ho hT c1 c2 hbw3
              go_wp2_with fail
              refine HO.out.mono ?_
              rintro e w9 ho9
              have hd := ho9.lower HBW3.out
              obtain ⟨v9, rfl, h9, hb9⟩ := hd
              clear ho9
              go_wp2_with fail
              go_ret
              rw [HTT.out]
              exact ⟨_, rfl, h9, hb9⟩
      · obtain rfl : kk = 2 := by have := hin.le; omega
        obtain ⟨r1, nv1, hm1⟩ := hin.mem
        obtain ⟨-, -, -, -, ne0, ne1⟩ := hin.doc.both
        obtain ⟨f0a, f0b, f0c⟩ := hin.doc.fits h1 0 (by decide)
        obtain ⟨f1a, f1b, f1c⟩ := hin.doc.fits h1 1 (by decide)
        obtain ⟨x, X, hx⟩ : ∃ x X, now1 0 = x :: X := by
          cases hG : now1 0 with
          | nil => exact absurd hG ne0
          | cons x X => exact ⟨x, X, rfl⟩
        obtain ⟨y, Y, hy⟩ : ∃ y Y, now1 1 = y :: Y := by
          cases hG : now1 1 with
          | nil => exact absurd hG ne1
          | cons y Y => exact ⟨y, Y, rfl⟩
        obtain ⟨na0, nc0, hnv0, ht0⟩ := id (hm1.tx 0 (by decide))
        obtain ⟨na1, nc1, hnv1, ht1⟩ := id (hm1.tx 1 (by decide))
        obtain ⟨gb0, of0, rfl, -, hx0⟩ := ht0 0 x (by rw [hx]; rfl)
        obtain ⟨gb1, of1, rfl, -, hx1⟩ := ht1 0 y (by rw [hy]; rfl)
        rw [Nat.add_zero] at hx0 hx1
        have y0 : WI.cell? ⟨Rb + 1 + 1, 0, none⟩ = some (.slice (some ⟨gb0, of0, none⟩) (now1 0).length nc0) := by rw [← hnv0]; exact hm1.cVal (j := 0) (by decide)
        have y1 : WI.cell? ⟨Rb + 1 + 1, 6, none⟩ = some (.slice (some ⟨gb1, of1, none⟩) (now1 1).length nc1) := by rw [← hnv1]; exact hm1.cVal (j := 1) (by decide)
        have k0 : keyG a (now1 0) = keyL a x := by rw [hx]; rfl
        have k1 : keyG a (now1 1) = keyL a y := by rw [hy]; rfl
        have l0 : x.length ≤ 64 := f0b x (by rw [hx]; exact List.mem_cons_self)
        have l1 : y.length ≤ 64 := f1b y (by rw [hy]; exact List.mem_cons_self)
        have p0 : 0 < (now1 0).length := List.length_pos_iff.2 ne0
        have p1 : 0 < (now1 1).length := List.length_pos_iff.2 ne1
        obtain ⟨SX, hSX⟩ : ∃ S : ByteArray, strV x = .string S := ⟨_, rfl⟩
        obtain ⟨SY, hSY⟩ : ∃ S : ByteArray, strV y = .string S := ⟨_, rfl⟩
        obtain ⟨S0, hS0⟩ : ∃ S : ByteArray, strV (keyG a (now1 0)) = .string S := ⟨_, rfl⟩
        obtain ⟨S1, hS1⟩ : ∃ S : ByteArray, strV (keyG a (now1 1)) = .string S := ⟨_, rfl⟩
        obtain ⟨R0, hR0⟩ : ∃ S : ByteArray, strV (restL a x) = .string S := ⟨_, rfl⟩
        obtain ⟨R1, hR1⟩ : ∃ S : ByteArray, strV (restL a y) = .string S := ⟨_, rfl⟩
        have kl0 : (keyG a (now1 0)).length ≤ 64 := by rw [k0]; have := key_rest_len a x; omega
        have hky0 := docKey_any a x WI (by omega)
        rw [← k0, hSX, hS0, hR0] at hky0
        have hky1 := fun n => docKey_any a y (WI.drewN n) (by omega)
        rw [← k1, hSY, hS1, hR1] at hky1
        rw [hSX] at hx0
        rw [hSY] at hx1
        have HKy0 := Lib.hid hky0
        have HKy1 := Lib.hid hky1
        have HIn := Lib.hid hin
        have HM1 := Lib.hid hm1
        have HF0 := Lib.hid (And.intro f0a (And.intro f0b f0c))
        have HF1 := Lib.hid (And.intro f1a (And.intro f1b f1c))
        have HS0 := Lib.hid hS0
        have HS1 := Lib.hid hS1
        have HKl := Lib.hid kl0
        have HNv0 := Lib.hid hnv0
        have HNv1 := Lib.hid hnv1
        clear hky0 hky1 hin hm1 f0a f0b f0c f1a f1b f1c hx hy ne0 ne1 ht0 ht1 k0 k1 l0 l1 hSX hSY hS0 hS1 hR0 hR1 kl0 hnv0 hnv1
        go_wp2_with fail
        refine HKy0.out.mono ?_
        rintro e w1 ⟨rfl, n1, rfl⟩
        have hx1 : (WI.drewN n1).cell? ⟨gb1, of1, none⟩ = some (.string SY) := hx1
        have y0 : (WI.drewN n1).cell? ⟨Rb + 1 + 1, 0, none⟩ = some (.slice (some ⟨gb0, of0, none⟩) (now1 0).length nc0) := y0
        have y1 : (WI.drewN n1).cell? ⟨Rb + 1 + 1, 6, none⟩ = some (.slice (some ⟨gb1, of1, none⟩) (now1 1).length nc1) := y1
        have HKy := Lib.hid (HKy1.out n1)
        have HMJ := Lib.hid (HM1.out.below (wr' := WI.drewN n1) ⟨rfl, rfl, rfl, Nat.le_refl _, fun _ _ => rfl⟩)
        clear HKy0 HKy1 hx0
        generalize WI.drewN n1 = W1 at hx1 y0 y1 HKy HMJ ⊢
        go_wp2_with fail
        refine HKy.out.mono ?_
        rintro e w2 ⟨rfl, n2, rfl⟩
        have y0 : (W1.drewN n2).cell? ⟨Rb + 1 + 1, 0, none⟩ = some (.slice (some ⟨gb0, of0, none⟩) (now1 0).length nc0) := y0
        have y1 : (W1.drewN n2).cell? ⟨Rb + 1 + 1, 6, none⟩ = some (.slice (some ⟨gb1, of1, none⟩) (now1 1).length nc1) := y1
        have HMK := Lib.hid (HMJ.out.below (wr' := W1.drewN n2) ⟨rfl, rfl, rfl, Nat.le_refl _, fun _ _ => rfl⟩)
        clear HKy HMJ hx1
        generalize W1.drewN n2 = W2 at y0 y1 HMK ⊢
        obtain ⟨d1, d2⟩ := str_less HS0.out HS1.out
        obtain ⟨d3, d4⟩ := str_less HS1.out HS0.out
        by_cases he : keyG a (now1 0) = keyG a (now1 1)
        · have HE := Lib.hid he
          have tx0 := HMK.out.tx 0 (by decide)
          have tx1 := HMK.out.tx 1 (by decide)
          rw [HNv0.out] at tx0
          rw [HNv1.out] at tx1
          have hp := docPairs_any a (keyG a (now1 0)) (now1 0) (now1 1) _ _ W2 (by have := HF0.out.1; omega) (by have := HF1.out.1; omega) HF0.out.2.1 HF1.out.2.1 HF0.out.2.2 HKl.out tx0 tx1
          obtain ⟨SP, hSP⟩ : ∃ S : ByteArray, strV (joinL (pairsJ a (now1 0) (now1 1))) = .string S := ⟨_, rfl⟩
          rw [hSP, HS0.out] at hp
          have HP := Lib.hid hp
          have htold : toldN a now1 = pairsJ a (now1 0) (now1 1) := if_pos he
          obtain ⟨t', hset, hdn⟩ := HIn.out.doc.meets h1
          have hrun2 : settleJ N a (startJ (insF [i0, i1])) = ((E ++ toldN a now1) ++ (settleJ N a t').1, (settleJ N a t').2) := by rw [HRun.out, hset, List.append_assoc]
          have hs2 : strV (joinL (E ++ toldN a now1)) = .string (SE ++ SP) := by rw [joinL_append, htold]; exact strV_add HSE.out hSP
          have hbig : SE.size + SP.size ≤ 10000000 := by
            have z := strV_size hs2
            rw [ByteArray.size_append] at z
            have h2 := HTot.out
            rw [hrun2] at h2
            simp only at h2
            rw [joinL_append, List.length_append] at h2
            omega
          have a1 := add_fits (S := SE) (T := SP) (by omega) (by omega)
          have e1 : (S0.toList == S1.toList) = true := by rw [d2]; exact decide_eq_true he
          have e2 : (S1.toList == S0.toList) = true := by rw [d4]; exact decide_eq_true he.symm
          have w0 : wantsN a now1 0 = true := by simp [wantsN, he]
          have w1 : wantsN a now1 1 = true := by simp [wantsN, he]
          have HRun2 := Lib.hid hrun2
          have HS2 := Lib.hid hs2
          have HDn := Lib.hid hdn
          have HW0 := Lib.hid w0
          have HW1 := Lib.hid w1
          clear hp hSP htold hset hdn hrun2 hs2 hbig tx0 tx1 w0 w1 he
          go_wp2_with fail
          refine HP.out.mono ?_
          rintro e W3 ⟨rfl, hb3⟩
          have HMN := Lib.hid (HMK.out.below hb3)
          clear hb3 y0 y1
          go_wp2_with fail
          have ho := OutRel.next HDn.out HMN.out HRun2.out HW0.out HW1.out HS2.out
          exact ⟨⟨_, _, _, _, _, ho⟩, ho.less HIn.out HPos0.out HPos1.out HLens.out⟩
        · have htold : toldN a now1 = [] := if_neg he
          obtain ⟨t', hset, hdn⟩ := HIn.out.doc.meets h1
          have hrun2 : settleJ N a (startJ (insF [i0, i1])) = (E ++ (settleJ N a t').1, (settleJ N a t').2) := by rw [HRun.out, hset, htold]; rfl
          have e1 : (S0.toList == S1.toList) = false := by rw [d2]; exact decide_eq_false he
          have e2 : (S1.toList == S0.toList) = false := by rw [d4]; exact decide_eq_false (fun e => he e.symm)
          have w0 : wantsN a now1 0 = lessL (keyG a (now1 0)) (keyG a (now1 1)) := by simp [wantsN, he]
          have w1 : wantsN a now1 1 = lessL (keyG a (now1 1)) (keyG a (now1 0)) := by simp [wantsN, he]
          have HRun2 := Lib.hid hrun2
          have HDn := Lib.hid hdn
          have HW0 := Lib.hid w0
          have HW1 := Lib.hid w1
          clear htold hset hdn hrun2 w0 w1 he d2 d4
          go_wp2_with fail
          have ho := OutRel.next HDn.out HMK.out HRun2.out HW0.out HW1.out HSE.out
          exact ⟨⟨_, _, _, _, _, ho⟩, ho.less HIn.out HPos0.out HPos1.out HLens.out⟩

/-! What join comes to is what the document says. -/
theorem rdErrJ_bad {i : Strm} (h : rdBad i = true) : rdErrJ i = (20, -1, 0) := by
  unfold rdBad at h
  rcases hc : cutL [] i.bytes with ⟨L, _ | d⟩
  · unfold rdErrJ readL
    rw [hc]
  · rw [hc] at h; cases h
theorem rdErrJ_open {i : Strm} (h : rdBad i = false) (ho : rdOv i = false) : rdErrJ i = (i.code, i.stage, i.id) := by
  unfold rdBad at h
  rcases hc : cutL [] i.bytes with ⟨L, _ | d⟩
  · rw [hc] at h; cases h
  · cases he : i.ended with
    | true => rw [(rd_ended hc he).2.1] at ho; cases ho
    | false => unfold rdErrJ readL; rw [hc, he]; rfl
theorem join_case (N : Nat) (A B : List UInt8) (ins : List Strm) (g : GotL) (hlen : ins.length = joinIns N) (h1 : g.outs = (joinFin N A B ins).outs) (h2 : g.need = (joinFin N A B ins).need) (h3 : g.err = (joinFin N A B ins).err) :
    g.outs 0 = (joinWant N A B ins).bytes ∧ g.outs 1 = [] ∧ g.outs 2 = [] ∧ g.outs 3 = [] ∧ SameCase g ins (joinWant N A B ins) := by
  have hb : (joinWant N A B ins).bytes = joinL (settleJ N (A.headD 0) (startJ (insF ins))).1 := by
    unfold joinWant joinWantF
    split
    · rfl
    · split <;> rfl
    · rfl
  refine ⟨by rw [h1, hb]; rfl, by rw [h1]; rfl, by rw [h1]; rfl, by rw [h1]; rfl, ?_⟩
  have hst := settleJ_stops (N := N) (a := A.headD 0) (startJ (insF ins))
  have hov := settle_ov (N := N) (a := A.headD 0) (startJ (insF ins))
  unfold SameCase joinWant joinWantF
  have hn : g.need = joinNeed (settleJ N (A.headD 0) (startJ (insF ins))) (insF ins) := h2
  have he : g.err = joinErr (settleJ N (A.headD 0) (startJ (insF ins))) (insF ins) := h3
  unfold joinNeed at hn
  unfold joinErr at he
  generalize settleJ N (A.headD 0) (startJ (insF ins)) = R at hst hov hn he ⊢
  rcases hst with ⟨p, hp, h, -, ho⟩ | ⟨e, h⟩
  · rw [h] at hn he ⊢
    simp only at hn he ⊢
    obtain ⟨i, hi⟩ : ∃ i, ins[p]? = some i := ⟨ins[p]'(by rw [hlen]; exact hp), List.getElem?_eq_getElem _⟩
    have hF := insF_at hi
    have hov2 : rdOv i = false := by
      rw [hov] at ho
      rw [← hF]
      exact ho
    rw [hF] at hn he ⊢
    by_cases hbad : rdBad i = true
    · rw [if_pos hbad] at hn he
      rw [rdErrJ_bad hbad]
      exact .inr (.inl ⟨by trivial, hn, by omega, by show (20 : Int) = g.err; omega⟩)
    · rw [if_neg hbad] at hn he
      rw [rdErrJ_open (by simpa using hbad) hov2]
      exact .inr (.inr ⟨by trivial, he, _, i, hn, hi, rfl, rfl, rfl⟩)
  · rw [h] at hn he ⊢
    simp only at hn he ⊢
    by_cases hz : e = 0
    · rw [if_pos hz]
      exact .inl ⟨by trivial, hn, by omega⟩
    · rw [if_neg hz]
      exact .inr (.inl ⟨by trivial, hn, by omega, by show e = g.err; omega⟩)

end Go.Proofs.YtchepmikbnnnhaaDoor
