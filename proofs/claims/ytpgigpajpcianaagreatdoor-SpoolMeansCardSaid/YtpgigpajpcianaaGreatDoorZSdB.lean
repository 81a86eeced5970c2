/- The document's merge, plainly: into 0 a line is told, into a file it is written. No conditions. -/
import Derived.Test.YtpgigpajpcianaaGreatDoorZSdA
import Derived.Test.YtpgigpajpcianaaGreatDoorZSpF
import Derived.Deep.MidRow
import Derived.Deep.DeepCutAuto
namespace Go.Proofs.YtpgigpajpcianaaGreatDoor
open Go.RowKit

section
variable (S : Script) (F : Bool) (into : Int)
def emitE (d : DSt) (l : List UInt8) : Int := if 0 < into then writeE S d into (l ++ [10]) else 0
def emitS (d : DSt) (l : List UInt8) : DSt := if 0 < into then writeS S d into (l ++ [10]) else d
def emitT (t l : List UInt8) : List UInt8 := if 0 < into then t else t ++ l ++ [10]
def goA : Nat → DSt → List UInt8 → List Rn → DSt × List UInt8 × Int
  | 0, d, t, _ => (d, t, 0)
  | f + 1, d, t, rs => match leastOf F rs with
    | none => (d, t, 0)
    | some (k, l) => if emitE S into d l ≠ 0 then (emitS S into d l, t, emitE S into d l)
      else if (readAt S (emitS S into d l) rs k).2.2 ≠ 0 then ((readAt S (emitS S into d l) rs k).1, emitT into t l, (readAt S (emitS S into d l) rs k).2.2)
      else goA f (readAt S (emitS S into d l) rs k).1 (emitT into t l) (readAt S (emitS S into d l) rs k).2.1
def docM (f : Nat) (s : DSt) (t : List UInt8) (runs : List Int) : DSt × List UInt8 × Int :=
  if (readAll S s (runs.map fresh)).2.2 ≠ 0 then ((readAll S s (runs.map fresh)).1, t, (readAll S s (runs.map fresh)).2.2)
  else if (goA S F into f (readAll S s (runs.map fresh)).1 t (readAll S s (runs.map fresh)).2.1).2.2 ≠ 0 then goA S F into f (readAll S s (runs.map fresh)).1 t (readAll S s (runs.map fresh)).2.1
  else ((removeAll S (goA S F into f (readAll S s (runs.map fresh)).1 t (readAll S s (runs.map fresh)).2.1).1 (runs.map fresh)).1, (goA S F into f (readAll S s (runs.map fresh)).1 t (readAll S s (runs.map fresh)).2.1).2.1, (removeAll S (goA S F into f (readAll S s (runs.map fresh)).1 t (readAll S s (runs.map fresh)).2.1).1 (runs.map fresh)).2)
def IvOk (Iv : Nat → DSt → List UInt8 → List Rn → Prop) : Prop := ∀ gh d t rs, Iv gh d t rs → rs.length ≤ 3 ∧ SmallD 900000 900000 d ∧ t.length ≤ 2000000 ∧
  ∀ k l, leastOf F rs = some (k, l) → 0 < gh ∧ l.length ≤ 64 ∧ (∀ r, rs[k]? = some r → r.at' ≤ 900000) ∧ (emitE S into d l = 0 → SmallD 900000 900000 (emitS S into d l) ∧
    ((readAt S (emitS S into d l) rs k).2.2 = 0 → Iv (gh - 1) (readAt S (emitS S into d l) rs k).1 (emitT into t l) (readAt S (emitS S into d l) rs k).2.1))
end
section
variable {S : Script} {F : Bool} {into : Int}
theorem goA_none (f : Nat) (d : DSt) (t : List UInt8) (rs : List Rn) (hl : leastOf F rs = none) : goA S F into f d t rs = (d, t, 0) := by
  cases f with
  | zero => rfl
  | succ f => rw [goA, hl]
theorem goA_some (f : Nat) (d : DSt) (t : List UInt8) (rs : List Rn) {k : Nat} {l : List UInt8} (hl : leastOf F rs = some (k, l)) : goA S F into (f + 1) d t rs = if emitE S into d l ≠ 0 then (emitS S into d l, t, emitE S into d l)
      else if (readAt S (emitS S into d l) rs k).2.2 ≠ 0 then ((readAt S (emitS S into d l) rs k).1, emitT into t l, (readAt S (emitS S into d l) rs k).2.2)
      else goA S F into f (readAt S (emitS S into d l) rs k).1 (emitT into t l) (readAt S (emitS S into d l) rs k).2.1 := by
  rw [goA, hl]
theorem goA_tell : ∀ (f : Nat) (d : DSt) (t : List UInt8) (rs : List Rn), goA S F 0 f d t rs = ((tellGo S F f d rs).1, t ++ joinL (tellGo S F f d rs).2.1, (tellGo S F f d rs).2.2)
  | 0, d, t, rs => by show (d, t, (0 : Int)) = (d, t ++ [], 0); rw [List.append_nil]
  | f + 1, d, t, rs => by
    cases hl : leastOf F rs with
    | none => rw [goA_none _ d t rs hl, tellGo_none _ d rs hl]; show (d, t, (0 : Int)) = (d, t ++ [], 0); rw [List.append_nil]
    | some p =>
      obtain ⟨k, l⟩ := p
      rw [goA_some f d t rs hl, tellGo_succ f d rs hl]
      have e1 : emitE S 0 d l = 0 := rfl
      have e2 : emitS S 0 d l = d := rfl
      have e3 : emitT 0 t l = t ++ l ++ [10] := rfl
      rw [e1, e2, e3, if_neg (by decide)]
      by_cases h0 : (readAt S d rs k).2.2 ≠ 0
      · rw [if_pos h0, if_pos h0]
        simp [joinL]
      · rw [if_neg h0, if_neg h0, goA_tell f]
        simp [joinL]
theorem goA_merge (h : 0 < into) : ∀ (f : Nat) (d : DSt) (t : List UInt8) (rs : List Rn), goA S F into f d t rs = ((mergeGo S F into f d rs).1, t, (mergeGo S F into f d rs).2.2)
  | 0, d, t, rs => rfl
  | f + 1, d, t, rs => by
    cases hl : leastOf F rs with
    | none => rw [goA_none _ d t rs hl, mergeGo_succ, hl]
    | some p =>
      obtain ⟨k, l⟩ := p
      rw [goA_some f d t rs hl, mergeGo_succ, hl]
      have e1 : emitE S into d l = writeE S d into (l ++ [10]) := if_pos h
      have e2 : emitS S into d l = writeS S d into (l ++ [10]) := if_pos h
      have e3 : emitT into t l = t := if_pos h
      rw [e1, e2, e3]
      simp only
      by_cases h1 : writeE S d into (l ++ [10]) ≠ 0
      · rw [if_pos h1, if_pos h1]
      · rw [if_neg h1, if_neg h1]
        by_cases h0 : (readAt S (writeS S d into (l ++ [10])) rs k).2.2 ≠ 0
        · rw [if_pos h0, if_pos h0]
        · rw [if_neg h0, if_neg h0, goA_merge h f]
def IvTell (F : Bool) (gh : Nat) (d : DSt) (t : List UInt8) (rs : List Rn) : Prop := ∃ Ls, TM F d rs Ls ∧ lsum Ls = gh ∧ t.length + 65 * gh ≤ 2000000
theorem ivTell_ok : IvOk S F 0 (IvTell F) := by
  rintro gh d t rs ⟨Ls, h, hg, ht⟩
  refine ⟨h.l3, ⟨by have := h.n; omega, h.T, fun x hx => by have := h.t x hx; omega⟩, by omega, fun k l hk => ?_⟩
  obtain ⟨L, a1, a2, -, -, a3, a4, a5⟩ := tm_step (S := S) h hk
  have hs := (sum_tail a1).1
  refine ⟨by omega, a2, fun r hr => by have := (h.each r (List.mem_of_getElem? hr)).1; omega, fun _ => ⟨?_, fun h0 => ?_⟩⟩
  · show SmallD 900000 900000 d
    exact ⟨by have := h.n; omega, h.T, fun x hx => by have := h.t x hx; omega⟩
  · have h0 : (readAt S d rs k).2.2 = 0 := h0
    have e : (readAt S d rs k).1 = cntS S d := a3
    show IvTell F (gh - 1) (readAt S d rs k).1 (t ++ l ++ [10]) (readAt S d rs k).2.1
    rw [e]
    refine ⟨_, a5 (a4 ▸ h0), by omega, ?_⟩
    simp only [List.length_append, List.length_cons, List.length_nil]
    omega
def IvFile (into : Int) (gh : Nat) (d : DSt) (t : List UInt8) (rs : List Rn) : Prop := ∃ Ls x, MS into d rs Ls x ∧ lsum Ls = gh ∧ d.n + 2 * gh ≤ 800000 ∧ d.T.length ≤ 64 ∧ (∀ y ∈ d.T, y.1.length ≤ 800000) ∧ x.length + wsum Ls ≤ 800000 ∧ rs.length ≤ 3 ∧ t.length ≤ 2000000
theorem ivFile_ok (h0 : 0 < into) : IvOk S F into (IvFile into) := by
  rintro gh d t rs ⟨Ls, x, h, hg, hn, hT, ht, hx, h3, htl⟩
  refine ⟨h3, ⟨by omega, hT, fun y hy => by have := ht y hy; omega⟩, htl, fun k l hk => ?_⟩
  obtain ⟨w0, w1, w2, w3⟩ := ms_write (S := S) h hk
  obtain ⟨r, L, h1, h2, hb, -⟩ := least_head h.len h.reads hk
  have hs := sum_tail h2
  refine ⟨by omega, w0, fun r' hr' => ?_, fun he => ?_⟩
  · rw [h1] at hr'
    cases hr'
    obtain ⟨t', pre, b1, b2, b3, -⟩ := hb
    have := ht _ (fileAt_mem b1)
    have e : t'.length = pre.length + (joinL L).length := by rw [b2, List.length_append]
    have e2 : (t', true).1.length = t'.length := rfl
    omega
  · have he : writeE S d into (l ++ [10]) = 0 := by unfold emitE at he; rwa [if_pos h0] at he
    have es : emitS S into d l = writeS S d into (l ++ [10]) := if_pos h0
    have et : emitT into t l = t := if_pos h0
    rw [es, et]
    have hc : cntE S d = 0 := w1 ▸ he
    obtain ⟨m1, m2, m3⟩ := w3 hc
    have hset : ∀ y ∈ (writeS S d into (l ++ [10])).T, y.1.length ≤ 800000 := fun y hy => by
      rw [m3] at hy
      rcases List.mem_or_eq_of_mem_set hy with hy | rfl
      · exact ht y hy
      · simp only [List.length_append, List.length_cons, List.length_nil]
        omega
    have hT2 : (writeS S d into (l ++ [10])).T.length ≤ 64 := by rw [m3, List.length_set]; exact hT
    refine ⟨⟨by rw [m2]; omega, hT2, fun y hy => by have := hset y hy; omega⟩, fun hr => ?_⟩
    obtain ⟨r2, L2, r1, r2', r3, r4, r5⟩ := ms_read (S := S) m1 hk
    rw [h2] at r2'
    cases r2'
    rw [r4] at hr
    obtain ⟨m4, m5⟩ := r5 hr
    have e3 := congrArg List.length m5
    rw [List.length_map, List.length_map] at e3
    refine ⟨_, _, by rw [r3]; exact m4, by omega, ?_, ?_, ?_, ?_, by rw [e3]; exact h3, htl⟩
    · rw [r3]
      show (writeS S d into (l ++ [10])).n + 1 + _ ≤ _
      rw [m2]; omega
    · rw [r3]; exact hT2
    · rw [r3]; exact hset
    · simp only [List.length_append, List.length_cons, List.length_nil]
      omega
end

end Go.Proofs.YtpgigpajpcianaaGreatDoor

namespace Go.Proofs.YtpgigpajpcianaaGreatDoor
open Go.RowKit

theorem Tryz.info156 : (Tryz.prog.info? 156).map (fun i => (i.zero, i.size, i.bytes)) = some (some (.agg #[.int .i64 0, .int .i64 0, .string ByteArray.empty, .bool false]), 4, 40) := by kernel_rfl
def LikeAll (P : List Pl) (rs : List Rn) : Prop := P.length = rs.length ∧ ∀ (k : Nat) p r, P[k]? = some p → rs[k]? = some r → Like p r
theorem LikeAll.snoc {P : List Pl} {rs : List Rn} {p : Pl} {r : Rn} (h : LikeAll P rs) (hp : Like p r) : LikeAll (P ++ [p]) (rs ++ [r]) := by
  refine ⟨by rw [List.length_append, List.length_append, h.1]; rfl, fun k p' r' h1 h2 => ?_⟩
  by_cases hk : k < P.length
  · rw [List.getElem?_append_left hk] at h1
    rw [List.getElem?_append_left (by rw [← h.1]; exact hk)] at h2
    exact h.2 k p' r' h1 h2
  · rw [List.getElem?_append_right (by omega)] at h1
    rw [List.getElem?_append_right (by rw [← h.1]; omega), ← h.1] at h2
    obtain ⟨j, hj⟩ : ∃ j, j = k - P.length := ⟨_, rfl⟩
    rw [← hj] at h1 h2
    cases j with
    | zero =>
      simp only [List.getElem?_cons_zero, Option.some.injEq] at h1 h2
      rw [← h1, ← h2]
      exact hp
    | succ j => simp at h1
theorem got_any (S : Script) (s : DSt) (no : Int) : ∃ p : Pl, gotC S s no 0 [] false = placeC p.no p.at' p.line p.there ∧ (readE S s no (0 : Nat) 65 = 0 → Like p (readR S s (fresh no)).2.1) := by
  by_cases h0 : readE S s no (0 : Nat) 65 = 0
  · obtain ⟨p, h1, h2⟩ := got_like (S := S) (s := s) (p := ⟨no, 0, [], false⟩) (r := fresh no) rfl rfl h0
    exact ⟨p, h1, fun _ => h2⟩
  · exact ⟨⟨no, 0, [], false⟩, by unfold gotC; exact if_pos h0, fun h => absurd h h0⟩
theorem cells_new (w : World) (cs : List Value) (t : TypeId) : ∀ (j : Nat) (u : Value), cs[j]? = some u → (w.alloc (.cells cs.toArray t)).cell? ((⟨w.heap.size, 0, none⟩ : Addr).add j) = some u := fun j u hj => by
  rw [Addr.add_mid, Nat.zero_add, cell_of_row _ _ _ _ _ _ (heap_alloc_last w _)]
  simpa using hj
theorem DocAt.read {base q r : Nat} {ownR : Nat → Nat} {S : Script} {F : Bool} {s s' : DSt} {run : Lines} {nos : List Int} {told : List UInt8} {uv nv : Value} {w w' : World} (h : DocAt base q r ownR S F s run nos told uv nv w) (hd : RAt base r ownR S s' w') (hf : Frame (· = r) w w') : DocAt base q r ownR S F s' run nos told uv nv w' := by
  have hor : ownR r = 1 := by obtain ⟨_, _, _, h⟩ := h.disk; exact h.orr
  have hno : ∀ k, ownR k = 0 → ¬ (k = r) := fun k h0 e => by rw [e, hor] at h0; omega
  exact ⟨hf.heap h.heap (hno q h.oq), hd, hf.owns h.run (fun k hk => hno k (h.ou k hk).1), hf.owns h.nos (fun k hk => hno k (h.on k hk).1), h.oq, h.low, h.ou, h.on⟩
theorem leastFrom_snoc {F : Bool} (r : Rn) : ∀ (rs : List Rn) (i : Nat) (k : Option (Nat × List UInt8)), leastFrom F i k (rs ++ [r]) = if r.over = false ∧ winsB F (leastFrom F i k rs) r.next = true then some (i + rs.length, r.next) else leastFrom F i k rs
  | [], i, k => rfl
  | x :: rs, i, k => by
    rw [List.cons_append, leastFrom_cons, leastFrom_cons, leastFrom_snoc r rs, List.length_cons, show i + 1 + rs.length = i + (rs.length + 1) by omega]
def LeastIs (F : Bool) (rs : List Rn) (P : List Pl) (i : Nat) (k : Int) : Prop :=
  (leastFrom F 0 none (rs.take i) = none ∧ k = -1) ∨ ∃ (j : Nat) (p : Pl), leastFrom F 0 none (rs.take i) = some (j, p.line) ∧ k = j ∧ P[j]? = some p/-- What holds ahead of each line that is merged. -/
structure GoIs (base q r : Nat) (ownR : Nat → Nat) (S : Script) (F : Bool) (into : Int) (Iv : Nat → DSt → List UInt8 → List Rn → Prop) (run : Lines) (nos : List Int) (uv nv : Value) (w : World) (runs : List Int) (G : DSt × List UInt8 × Int) (n3 : Nat) (P : List Pl) (d : DSt) (t : List UInt8) (rs : List Rn) (f : Nat) (own' : Nat → Nat) (gh : Nat) (lv : Value) (wr : World) : Prop where
  iv : Iv gh d t rs
  lt : gh < f
  res : G = goA S F into f d t rs
  like : LikeAll P rs
  len : P.length = n3
  row : wr.ownsRow w.heap.size 156 4 lv P.length (plL P)
  nos' : rs.map (·.no) = runs
  doc : DocAt base q r own' S F d run nos t uv nv wr
  old : ∀ k, k < w.heap.size → own' k = ownR k
  free : ∀ k, lv.ownBlock = some k → own' k = 0 ∧ k ≠ q
  fr : Frame (fun k => ownR k ≠ 0 ∨ k = q) w wr
def GoAt (base q r : Nat) (ownR : Nat → Nat) (S : Script) (F : Bool) (into : Int) (Iv : Nat → DSt → List UInt8 → List Rn → Prop) (run : Lines) (nos : List Int) (uv nv : Value) (w : World) (runs : List Int) (G : DSt × List UInt8 × Int) (n3 gh : Nat) (lv : Value) (wr : World) : Prop :=
  ∃ P d t rs f own', GoIs base q r ownR S F into Iv run nos uv nv w runs G n3 P d t rs f own' gh lv wr
theorem GoIs.below {base q r : Nat} {ownR : Nat → Nat} {S : Script} {F : Bool} {into : Int} {Iv : Nat → DSt → List UInt8 → List Rn → Prop} {run : Lines} {nos : List Int} {uv nv : Value} {w : World} {runs : List Int} {G : DSt × List UInt8 × Int} {n3 : Nat} {P : List Pl} {d : DSt} {t : List UInt8} {rs : List Rn} {f : Nat} {own' : Nat → Nat} {gh : Nat} {lv : Value} {wr W : World}
    (h : GoIs base q r ownR S F into Iv run nos uv nv w runs G n3 P d t rs f own' gh lv wr) (hb : Below wr.heap.size wr W) : GoIs base q r ownR S F into Iv run nos uv nv w runs G n3 P d t rs f own' gh lv W :=
  ⟨h.iv, h.lt, h.res, h.like, h.len, (Below.toFrame hb (fun _ => False)).owns h.row (fun _ _ e => e), h.nos', h.doc.below hb, h.old, h.free, h.fr.trans (Below.toFrame hb _)⟩
def MergeTo (base q r : Nat) (ownR : Nat → Nat) (S : Script) (F : Bool) (run : Lines) (nos : List Int) (uv nv : Value) (w : World) (R : DSt × List UInt8 × Int) (e : Ending) (w' : World) : Prop :=
  e = .returned (.int .i64 R.2.2) ∧ ∃ own', DocAt base q r own' S F R.1 run nos R.2.1 uv nv w' ∧ (∀ k, k < w.heap.size → own' k = ownR k) ∧ Frame (fun k => ownR k ≠ 0 ∨ k = q) w w'
def Emitted (base q r : Nat) (ownR : Nat → Nat) (S : Script) (F : Bool) (into : Int) (run : Lines) (nos : List Int) (uv nv : Value) (w : World) (P : List Pl) (lv : Value) (d : DSt) (t l : List UInt8) (wr : World) : Prop :=
  emitE S into d l = 0 ∧ ∃ own', DocAt base q r own' S F (emitS S into d l) run nos (emitT into t l) uv nv wr ∧ (∀ k, k < w.heap.size → own' k = ownR k) ∧ (∀ k, lv.ownBlock = some k → own' k = 0 ∧ k ≠ q) ∧ wr.ownsRow w.heap.size 156 4 lv P.length (plL P) ∧ Frame (fun k => ownR k ≠ 0 ∨ k = q) w wr
theorem DocAt.callR {base q r : Nat} {ownR : Nat → Nat} {S : Script} {F : Bool} {s s' : DSt} {run : Lines} {nos : List Int} {told : List UInt8} {uv nv : Value} {w w' : World} (h : DocAt base q r ownR S F s run nos told uv nv w) (hl : RLeft base r ownR S s' w w') :
    ∃ own', DocAt base q r own' S F s' run nos told uv nv w' ∧ (∀ k, k < w.heap.size → own' k = ownR k) ∧ Frame (fun k => ownR k ≠ 0) w w' := by
  obtain ⟨own', hd, hs, hf⟩ := hl
  have hlt := h.lt
  refine ⟨own', ⟨hf.heap h.heap (fun e => e h.oq), hd, hf.owns h.run (fun k hk e => e (h.ou k hk).1), hf.owns h.nos (fun k hk e => e (h.on k hk).1), by rw [hs q hlt]; exact h.oq, h.low, fun k hk => ?_, fun k hk => ?_⟩, hs, hf⟩
  · rw [hs k (h.run.lt k hk).2]
    exact h.ou k hk
  · rw [hs k (h.nos.lt k hk).2]
    exact h.on k hk
theorem plL_put {W : World} {base g cap n : Nat} {P : List Pl} {j : Nat} (p : Pl) (hj : j < P.length) (h : W.ownsRow base 156 4 (.slice (some ⟨g, 0, none⟩) n cap) n (plL P)) :
    (W.setCells g (j * 4) p.cells).ownsRow base 156 4 (.slice (some ⟨g, 0, none⟩) n cap) n (plL (P.set j p)) ∧ Frame (· = g) W (W.setCells g (j * 4) p.cells) := by
  rw [plL_set p hj]
  have h1 := (h.stored (j * 4) (.int .i64 p.no)).1
  have h2 := (h1.stored (j * 4 + 1) (.int .i64 p.at')).1
  have h3 := (h2.stored (j * 4 + 2) (strV p.line)).1
  have h4 := (h3.stored (j * 4 + 3) (.bool p.there)).1
  refine ⟨h4, ?_⟩
  have f1 := Frame.cell W ⟨g, j * 4, none⟩ (.int .i64 p.no)
  have f2 := Frame.cell (W.setCell ⟨g, j * 4, none⟩ (.int .i64 p.no)) ⟨g, j * 4 + 1, none⟩ (.int .i64 p.at')
  have f3 := Frame.cell ((W.setCell ⟨g, j * 4, none⟩ (.int .i64 p.no)).setCell ⟨g, j * 4 + 1, none⟩ (.int .i64 p.at')) ⟨g, j * 4 + 2, none⟩ (strV p.line)
  have f4 := Frame.cell (((W.setCell ⟨g, j * 4, none⟩ (.int .i64 p.no)).setCell ⟨g, j * 4 + 1, none⟩ (.int .i64 p.at')).setCell ⟨g, j * 4 + 2, none⟩ (strV p.line)) ⟨g, j * 4 + 3, none⟩ (.bool p.there)
  exact ((f1.trans f2).trans f3).trans f4
theorem pl_there {W : World} {base g cap n : Nat} {P : List Pl} {j : Nat} {p : Pl} (hp : P[j]? = some p) (h : W.ownsRow base 156 4 (.slice (some ⟨g, 0, none⟩) n cap) n (plL P)) : W.rangeAt g (j * 4) p.cells ∧ W.there g (j * 4) 4 := by
  obtain ⟨g0, g1, g2, g3⟩ := plL_get hp
  have hc := fun i v hv => World.ownsRow.cells h (g := g) rfl i v hv
  have h0 := hc _ _ g0
  have h1 := hc _ _ g1
  have h2 := hc _ _ g2
  have h3 := hc _ _ g3
  rw [Addr.add_mid, Nat.zero_add] at h0 h1 h2 h3
  refine ⟨fun i v hv => ?_, fun i hi => ⟨?_, h.frozenAt _⟩⟩
  · rcases i with _ | _ | _ | _ | i
    · cases hv; exact h0
    · cases hv; exact h1
    · cases hv; exact h2
    · cases hv; exact h3
    · simp [Pl.cells] at hv
  · rcases i with _ | _ | _ | _ | i
    · show (W.cell? ⟨g, j * 4, none⟩).isSome = true
      rw [h0]; rfl
    · show (W.cell? ⟨g, j * 4 + 1, none⟩).isSome = true
      rw [h1]; rfl
    · show (W.cell? ⟨g, j * 4 + 2, none⟩).isSome = true
      rw [h2]; rfl
    · show (W.cell? ⟨g, j * 4 + 3, none⟩).isSome = true
      rw [h3]; rfl
    · omega
theorem LikeAll.put {P : List Pl} {rs : List Rn} (h : LikeAll P rs) (j : Nat) {p : Pl} {r : Rn} (hp : Like p r) : LikeAll (P.set j p) (rs.set j r) := by
  refine ⟨by rw [List.length_set, List.length_set, h.1], fun k p' r' h1 h2 => ?_⟩
  by_cases hk : k = j
  · subst hk
    by_cases hl : k < P.length
    · rw [List.getElem?_set_self hl] at h1
      rw [List.getElem?_set_self (by rw [← h.1]; exact hl)] at h2
      cases h1; cases h2
      exact hp
    · rw [List.getElem?_eq_none (by rw [List.length_set]; omega)] at h1
      cases h1
  · rw [List.getElem?_set_ne (fun e => hk e.symm)] at h1 h2
    exact h.2 k p' r' h1 h2
theorem got_on (S : Script) (d : DSt) {p : Pl} {r : Rn} (h : Like p r) (ho : r.over = false) : ∃ p' : Pl, gotC S d p.no p.at' p.line p.there = placeC p'.no p'.at' p'.line p'.there ∧ (readR S d r).2.2 = readE S d p.no p.at' 65 ∧ (readR S d r).1 = readS S d p.no p.at' 65 ∧ (readE S d p.no p.at' 65 = 0 → Like p' (readR S d r).2.1) := by
  obtain ⟨h1, h2, h3, h4⟩ := h
  have h4 := h4 ho
  by_cases h0 : readE S d r.no r.at' 65 = 0
  · obtain ⟨p', k1, k2⟩ := got_like (S := S) (s := d) (p := p) (r := r) h1 h4 h0
    refine ⟨p', k1, ?_, ?_, fun _ => k2⟩
    · rw [h1, h4]; unfold readR; rw [if_neg (by rw [h0]; decide)]; exact h0.symm
    · rw [h1, h4]; unfold readR; rw [if_neg (by rw [h0]; decide)]
  · refine ⟨p, ?_, ?_, ?_, fun e => ?_⟩
    · rw [h1, h4]; unfold gotC; rw [if_pos h0]
    · rw [h1, h4]; unfold readR; rw [if_pos h0]
    · rw [h1, h4]; unfold readR; rw [if_pos h0]
    · rw [h1, h4] at e; exact absurd e h0
theorem readAll_nos {S : Script} : ∀ (L : List Rn) (s : DSt), (readAll S s L).2.1.map (·.no) = L.map (·.no)
  | [], s => rfl
  | x :: L, s => by
    rw [readAll_cons]
    split
    · rfl
    · have hx : (readR S s x).2.1.no = x.no := by unfold readR; split <;> rfl
      simp only [List.map_cons]
      rw [hx, readAll_nos L]
end Go.Proofs.YtpgigpajpcianaaGreatDoor

namespace Go.Proofs.YtpgigpajpcianaaGreatDoor
open Go.RowKit

section
variable {base q r : Nat} {ownR : Nat → Nat} {S : Script} {F : Bool} {s : DSt} {run : Lines} {nos : List Int} {told : List UInt8} {uv nv : Value} {w : World}
set_option maxRecDepth 100000 in
set_option maxHeartbeats 8000000 in
theorem docMerge_any {p : Nat → Prop} (into : Int) (Iv : Nat → DSt → List UInt8 → List Rn → Prop) (f0 : Nat) (h : DocAt base q r ownR S F s run nos told uv nv w) (hsm : SmallD 800000 900000 s) (hS : S.length ≤ 1000000) (rsv : Value) (runs : List Int) (hr : IsInts p w rsv runs) (hp : ∀ k, p k → ownR k = 0 ∧ k ≠ q) (hrl : runs.length ≤ 3) (hIv : IvOk S F into Iv) (hTM : (readAll S s (runs.map fresh)).2.2 = 0 → ∃ gh, Iv gh (readAll S s (runs.map fresh)).1 told (readAll S s (runs.map fresh)).2.1 ∧ gh < f0) :
    Calls Tryz.prog 67 #[.pointer (some ⟨q, 0, none⟩), rsv, .int .i64 into] w (MergeTo base q r ownR S F run nos uv nv w (docM S F into f0 s told runs)) := by
  have HIvO := Lib.hid hIv
  obtain ⟨R, hR⟩ : ∃ R, R = docM S F into f0 s told runs := ⟨_, rfl⟩
  rw [← hR]
  have HRd1 := Lib.hid (show (readAll S s (runs.map fresh)).2.2 ≠ 0 → R = ((readAll S s (runs.map fresh)).1, told, (readAll S s (runs.map fresh)).2.2) from fun h => by rw [hR]; unfold docM; exact if_pos h)
  have HRd2 := Lib.hid (show (readAll S s (runs.map fresh)).2.2 = 0 → ∀ G, G = goA S F into f0 (readAll S s (runs.map fresh)).1 told (readAll S s (runs.map fresh)).2.1 → (G.2.2 ≠ 0 → R = G) ∧ (G.2.2 = 0 → R = ((removeAll S G.1 (runs.map fresh)).1, G.2.1, (removeAll S G.1 (runs.map fresh)).2)) from fun h G hG => by
    rw [hR]; unfold docM; rw [if_neg (by rw [h]; decide), ← hG]
    exact ⟨fun h1 => if_pos h1, fun h1 => if_neg (by rw [h1]; decide)⟩)
  clear hR hIv
  obtain ⟨ra, rc, rfl, -⟩ := id hr
  have H := Lib.hid h
  have HR := Lib.hid hr
  have HP := Lib.hid hp
  have HRl := Lib.hid hrl
  have HSm := Lib.hid hsm
  have HSl := Lib.hid hS
  have HTM := Lib.hid hTM
  have hor : ownR r = 1 := by obtain ⟨_, _, _, h⟩ := h.disk; exact h.orr
  have hrq : q ≠ r := fun e => by have := h.oq; rw [e, hor] at this; omega
  have HOr := Lib.hid hor
  have HRq := Lib.hid hrq
  obtain ⟨i6, hi6, y0, y1, y2⟩ := info_parts Tryz.info156
  have I6 := Lib.hid hi6
  have Y0 := Lib.hid y0
  have Y1 := Lib.hid y1
  have Y2 := Lib.hid y2
  clear h hr hp hrl hsm hS hTM hor hrq hi6 y0 y1 y2
  go_enter Tryz.func67, Tryz.ntmps67
  go_wp2_with fail
  go_loopw [7, 8] (fun lv iv wr => ∃ (i : Nat) (P : List Pl), iv = .int .i64 i ∧ i ≤ runs.length ∧ RowKit.Hid (P.length = i ∧ wr.ownsRow w.heap.size 156 4 lv P.length (plL P) ∧ (readAll S s ((runs.take i).map fresh)).2.2 = 0 ∧ LikeAll P (readAll S s ((runs.take i).map fresh)).2.1 ∧ RAt base r ownR S (readAll S s ((runs.take i).map fresh)).1 wr ∧ Frame (· = r) w wr)) (fun _ iv _ => runs.length - (intOf iv).toNat)
  case atStart => exact ⟨0, [], rfl, Nat.zero_le _, Lib.hid ⟨rfl, World.ownsRow_nil w w.heap.size _ 4, rfl, ⟨rfl, fun k p r h => by simp at h⟩, H.out.disk, Frame.refl _ _⟩⟩
  case round =>
    obtain ⟨i, P, rfl, hi, HI⟩ := hrel
    obtain ⟨hPl, hown, hz, hlike, hat, hfr⟩ := HI.out
    have hrl := HRl.out
    obtain ⟨la, lc, rfl⟩ := owns_slice hown
    have c0 : wr.cell? ⟨q, 0, none⟩ = some (.pointer (some ⟨r, 0, none⟩)) := hfr.cell? H.out.c0 HRq.out
    by_cases hlt : i < runs.length
    · obtain ⟨no, hno⟩ : ∃ no, runs[i]? = some no := ⟨runs[i], by simp⟩
      obtain ⟨_, _, e, hcl⟩ := HR.out.frame hfr (fun k hk e => by have e' : k = r := e; have := (HP.out k hk).1; rw [e', HOr.out] at this; omega)
      cases e
      obtain ⟨gb, off, rfl, -, cn⟩ := hcl i no hno
      have q1 : (0 : Int) ≤ (i : Int) := by omega
      have q2 : (i : Int) < (runs.length : Int) := by omega
      have q3 : (runs.length : Int) ≤ 3 := by omega
      obtain ⟨D, hD⟩ : ∃ D, D = (readAll S s ((runs.take i).map fresh)).1 := ⟨_, rfl⟩
      obtain ⟨k1, k2⟩ := readAll_stays (S := S) ((runs.take i).map fresh) s
      rw [← hD] at hat k1 k2
      rw [List.length_map, List.length_take] at k2
      have hsmD : Small D := ⟨by have := HSm.out.n; omega, by rw [k1]; exact HSm.out.T, fun x hx => by rw [k1] at hx; have := HSm.out.t x hx; omega⟩
      have hget := docGet_any c0 hat hsmD HSl.out no 0 (by decide) [] false
      unfold GotPlace at hget
      obtain ⟨p', hp1, hp2⟩ := got_any S D no
      have hsn := readAll_snoc (S := S) (fresh no) ((runs.take i).map fresh) s hz
      rw [show (runs.take i).map fresh ++ [fresh no] = (runs.take (i + 1)).map fresh by rw [take_snoc hno, List.map_append]; rfl, ← hD] at hsn
      rw [hp1] at hget
      have hrd : (readR S D (fresh no)).1 = readS S D no (0 : Nat) 65 ∧ (readR S D (fresh no)).2.2 = readE S D no (0 : Nat) 65 := by
        unfold readR
        by_cases h0 : readE S D no (0 : Nat) 65 = 0
        · rw [if_neg (show ¬ readE S D (fresh no).no ((fresh no).at' : Nat) 65 ≠ 0 from fun e => e h0)]; exact ⟨rfl, h0.symm⟩
        · rw [if_pos (show readE S D (fresh no).no ((fresh no).at' : Nat) 65 ≠ 0 from h0)]; exact ⟨rfl, rfl⟩
      rw [hrd.1, hrd.2] at hsn
      obtain ⟨E, hE⟩ : ∃ E, E = readE S D no (0 : Nat) 65 := ⟨_, rfl⟩
      obtain ⟨D', hD'⟩ : ∃ D', D' = readS S D no (0 : Nat) 65 := ⟨_, rfl⟩
      rw [← hE, ← hD'] at hget hsn
      rw [← hE] at hp2
      obtain ⟨PL, hPL⟩ : ∃ T : ByteArray, strV p'.line = .string T := ⟨_, rfl⟩
      unfold placeC at hget
      rw [hPL] at hget
      have hg : (#[.int .i64 no, .int .i64 ((0 : Nat) : Int), strV [], .bool false] : Array Value) = #[.int .i64 no, .int .i64 0, .string ByteArray.empty, .bool false] := rfl
      rw [hg] at hget
      have HGet := Lib.hid hget
      have HOwn := Lib.hid hown
      have HFr := Lib.hid hfr
      have HSn := Lib.hid hsn
      have HLk := Lib.hid hlike
      have HP2 := Lib.hid hp2
      have HPL := Lib.hid hPL
      have HPl := Lib.hid hPl
      have HLt := Lib.hid hlt
      clear hPl hown hz hlike hat hfr hcl hno hD k1 k2 hsmD hget hE hp1 hp2 hsn hrd hD' hPL hg hi hrl hlt HI
      go_wp2_with fail
      refine HGet.out.mono ?_
      rintro e w1 ⟨rfl, hat1, hf1⟩
      have HA1 := Lib.hid hat1
      have HF1 := Lib.hid hf1
      have HRow := Lib.hid (heap_alloc_last w1 (.cells #[.int .i64 p'.no, .int .i64 p'.at', .string PL, .bool p'.there] 156))
      clear hat1 hf1 HGet
      by_cases h0 : E = 0
      · have g1 : (E != 0) = false := by rw [h0]; rfl
        have HE0 := Lib.hid h0
        clear h0
        go_upto_region 8 with fail
        have hb2 : Below w1.heap.size w1 (w1.alloc (.cells #[.int .i64 p'.no, .int .i64 p'.at', .string PL, .bool p'.there] 156)) := (Below.refl _ _).alloc (Nat.le_refl _) _
        have hr2 := HRow.out
        generalize w1.alloc (.cells #[.int .i64 p'.no, .int .i64 p'.at', .string PL, .bool p'.there] 156) = W2 at hb2 hr2 ⊢
        have hfw2 : Frame (· = r) w W2 := (HFr.out.trans HF1.out).trans (Below.toFrame hb2 _)
        have ho2 : W2.ownsRow w.heap.size 156 4 (.slice la P.length lc) P.length (plL P) := (HF1.out.trans (Below.toFrame hb2 _)).owns HOwn.out (fun k hk e => by
          have e' : k = r := e
          have h1 := (HOwn.out.lt k hk).1
          have h2 := (H.out.disk.bnd r (by rw [HOr.out]; decide)).2
          omega)
        have ho3 := (Below.toFrame ((Below.refl W2.heap.size W2).alloc (Nat.le_refl _) (.cells #[.int .i64 p'.no, .int .i64 p'.at', .string PL, .bool p'.there] 156)) (fun _ => False)).owns ho2 (fun _ _ h => h)
        have HR2 := Lib.hid hr2
        have HO3 := Lib.hid ho3
        have HFw2 := Lib.hid hfw2
        have HA2 := Lib.hid (HA1.out.below hb2)
        have HNw := Lib.hid (cells_new W2 [.int .i64 p'.no, .int .i64 p'.at', .string PL, .bool p'.there] 156)
        clear hb2 hr2 hfw2 ho2 ho3 HOwn HFr HF1 HA1 HRow
        go_wp2_with (first | (refine wpList_load_row rfl 156 (.tmp 9) rfl w1.heap.size rfl 156 _ (0, 0) _ HR2.out Tryz.underlying156 rfl (by kernel_rfl) ?_) | (at_builtin; refine wpList_append_own_at _ rfl _ _ 154 rfl w.heap.size 156 i6 (.agg #[.int .i64 0, .int .i64 0, .string ByteArray.empty, .bool false]) 4 40 Tryz.underlying154 I6.out Y0.out Y1.out Y2.out rfl (by decide) _ _ _ rfl HO3.out ⟨W2.heap.size, 0, none⟩ 1 1 [.int .i64 p'.no, .int .i64 p'.at', .string PL, .bool p'.there] rfl rfl HNw.out (by simp [Value.oneCell']) ?p1 ?p2 ?p3 ?_))
        case p1 => unfold maxLen; have h1 := HPl.out; have h2 := HLt.out; have h3 := HRl.out; omega
        case p2 => have h1 := HPl.out; have h2 := HLt.out; have h3 := HRl.out; omega
        case p3 => have := HFw2.out.size; simp; omega
        intro lv2 w3 ho hg _ _
        have hba : Below W2.heap.size W2 (W2.alloc (.cells #[.int .i64 p'.no, .int .i64 p'.at', .string PL, .bool p'.there] 156)) := (Below.refl _ _).alloc (Nat.le_refl _) _
        have hfw3 : Frame (· = r) w w3 := (HFw2.out.trans (Below.toFrame hba _)).grown hg (fun k hk e => by have := (HO3.out.lt k e).1; omega)
        have hfg : Frame (fun k => w.heap.size ≤ k) W2 w3 := (Below.toFrame hba _).grown hg (fun k _ e => (HO3.out.lt k e).1)
        have hat3 := HA2.out.frame hfg (fun k hk => Classical.byContradiction fun h0 => by have := (H.out.disk.bnd k h0).2; have hk : w.heap.size ≤ k := hk; omega) (fun k hk => by have := (H.out.disk.bnd r (by rw [HOr.out]; decide)); have hk : w.heap.size ≤ k := hk; omega)
        have ho3 : w3.ownsRow w.heap.size 156 4 lv2 (P ++ [p']).length (plL (P ++ [p'])) := by
          rw [plL_append, plL_one, Pl.cells, HPL.out, List.length_append]
          exact ho
        have hsn := HSn.out
        rw [if_neg (by rw [HE0.out]; decide)] at hsn
        have HO4 := Lib.hid ho3
        have HF4 := Lib.hid hfw3
        have HA4 := Lib.hid hat3
        have HSn2 := Lib.hid hsn
        clear ho hg hba hfw3 hfg hat3 ho3 hsn
        go_wp2_with fail
        go_roundw
        case rel => exact ⟨i + 1, P ++ [p'], by go_num, HLt.out, Lib.hid ⟨by rw [List.length_append, HPl.out]; rfl, HO4.out, by rw [HSn2.out], by rw [HSn2.out]; exact HLk.out.snoc (HP2.out HE0.out), by rw [HSn2.out]; exact HA4.out, HF4.out⟩⟩
        case measure => have := HLt.out; simp [intOf]; omega
      · have g1 : (E != 0) = true := by simpa using h0
        have HE0 := Lib.hid h0
        clear h0
        have hsn := HSn.out
        rw [if_pos HE0.out] at hsn
        have hspl : runs.map fresh = (runs.take (i + 1)).map fresh ++ (runs.drop (i + 1)).map fresh := by rw [← List.map_append, List.take_append_drop]
        have hst := readAll_stop (S := S) ((runs.drop (i + 1)).map fresh) ((runs.take (i + 1)).map fresh) s (by rw [hsn]; exact HE0.out)
        rw [← hspl, hsn] at hst
        have hRe := HRd1.out (by rw [hst.2]; exact HE0.out)
        rw [hst.1, hst.2] at hRe
        have HRe := Lib.hid hRe
        have hb2 : Below w1.heap.size w1 (w1.alloc (.cells #[.int .i64 p'.no, .int .i64 p'.at', .string PL, .bool p'.there] 156)) := (Below.refl _ _).alloc (Nat.le_refl _) _
        have hfw2 : Frame (· = r) w (w1.alloc (.cells #[.int .i64 p'.no, .int .i64 p'.at', .string PL, .bool p'.there] 156)) := (HFr.out.trans HF1.out).trans (Below.toFrame hb2 _)
        have HFin := Lib.hid (H.out.read (HA1.out.below hb2) hfw2)
        have HFw2 := Lib.hid hfw2
        clear hsn hspl hst hRe hb2 hfw2
        go_wp2_with fail
        go_ret
        exact ⟨by rw [HRe.out]; rfl, ownR, by rw [HRe.out]; exact HFin.out, fun _ _ => rfl, HFw2.out.mono (fun k _ e => .inl (by have e' : k = r := e; rw [e', HOr.out]; decide))⟩
    · have q2 : ¬ (i : Int) < (runs.length : Int) := by omega
      have e : runs.take i = runs := List.take_of_length_le (by omega)
      rw [e] at hz hlike hat
      have hdoc := H.out.read hat hfr
      have HDoc := Lib.hid hdoc
      have HLk := Lib.hid hlike
      have HOwn := Lib.hid hown
      have HFr := Lib.hid hfr
      have HZ := Lib.hid hz
      have HPl := Lib.hid (show P.length ≤ 3 by omega)
      clear hPl hown hz hlike hat hfr e hdoc hrl hi hlt HI c0
      obtain ⟨gh0, hiv, hlt0⟩ := HTM.out HZ.out
      have hG := HRd2.out HZ.out _ rfl
      obtain ⟨G, hGe⟩ : ∃ G, G = goA S F into f0 (readAll S s (runs.map fresh)).1 told (readAll S s (runs.map fresh)).2.1 := ⟨_, rfl⟩
      rw [← hGe] at hG
      obtain ⟨d1, hd1⟩ : ∃ d1, d1 = (readAll S s (runs.map fresh)).1 := ⟨_, rfl⟩
      obtain ⟨rs1, hrs1⟩ : ∃ rs1, rs1 = (readAll S s (runs.map fresh)).2.1 := ⟨_, rfl⟩
      have hnos := readAll_nos (S := S) (runs.map fresh) s
      rw [← hrs1, List.map_map] at hnos
      have hid : List.map ((fun x : Rn => x.no) ∘ fresh) runs = runs := List.map_id runs
      rw [hid] at hnos
      rw [← hd1, ← hrs1] at hiv hGe
      rw [← hd1] at HDoc
      rw [← hrs1] at HLk
      have HIv := Lib.hid hiv
      have HLt0 := Lib.hid hlt0
      have HNos := Lib.hid hnos
      have HGe := Lib.hid hGe
      have HG := Lib.hid hG
      clear hiv hlt0 hnos hd1 hrs1 hid hGe hG
      have hfree : ∀ k, (Value.slice la P.length lc).ownBlock = some k → ownR k = 0 ∧ k ≠ q := fun k hk => by
        have h1 := (HOwn.out.lt k hk).1
        have h2 := H.out.lt
        exact ⟨Classical.byContradiction fun h0 => by have := (H.out.disk.bnd k h0).2; omega, by omega⟩
      have HFree := Lib.hid hfree
      clear hfree
      go_wp2_with fail
      go_loopg [] gh0 (fun gh wr => RowKit.Hid (GoAt base q r ownR S F into Iv run nos uv nv w runs G P.length gh (.slice la P.length lc) wr))
      case atStart => exact Lib.hid ⟨P, d1, told, rs1, f0, ownR, HIv.out, HLt0.out, HGe.out, HLk.out, rfl, HOwn.out, HNos.out, HDoc.out, fun _ _ => rfl, HFree.out, HFr.out.mono (fun k _ e => .inl (by have e' : k = r := e; rw [e', HOr.out]; decide))⟩
      case round =>
        obtain ⟨P2, d, t, rs, f, own2, hIs⟩ := hrel.out
        have hlen : P2.length = P.length := hIs.len
        have e2 := hIs.like
        have e4 := hIs.row
        have e3 : P.length ≤ 3 := by rw [← hlen, e2.1]; exact (HIvO.out _ _ _ _ hIs.iv).1
        have HTy := Lib.hid (show ∀ dd (k : Nat) p, P2[k]? = some p → ∃ gb, la = some ⟨gb, 0, none⟩ ∧ (wr.drewN dd).cell? ⟨gb, k * 4 + 2, none⟩ = some (strV p.line) ∧ (wr.drewN dd).cell? ⟨gb, k * 4 + 3, none⟩ = some (.bool p.there) from fun dd k p hp => by
          rw [hlen] at e4
          rcases owns_shape e4 with ⟨-, h0⟩ | ⟨g, c, e⟩
          · have := (List.getElem?_eq_some_iff.1 hp).1; omega
          · cases e
            obtain ⟨-, -, g1, g2⟩ := plL_get hp
            have h1 := World.ownsRow.cells e4 (g := g) rfl _ _ g1
            have h2 := World.ownsRow.cells e4 (g := g) rfl _ _ g2
            rw [Addr.add_mid, Nat.zero_add] at h1 h2
            exact ⟨g, rfl, h1, h2⟩)
        have c1 := hIs.doc.c1
        have HAh := Lib.hid (show ∀ x y m, Calls Tryz.prog 90 #[.pointer (some ⟨q, 0, none⟩), strV x, strV y] (wr.drewN m) (fun e w' => e = .returned (.bool (aheadB F x y)) ∧ w' = wr.drewN m) from fun x y m => docAhead_any q F x y _ c1)
        have HIs := Lib.hid hIs
        have HE2 := Lib.hid e2
        have HE3 := Lib.hid e3
        have HLen := Lib.hid hlen
        clear hrel e2 e3 e4 hIs hlen c1
        go_wp2_with fail
        go_loopw [11, 12] (fun kv iv W => ∃ (i : Nat) (k : Int) (dd : Nat), kv = .int .i64 k ∧ iv = .int .i64 i ∧ i ≤ P.length ∧ W = wr.drewN dd ∧ RowKit.Hid (LeastIs F rs P2 i k)) (fun _ iv _ => P.length - (intOf iv).toNat)
        case atStart => exact ⟨0, -1, 0, rfl, rfl, Nat.zero_le _, rfl, Lib.hid (.inl ⟨rfl, rfl⟩)⟩
        case round =>
          obtain ⟨i, k, dd, rfl, rfl, hi, rfl, HL⟩ := hrel
          have hp3 := HE3.out
          have hln := HLen.out
          by_cases hlt : i < P.length
          · obtain ⟨pi, hpi⟩ : ∃ pi, P2[i]? = some pi := ⟨P2[i]'(by omega), List.getElem?_eq_getElem _⟩
            obtain ⟨ri, hri⟩ : ∃ ri, rs[i]? = some ri := ⟨rs[i]'(by rw [← HE2.out.1]; omega), List.getElem?_eq_getElem _⟩
            obtain ⟨-, l2, l3, -⟩ := HE2.out.2 i pi ri hpi hri
            obtain ⟨gb, hla, cl, ct⟩ := HTy.out dd i pi hpi
            cases hla
            have q1 : (0 : Int) ≤ (i : Int) := by omega
            have q2 : (i : Int) < (P.length : Int) := by omega
            have q3 : (P.length : Int) ≤ 3 := by omega
            obtain ⟨SI, hSI⟩ : ∃ T : ByteArray, strV pi.line = .string T := ⟨_, rfl⟩
            rw [hSI] at cl
            have hsn : leastFrom F 0 none (rs.take (i + 1)) = if ri.over = false ∧ winsB F (leastFrom F 0 none (rs.take i)) ri.next = true then some (i, ri.next) else leastFrom F 0 none (rs.take i) := by
              rw [take_snoc hri, leastFrom_snoc, List.length_take, Nat.min_eq_left (by rw [← HE2.out.1]; omega), Nat.zero_add]
            rw [← l2] at hsn
            have hah := fun y m => HAh.out pi.line y (dd + m)
            rw [hSI] at hah
            obtain ⟨W, hW⟩ : ∃ W, W = wr.drewN dd := ⟨_, rfl⟩
            have hah2 : ∀ y m, Calls Tryz.prog 90 #[.pointer (some ⟨q, 0, none⟩), .string SI, strV y] (W.drewN m) (fun e w' => e = .returned (.bool (aheadB F pi.line y)) ∧ w' = W.drewN m) := fun y m => by rw [hW, World.drewN_drewN]; exact hah y m
            have hcj : ∀ (j : Nat) p, P2[j]? = some p → W.cell? ⟨gb, j * 4 + 2, none⟩ = some (strV p.line) := fun j p hp => by
              obtain ⟨gb', e, c, -⟩ := HTy.out dd j p hp
              cases e
              rw [hW]
              exact c
            rw [← hW] at cl ct ⊢
            have HWd := Lib.hid hW
            have HLt := Lib.hid hlt
            have HSn := Lib.hid hsn
            have HPi := Lib.hid hpi
            have HAh2 := Lib.hid hah2
            have HCj := Lib.hid hcj
            have HL3 := Lib.hid l3
            have HSI := Lib.hid hSI
            cases hth : pi.there with
            | false =>
              rw [hth] at ct
              have hov : ¬ (ri.over = false ∧ winsB F (leastFrom F 0 none (rs.take i)) pi.line = true) := fun h => by rw [hth, h.1] at l3; cases l3
              rw [if_neg hov] at hsn
              have HSn2 := Lib.hid hsn
              clear hlt hsn hpi hri l2 l3 hah hah2 hcj hW hSI hov hth hp3 hln hi
              go_wp2_with fail
              go_quiet (fail)
              have HD2 := Lib.hid (show ∃ d2, W.drewN nq = wr.drewN d2 from ⟨_, by rw [HWd.out, World.drewN_drewN]⟩)
              generalize W.drewN nq = V at HD2 ⊢
              go_wp2_with fail
              go_roundw
              case rel =>
                obtain ⟨d2, hd2⟩ := HD2.out
                exact ⟨i + 1, k, d2, rfl, by go_num, HLt.out, hd2, Lib.hid (by have h := HL.out; unfold LeastIs at h ⊢; rw [HSn2.out]; exact h)⟩
              case measure => have := HLt.out; simp [intOf]; omega
            | true =>
              rw [hth] at ct
              have hov : ri.over = false := by rw [hth] at l3; cases ho : ri.over with | false => rfl | true => rw [ho] at l3; cases l3
              rcases HL.out with ⟨h1, rfl⟩ | ⟨j, pj, h1, rfl, hj⟩
              · rw [h1, if_pos ⟨hov, rfl⟩] at hsn
                have HSn2 := Lib.hid hsn
                clear hlt hsn hpi hri l2 l3 hah hah2 hcj hW hSI hov hth hp3 hln hi h1
                go_wp2_with fail
                go_quiet (fail)
                have HD2 := Lib.hid (show ∃ d2, W.drewN nq = wr.drewN d2 from ⟨_, by rw [HWd.out, World.drewN_drewN]⟩)
                generalize W.drewN nq = V at HD2 ⊢
                go_wp2_with fail
                go_roundw
                case rel =>
                  obtain ⟨d2, hd2⟩ := HD2.out
                  exact ⟨i + 1, (i : Int), d2, rfl, by go_num, HLt.out, hd2, Lib.hid (.inr ⟨i, pi, HSn2.out, rfl, HPi.out⟩)⟩
                case measure => have := HLt.out; simp [intOf]; omega
              · rw [h1] at hsn
                have cj := hcj j pj hj
                have hjl := (List.getElem?_eq_some_iff.1 hj).1
                have hcall := fun m => hah2 pj.line m
                obtain ⟨SJ, hSJ⟩ : ∃ T : ByteArray, strV pj.line = .string T := ⟨_, rfl⟩
                rw [hSJ] at cj hcall
                have q4 : (0 : Int) ≤ (j : Int) := by omega
                have q5 : (j : Int) < (P.length : Int) := by omega
                have q6 : ¬ (j : Int) < 0 := by omega
                have HJ := Lib.hid hj
                cases hb : aheadB F pi.line pj.line with
                | true =>
                  rw [hb] at hcall
                  rw [if_pos ⟨hov, hb⟩] at hsn
                  have HSn2 := Lib.hid hsn
                  have HCall := Lib.hid hcall
                  clear hlt hsn hpi hri l2 l3 hah hah2 hcj hW hSI hov hth hp3 hln hi h1 hcall hSJ hb hj hjl
                  go_wp2_with fail
                  go_quiet ((go_at_call 90; exact Calls.quiet_of_same (HCall.out _)))
                  have HD2 := Lib.hid (show ∃ d2, W.drewN nq = wr.drewN d2 from ⟨_, by rw [HWd.out, World.drewN_drewN]⟩)
                  generalize W.drewN nq = V at HD2 ⊢
                  go_wp2_with fail
                  go_roundw
                  case rel =>
                    obtain ⟨d2, hd2⟩ := HD2.out
                    exact ⟨i + 1, (i : Int), d2, rfl, by go_num, HLt.out, hd2, Lib.hid (.inr ⟨i, pi, HSn2.out, rfl, HPi.out⟩)⟩
                  case measure => have := HLt.out; simp [intOf]; omega
                | false =>
                  rw [hb] at hcall
                  rw [if_neg (fun h => by have h2 : aheadB F pi.line pj.line = true := h.2; rw [hb] at h2; cases h2)] at hsn
                  have HSn2 := Lib.hid hsn
                  have HCall := Lib.hid hcall
                  clear hlt hsn hpi hri l2 l3 hah hah2 hcj hW hSI hov hth hp3 hln hi h1 hcall hSJ hb hj hjl
                  go_wp2_with fail
                  go_quiet ((go_at_call 90; exact Calls.quiet_of_same (HCall.out _)))
                  have HD2 := Lib.hid (show ∃ d2, W.drewN nq = wr.drewN d2 from ⟨_, by rw [HWd.out, World.drewN_drewN]⟩)
                  generalize W.drewN nq = V at HD2 ⊢
                  go_wp2_with fail
                  go_roundw
                  case rel =>
                    obtain ⟨d2, hd2⟩ := HD2.out
                    exact ⟨i + 1, (j : Int), d2, rfl, by go_num, HLt.out, hd2, Lib.hid (.inr ⟨j, pj, HSn2.out, rfl, HJ.out⟩)⟩
                  case measure => have := HLt.out; simp [intOf]; omega
          · have q2 : ¬ (i : Int) < (P.length : Int) := by omega
            have htk : rs.take i = rs := List.take_of_length_le (by rw [← HE2.out.1]; omega)
            have hL := HL.out
            unfold LeastIs at hL
            rw [htk] at hL
            have hls : leastFrom F 0 none rs = leastOf F rs := rfl
            rw [hls] at hL
            have hbd : Below wr.heap.size wr (wr.drewN dd) := ⟨rfl, rfl, rfl, Nat.le_refl _, fun _ _ => rfl⟩
            have hIs := HIs.out.below hbd
            have HHo := Lib.hid (show Frame (fun k => ownR k ≠ 0 ∨ k = q) w (wr.drewN dd) from hIs.fr)
            clear hbd
            generalize wr.drewN dd = W at hIs HHo ⊢
            have HIs2 := Lib.hid hIs
            clear hIs htk hls HL hp3 hln hlt hi HIs HTy HAh
            rcases hL with ⟨h1, rfl⟩ | ⟨j, pj, h1, rfl, hj⟩
            · have hg : G = (d, t, 0) := by rw [HIs2.out.res]; exact goA_none f d t rs h1
              have hRr := (HG.out).2 (by rw [hg])
              rw [hg] at hRr
              have HRr := Lib.hid hRr
              clear hg hRr h1
              go_wp2_with fail
              go_loopw [16] (fun iv W2 => ∃ i : Nat, iv = .int .i64 i ∧ i ≤ runs.length ∧ RowKit.Hid ((removeAll S d ((runs.take i).map fresh)).2 = 0 ∧ ∃ own3, DocAt base q r own3 S F (removeAll S d ((runs.take i).map fresh)).1 run nos t uv nv W2 ∧ (∀ k, k < w.heap.size → own3 k = ownR k) ∧ Frame (fun k => ownR k ≠ 0 ∨ k = q) w W2)) (fun iv _ => runs.length - (intOf iv).toNat)
              case atStart => exact ⟨0, rfl, Nat.zero_le _, Lib.hid ⟨rfl, own2, HIs2.out.doc, HIs2.out.old, HIs2.out.fr⟩⟩
              case round =>
                obtain ⟨i, rfl, hi, HI⟩ := hrel
                obtain ⟨h0, own3, hd3, ho3, hf3⟩ := HI.out
                have hrl := HRl.out
                have c0 := hd3.c0
                by_cases hlt : i < runs.length
                · obtain ⟨no, hno⟩ : ∃ no, runs[i]? = some no := ⟨runs[i], by simp⟩
                  obtain ⟨_, _, e, hcl⟩ := HR.out.frame hf3 (fun k hk e => by rcases e with e | e; exact e (HP.out k hk).1; exact (HP.out k hk).2 e)
                  cases e
                  obtain ⟨gb, off, rfl, -, cn⟩ := hcl i no hno
                  have q1 : (0 : Int) ≤ (i : Int) := by omega
                  have q2 : (i : Int) < (runs.length : Int) := by omega
                  have q3 : (runs.length : Int) ≤ 3 := by omega
                  obtain ⟨b1, b2, b3⟩ := removeAll_stays (S := S) (B := 900000) ((runs.take i).map fresh) d (HIvO.out _ _ _ _ HIs2.out.iv).2.1.t
                  have hn0 := (HIvO.out _ _ _ _ HIs2.out.iv).2.1
                  rw [List.length_map, List.length_take] at b2
                  have hsn := removeAll_snoc (S := S) (fresh no) ((runs.take i).map fresh) d h0
                  rw [show (runs.take i).map fresh ++ [fresh no] = (runs.take (i + 1)).map fresh by rw [take_snoc hno, List.map_append]; rfl] at hsn
                  have hspl : runs.map fresh = (runs.take (i + 1)).map fresh ++ (runs.drop (i + 1)).map fresh := by rw [← List.map_append, List.take_append_drop]
                  have hst := fun h => removeAll_stop (S := S) ((runs.drop (i + 1)).map fresh) ((runs.take (i + 1)).map fresh) d h
                  rw [← hspl] at hst
                  obtain ⟨D, hD⟩ : ∃ D, D = (removeAll S d ((runs.take i).map fresh)).1 := ⟨_, rfl⟩
                  rw [← hD] at hd3 b1 b2 b3 hsn
                  have hsmD : Small D := ⟨by have := hn0.n; omega, by rw [b1]; exact hn0.T, fun x hx => by have := b3 x hx; omega⟩
                  have hrm := refRemove_any (hd3.disk.below (w' := wr.drew) (Below.refl _ _).drew) hsmD HSl.out no
                  have hfn : (fresh no).no = no := rfl
                  rw [hfn] at hsn
                  obtain ⟨E, hE⟩ : ∃ E, E = removeE S D no := ⟨_, rfl⟩
                  obtain ⟨D', hD'⟩ : ∃ D', D' = removeS S D no := ⟨_, rfl⟩
                  rw [← hE, ← hD'] at hrm hsn
                  have HRm := Lib.hid hrm
                  have HD3 := Lib.hid hd3
                  have HO3 := Lib.hid ho3
                  have HF3 := Lib.hid hf3
                  have HSn := Lib.hid hsn
                  have HSt := Lib.hid hst
                  have HLt := Lib.hid hlt
                  clear h0 hd3 ho3 hf3 hcl hno b1 b2 b3 hn0 hsn hspl hst hD hsmD hrm hfn hE hD' hi hrl hlt HI
                  go_upto_region 28 with fail
                  go_cut [17] (fun ev W3 => ev = .int .i64 E ∧ RowKit.Hid (∃ own4, DocAt base q r own4 S F D' run nos t uv nv W3 ∧ (∀ k, k < w.heap.size → own4 k = ownR k) ∧ Frame (fun k => ownR k ≠ 0 ∨ k = q) w W3))
                  case first =>
                    go_region_with (go_at_call 92; refine HRm.out.mono ?_; rintro e w6 ⟨rfl, hl6⟩; have HL6 := Lib.hid hl6; clear hl6)
                    all_goals
                      go_wp2_with fail
                      go_meet
                      case rel =>
                        obtain ⟨own4, k1, k2, k3⟩ := (HD3.out.below (w' := wr.drew) (Below.refl _ _).drew).callR HL6.out
                        exact ⟨rfl, Lib.hid ⟨own4, k1, fun k hk => by rw [k2 k (Nat.lt_of_lt_of_le hk HF3.out.size), HO3.out k hk], HF3.out.drew.then k3 (fun k hk e => .inl (by rw [HO3.out k hk] at e; exact e))⟩⟩
                  case rest =>
                    obtain ⟨rfl, HDl⟩ := hcut
                    by_cases hE0 : E = 0
                    · have g1 : (E != 0) = false := by simpa using hE0
                      have HE0 := Lib.hid hE0
                      clear hE0 c0 cn
                      go_wp2_with fail
                      go_roundw
                      case rel => exact ⟨i + 1, by go_num, HLt.out, Lib.hid ⟨by rw [HSn.out]; exact HE0.out, by rw [HSn.out]; exact HDl.out⟩⟩
                      case measure => have := HLt.out; simp [intOf]; omega
                    · have g1 : (E != 0) = true := by simpa using hE0
                      have hst := HSt.out (by rw [HSn.out]; exact hE0)
                      rw [HSn.out] at hst
                      have hr2 := HRr.out
                      rw [hst] at hr2
                      have HR2 := Lib.hid hr2
                      clear hE0 c0 cn hst hr2
                      go_wp2_with fail
                      go_ret
                      exact ⟨by rw [HR2.out]; rfl, by rw [HR2.out]; exact HDl.out⟩
                · have q2 : ¬ (i : Int) < (runs.length : Int) := by omega
                  have e : runs.take i = runs := List.take_of_length_le (by omega)
                  rw [e] at h0 hd3
                  have hr2 := HRr.out
                  rw [h0] at hr2
                  have HR2 := Lib.hid hr2
                  have HD3 := Lib.hid hd3
                  have HO3 := Lib.hid ho3
                  have HF3 := Lib.hid hf3
                  clear h0 hd3 ho3 hf3 c0 e hr2 hi hrl hlt HI
                  go_wp2_with fail
                  go_ret
                  exact ⟨by rw [HR2.out]; rfl, by rw [HR2.out]; exact ⟨own3, HD3.out, HO3.out, HF3.out⟩⟩
            · obtain ⟨hl3, hsd, htl, hstep⟩ := HIvO.out _ _ _ _ HIs2.out.iv
              obtain ⟨hgh, hll, hat9, hem⟩ := hstep j pj.line h1
              obtain ⟨rj, hrj1, hrj2, hrj3, -⟩ := least_some h1
              have hlk := HE2.out.2 j pj rj hj hrj1
              have hjl : j < P2.length := (List.getElem?_eq_some_iff.1 hj).1
              obtain ⟨f1, rfl⟩ : ∃ f1, f = f1 + 1 := ⟨f - 1, by have := HIs2.out.lt; omega⟩
              have hgs := HIs2.out.res
              rw [goA_some f1 d t rs h1] at hgs
              have hrow := HIs2.out.row
              rw [HLen.out] at hrow hjl
              rcases owns_shape hrow with ⟨-, h0⟩ | ⟨g, c, e⟩
              · omega
              cases e
              have q3 : (P.length : Int) ≤ 3 := by have := HE3.out; omega
              have q4 : (0 : Int) ≤ (j : Int) := by omega
              have q5 : (j : Int) < (P.length : Int) := by omega
              have q6 : ¬ (j : Int) < 0 := by omega
              have hat0 : pj.at' ≤ 900000 := by rw [hlk.2.2.2 hrj2]; exact hat9 rj hrj1
              have hgb := HIs2.out.free g rfl
              have hgw := (HIs2.out.row.lt g rfl).1
              have HHl := Lib.hid hll
              have HLtf := Lib.hid HIs2.out.lt
              have HNosI := Lib.hid HIs2.out.nos'
              have HHt := Lib.hid htl
              have HHg := Lib.hid hgh
              have HHat := Lib.hid hat0
              have HHem := Lib.hid hem
              have HSd := Lib.hid hsd
              have HRj1 := Lib.hid hrj1
              have HRj2 := Lib.hid hrj2
              have HLk2 := Lib.hid hlk
              have HGs := Lib.hid hgs
              have HJ := Lib.hid hj
              have HJl := Lib.hid hjl
              have HGb := Lib.hid hgb
              have HGw := Lib.hid hgw
              clear hl3 hsd htl hstep hgh hll hat9 hem hrj1 hrj2 hrj3 hlk hgs hrow h1 hat0 hj hjl hgb hgw
              go_upto_if 74 with fail
              go_cut [] (fun W2 => RowKit.Hid (Emitted base q r ownR S F into run nos uv nv w P2 (.slice (some ⟨g, 0, none⟩) P.length lc) d t pj.line W2))
              case first =>
                obtain ⟨SL, hSL⟩ : ∃ T : ByteArray, strV pj.line = .string T := ⟨_, rfl⟩
                have hrow := HIs2.out.row
                have cl : W.cell? ⟨g, j * 4 + 2, none⟩ = some (.string SL) := by
                  have := World.ownsRow.cells hrow (g := g) rfl _ _ (plL_get HJ.out).2.2.1
                  rwa [Addr.add_mid, Nat.zero_add, hSL] at this
                have hsl : SL.size ≤ 64 := by rw [strV_size hSL]; exact HHl.out
                by_cases hi : 0 < into
                · have e1 : emitE S into d pj.line = writeE S d into (pj.line ++ [10]) := if_pos hi
                  have e2 : emitS S into d pj.line = writeS S d into (pj.line ++ [10]) := if_pos hi
                  have e3 : emitT into t pj.line = t := if_pos hi
                  have c0 := HIs2.out.doc.c0
                  have hadd := add_fits (S := SL) (T := ⟨#[10]⟩) (by omega) (by decide)
                  have hadd2 : (9223372036854775807 < SL.size + 1) = False := by simp; omega
                  have hcat : strV (pj.line ++ [10]) = .string (SL ++ ⟨#[10]⟩) := strV_add hSL rfl
                  obtain ⟨bs, hbs⟩ : ∃ bs, bs = pj.line ++ [10] := ⟨_, rfl⟩
                  obtain ⟨ca, w5, hcv, -, hby, hb5⟩ := conv_str bs W.drew
                  rw [← hbs] at hcat e1 e2
                  rw [hcat] at hcv
                  have hbw : Below W.heap.size W w5 := (Below.refl _ _).drew.trans hb5
                  have c05 := Pm.Below.cell hbw c0
                  have cl5 := Pm.Below.cell hbw cl
                  have hwr := refWrite_any (HIs2.out.doc.disk.below hbw) (HSd.out.small (by decide) (by decide)) HSl.out into _ bs hby (fun k hk => Classical.byContradiction fun e => by have := (HIs2.out.doc.disk.bnd k e).2; have hk : W.heap.size ≤ k := hk; omega)
                  rw [← e1, ← e2] at hwr
                  obtain ⟨E, hE⟩ : ∃ E, E = emitE S into d pj.line := ⟨_, rfl⟩
                  obtain ⟨D', hD'⟩ : ∃ D', D' = emitS S into d pj.line := ⟨_, rfl⟩
                  rw [← hE, ← hD'] at hwr
                  have HWr := Lib.hid hwr
                  have HBw := Lib.hid hbw
                  have HEe := Lib.hid hE
                  have HDe := Lib.hid hD'
                  have HT := Lib.hid e3
                  clear hrow hSL hcat hbs hby hb5 hbw hwr hE hD' e1 e2 e3 hsl
                  go_upto_region 17 with fail
                  go_cut [13] (fun ev W3 => ev = .int .i64 E ∧ RowKit.Hid (∃ own4, DocAt base q r own4 S F D' run nos t uv nv W3 ∧ (∀ k, k < w5.heap.size → own4 k = own2 k) ∧ Frame (fun k => own2 k ≠ 0) W W3))
                  case first =>
                    go_region_with (go_at_call 89; refine HWr.out.mono ?_; rintro e w6 ⟨rfl, hl6⟩; have HL6 := Lib.hid hl6; clear hl6)
                    all_goals
                      go_wp2_with fail
                      go_meet
                      case rel =>
                        obtain ⟨own4, k1, k2, k3⟩ := (HIs2.out.doc.below HBw.out).callR HL6.out
                        exact ⟨rfl, Lib.hid ⟨own4, k1, k2, (Below.toFrame HBw.out _).trans k3⟩⟩
                  case rest =>
                    obtain ⟨rfl, HDl⟩ := hcut
                    obtain ⟨own4, k1, k2, k3⟩ := HDl.out
                    have hws := HHo.out.size
                    have hw5 := HBw.out.size
                    have hold : ∀ k, k < w.heap.size → own4 k = ownR k := fun k hk => by rw [k2 k (by omega), HIs2.out.old k hk]
                    have hfr : Frame (fun k => ownR k ≠ 0 ∨ k = q) w wc := HHo.out.then k3 (fun k hk e => .inl (by rw [HIs2.out.old k hk] at e; exact e))
                    have HK1 := Lib.hid k1
                    have HK2 := Lib.hid k2
                    have HK3 := Lib.hid k3
                    have HOl := Lib.hid hold
                    have HFr4 := Lib.hid hfr
                    clear k1 k2 k3 hold hfr HDl hws hw5
                    by_cases hE0 : E = 0
                    · have g1 : (E != 0) = false := by simpa using hE0
                      have HE0 := Lib.hid hE0
                      clear hE0 c0 cl c05 cl5 hcv hadd hadd2
                      go_wp2_with fail
                      go_meet
                      case rel =>
                        refine Lib.hid ⟨by rw [← HEe.out]; exact HE0.out, own4, ?_, HOl.out, fun k hk => ?_, ?_, HFr4.out⟩
                        · rw [← HDe.out, HT.out]; exact HK1.out
                        · have hk2 := (HIs2.out.row.lt k hk).2
                          rw [HK2.out k (Nat.lt_of_lt_of_le hk2 HBw.out.size)]
                          exact HIs2.out.free k hk
                        · exact HK3.out.owns HIs2.out.row (fun k hk e => e (HIs2.out.free k hk).1)
                    · have g1 : (E != 0) = true := by simpa using hE0
                      have hg := HGs.out
                      rw [← HEe.out, ← HDe.out, if_pos hE0] at hg
                      have hr2 := HG.out.1 (by rw [hg]; exact hE0)
                      rw [hg] at hr2
                      have HR2 := Lib.hid hr2
                      clear hE0 c0 cl c05 cl5 hcv hadd hadd2 hg hr2
                      go_wp2_with fail
                      go_ret
                      exact ⟨by rw [HR2.out]; rfl, own4, by rw [HR2.out]; exact HK1.out, HOl.out, HFr4.out⟩
                · have e1 : emitE S into d pj.line = 0 := if_neg hi
                  have e2 : emitS S into d pj.line = d := if_neg hi
                  have e3 : emitT into t pj.line = t ++ pj.line ++ [10] := if_neg hi
                  obtain ⟨ST, hST⟩ : ∃ T : ByteArray, strV t = .string T := ⟨_, rfl⟩
                  have hst : ST.size ≤ 2000000 := by rw [strV_size hST]; exact HHt.out
                  have c4 := HIs2.out.doc.c4
                  rw [hST] at c4
                  have z4 := HIs2.out.doc.froz 4
                  have hadd := add_fits (S := ST) (T := SL) (by omega) (by omega)
                  have hadd2 : (9223372036854775807 < ST.size + SL.size) = False := by simp; omega
                  have hadd3 : (9223372036854775807 < ST.size + SL.size + 1) = False := by simp; omega
                  have hput := HIs2.out.doc.putTold (t ++ pj.line ++ [10])
                  have hcat : strV (t ++ pj.line ++ [10]) = .string (ST ++ SL ++ ⟨#[10]⟩) := strV_add (strV_add hST hSL) rfl
                  rw [hcat] at hput
                  have hfr : Frame (fun k => ownR k ≠ 0 ∨ k = q) w (W.setCell ⟨q, 4, none⟩ (.string (ST ++ SL ++ ⟨#[10]⟩))).drew := (HHo.out.trans ((Frame.cell W ⟨q, 4, none⟩ _).mono (fun k _ e => .inr e))).drew
                  have hro : (W.setCell ⟨q, 4, none⟩ (.string (ST ++ SL ++ ⟨#[10]⟩))).drew.ownsRow w.heap.size 156 4 (.slice (some ⟨g, 0, none⟩) P.length lc) P2.length (plL P2) := (Frame.cell W ⟨q, 4, none⟩ _).drew.owns hrow (fun k hk e => (HIs2.out.free k hk).2 e)
                  have HPut := Lib.hid (hput.below (w' := (W.setCell ⟨q, 4, none⟩ (.string (ST ++ SL ++ ⟨#[10]⟩))).drew) (Below.refl _ _).drew)
                  have HFr4 := Lib.hid hfr
                  have HRo := Lib.hid hro
                  have HE1 := Lib.hid e1
                  have HE2' := Lib.hid e2
                  have HE3' := Lib.hid e3
                  clear hrow hSL hST hcat hput hfr hro e1 e2 e3
                  go_wp2_with fail
                  go_region
                  all_goals
                    go_wp2_with fail
                    go_meet
                    case rel =>
                      exact Lib.hid ⟨HE1.out, own2, by rw [HE2'.out, HE3'.out]; exact HPut.out, HIs2.out.old, HIs2.out.free, HRo.out, HFr4.out⟩
              case rest =>
                obtain ⟨hz, own3, hd3, ho3, hfree3, hrow3, hf3⟩ := hcut.out
                obtain ⟨D, hD⟩ : ∃ D, D = emitS S into d pj.line := ⟨_, rfl⟩
                obtain ⟨t3, ht3⟩ : ∃ t3, t3 = emitT into t pj.line := ⟨_, rfl⟩
                obtain ⟨hsm3, hnx⟩ := HHem.out hz
                have hgs := HGs.out
                rw [if_neg (by rw [hz]; decide)] at hgs
                have hra : readAt S D rs j = ((readR S D rj).1, rs.set j (readR S D rj).2.1, (readR S D rj).2.2) := by unfold readAt; rw [HRj1.out]
                have hnos3 := readAt_nos (S := S) D rs j
                rw [← hD, ← ht3] at hd3 hnx hgs
                rw [← hD] at hsm3
                rw [hra] at hnx hgs hnos3
                simp only at hnx hgs hnos3
                obtain ⟨p', hp1, hp2, hp3, hp4⟩ := got_on S D HLk2.out HRj2.out
                have hget := docGet_any hd3.c0 hd3.disk (hsm3.small (by decide) (by decide)) HSl.out pj.no pj.at' (by have := HHat.out; omega) pj.line pj.there
                unfold GotPlace at hget
                rw [hp1, ← hp3] at hget
                obtain ⟨SL, hSL⟩ : ∃ T : ByteArray, strV pj.line = .string T := ⟨_, rfl⟩
                obtain ⟨PL, hPL⟩ : ∃ T : ByteArray, strV p'.line = .string T := ⟨_, rfl⟩
                rw [HLen.out] at hrow3
                have hrg := (pl_there HJ.out hrow3).1
                unfold Pl.cells at hrg
                rw [hSL] at hrg
                unfold placeC at hget
                rw [hSL, hPL] at hget
                rw [← hp2] at hget hp4
                obtain ⟨E, hE⟩ : ∃ E, E = (readR S D rj).2.2 := ⟨_, rfl⟩
                obtain ⟨D2, hD2⟩ : ∃ D2, D2 = (readR S D rj).1 := ⟨_, rfl⟩
                obtain ⟨rj2, hrj2⟩ : ∃ r2, r2 = (readR S D rj).2.1 := ⟨_, rfl⟩
                rw [← hE] at hget hgs hnx hp4
                rw [← hD2] at hget hgs hnx
                rw [← hrj2] at hgs hnx hp4 hnos3
                have HGet := Lib.hid hget
                have HRg := Lib.hid hrg
                have HD3 := Lib.hid hd3
                have HO3 := Lib.hid ho3
                have HFree3 := Lib.hid hfree3
                have HRow3 := Lib.hid hrow3
                have HF3 := Lib.hid hf3
                have HNx := Lib.hid hnx
                have HGs3 := Lib.hid hgs
                have HNos3 := Lib.hid hnos3
                have HP4 := Lib.hid hp4
                have HPL := Lib.hid hPL
                clear hz hd3 ho3 hfree3 hrow3 hf3 hD ht3 hsm3 hnx hgs hra hnos3 hp1 hp2 hp3 hp4 hget hSL hPL hrg hE hD2 hrj2 hcut HHem HGs HIs2
                go_wp2_with (refine wpList_load_mid rfl 156 (.tmp 109) rfl g (j * 4) rfl _ _ HRg.out Tryz.underlying156 rfl (by kernel_rfl) ?_)
                refine HGet.out.mono ?_
                rintro e w5 ⟨rfl, hat5, hf5⟩
                have hbA : Below w5.heap.size w5 (w5.alloc (.cells #[.int .i64 p'.no, .int .i64 p'.at', .string PL, .bool p'.there] 156)) := (Below.refl _ _).alloc (Nat.le_refl _) _
                have HRowA := Lib.hid (heap_alloc_last w5 (.cells #[.int .i64 p'.no, .int .i64 p'.at', .string PL, .bool p'.there] 156))
                have HBA := Lib.hid hbA
                have HA5 := Lib.hid hat5
                have HF5 := Lib.hid hf5
                clear hat5 hf5 hbA HGet
                by_cases h0 : E = 0
                · have g1 : (E != 0) = false := by rw [h0]; rfl
                  have HE0 := Lib.hid h0
                  clear h0
                  go_upto_region 24 with fail
                  have hb2 := HBA.out
                  have hr2 := HRowA.out
                  have hrr := (HF5.out.owns HRow3.out (fun k hk e => by
                    have e' : k = r := e
                    have h1 := (HFree3.out k hk).1
                    obtain ⟨_, _, _, h2⟩ := HD3.out.disk
                    rw [e', h2.orr] at h1; cases h1))
                  have hrr2 := (Below.toFrame hb2 (fun _ => False)).owns hrr (fun _ _ e => e)
                  have hdd := (HD3.out.read HA5.out HF5.out).below hb2
                  have hor3 : own3 r = 1 := by obtain ⟨_, _, _, h2⟩ := HD3.out.disk; exact h2.orr
                  have hff : Frame (fun k => ownR k ≠ 0 ∨ k = q) w (w5.alloc (.cells #[.int .i64 p'.no, .int .i64 p'.at', .string PL, .bool p'.there] 156)) := (HF3.out.then HF5.out (fun k hk e => .inl (by have e' : k = r := e; rw [e', HOr.out]; decide))).trans (Below.toFrame hb2 _)
                  generalize w5.alloc (.cells #[.int .i64 p'.no, .int .i64 p'.at', .string PL, .bool p'.there] 156) = W6 at hb2 hr2 hrr2 hdd hff ⊢
                  have hth := (pl_there HJ.out hrr2).2
                  have hput := plL_put p' (by rw [HLen.out]; exact HJl.out) hrr2
                  unfold Pl.cells at hput
                  rw [HPL.out] at hput
                  have HR6 := Lib.hid hr2
                  have HTh := Lib.hid hth
                  have HPut := Lib.hid hput
                  have HDd := Lib.hid hdd
                  have HFf := Lib.hid hff
                  clear hb2 hr2 hrr hrr2 hdd hff hth hput HBA HRowA hor3
                  go_wp2_with (first | (refine wpList_load_row rfl 156 (.tmp 14) rfl w5.heap.size rfl 156 _ (0, 0) _ HR6.out Tryz.underlying156 rfl (by kernel_rfl) ?_) | (refine wpList_store_mid rfl 156 (.tmp 120) (.tmp 119) rfl g (j * 4) #[.int .i64 p'.no, .int .i64 p'.at', .string PL, .bool p'.there] rfl rfl HTh.out (by kernel_rfl) (by kernel_rfl) ?_))
                  go_roundg (gk - 1)
                  case measure => have := HHg.out; omega
                  case rel =>
                    have hdis : ∀ k, k = g → ¬ ownDoc own3 q uv nv k := fun k hk e => by
                      subst hk
                      rcases e with e | e | e | e
                      · exact e (HFree3.out k rfl).1
                      · exact (HFree3.out k rfl).2 e
                      · have := (H.out.run.lt k e).2; have := HGw.out; omega
                      · have := (H.out.nos.lt k e).2; have := HGw.out; omega
                    refine Lib.hid ⟨P2.set j p', D2, t3, rs.set j rj2, f1, own3, HNx.out HE0.out, ?_, ?_, HE2.out.put j (HP4.out HE0.out), by rw [List.length_set]; exact HLen.out, by rw [List.length_set, HLen.out]; exact HPut.out.1, ?_, HDd.out.frame HPut.out.2 hdis (fun k hk => by have e : k = g := hk; have := HGw.out; have := H.out.lt; have := H.out.low; omega), HO3.out, HFree3.out, HFf.out.then HPut.out.2 (fun k hk e => by have e : k = g := e; have := HGw.out; omega)⟩
                    · have := HHg.out; have := HLtf.out; omega
                    · rw [HGs3.out]; exact if_neg (by rw [HE0.out]; decide)
                    · rw [HNos3.out]; exact HNosI.out
                · have g1 : (E != 0) = true := by simpa using h0
                  have hg := HGs3.out
                  rw [if_pos h0] at hg
                  have hr2 := HG.out.1 (by rw [hg]; exact h0)
                  rw [hg] at hr2
                  have HR2 := Lib.hid hr2
                  clear h0 hg hr2
                  go_wp2_with fail
                  go_ret
                  exact ⟨by rw [HR2.out]; rfl, own3, by rw [HR2.out]; exact (HD3.out.read HA5.out HF5.out).below HBA.out, HO3.out, (HF3.out.then HF5.out (fun k hk e => .inl (by have e' : k = r := e; rw [e', HOr.out]; decide))).trans (Below.toFrame HBA.out _)⟩
end

end Go.Proofs.YtpgigpajpcianaaGreatDoor
