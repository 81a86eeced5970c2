/- The document's disk in memory; Counts, Is. -/
import Derived.Test.YtpengkkbmenkpaaFsnew
import Derived.Laws.OwnMore
namespace Go.Proofs.Ytpengkkbmenkpaa
open Go.RowKit

/-- The document's disk in block r; own: which of its parts lies in which block. -/
structure RDisk (base r : Nat) (own : Nat → Nat) (S : Script) (s : DSt) (sv tv bv : Value) (w : World) : Prop where
  heap : w.heap[r]? = some (.cells #[sv, tv, bv, .int .i64 s.n, .int .i64 s.id] 32 (0, 0))
  scr : IsScript (· < base) w sv S
  txt : w.ownsRow base 9 1 tv s.T.length (s.T.map fun t => strV t.1)
  thr : w.ownsRow base 4 1 bv s.T.length (s.T.map fun t => .bool t.2)
  orr : own r = 1
  ot : ∀ k, tv.ownBlock = some k → own k = 2
  ob : ∀ k, bv.ownBlock = some k → own k = 3
  bnd : ∀ k, own k ≠ 0 → base ≤ k ∧ k < w.heap.size
def RAt (base r : Nat) (own : Nat → Nat) (S : Script) (s : DSt) (w : World) : Prop := ∃ sv tv bv, RDisk base r own S s sv tv bv w
/-- What a call of the document's disk leaves. -/
def RLeft (base r : Nat) (own : Nat → Nat) (S : Script) (s : DSt) (w w' : World) : Prop :=
  ∃ own', RAt base r own' S s w' ∧ (∀ k, k < w.heap.size → own' k = own k) ∧ Frame (fun k => own k ≠ 0) w w'

section
variable {base r : Nat} {own : Nat → Nat} {S : Script} {s : DSt} {sv tv bv : Value} {w : World}
theorem RDisk.low (h : RDisk base r own S s sv tv bv w) {k : Nat} (hk : k < base) : own k = 0 := Classical.byContradiction fun h0 => by have := (h.bnd k h0).1; omega
theorem RDisk.frame {p : Nat → Prop} {w' : World} (h : RDisk base r own S s sv tv bv w) (hf : Frame p w w') (hp : ∀ k, p k → own k = 0) (hlow : ∀ k, p k → base ≤ k) : RDisk base r own S s sv tv bv w' where
  heap := hf.heap h.heap (fun e => by have := hp _ e; rw [h.orr] at this; cases this)
  scr := h.scr.frame hf (fun k hk e => by have := hlow k e; omega)
  txt := hf.owns h.txt (fun k hk e => by have := hp _ e; rw [h.ot k hk] at this; cases this)
  thr := hf.owns h.thr (fun k hk e => by have := hp _ e; rw [h.ob k hk] at this; cases this)
  orr := h.orr
  ot := h.ot
  ob := h.ob
  bnd k hk := ⟨(h.bnd k hk).1, Nat.lt_of_lt_of_le (h.bnd k hk).2 hf.size⟩
theorem RDisk.below {w' : World} (h : RDisk base r own S s sv tv bv w) (hb : Below w.heap.size w w') : RDisk base r own S s sv tv bv w' :=
  h.frame (Below.toFrame hb fun _ => False) (fun _ e => e.elim) (fun _ e => e.elim)
theorem RAt.frame {p : Nat → Prop} {w' : World} (h : RAt base r own S s w) (hf : Frame p w w') (hp : ∀ k, p k → own k = 0) (hlow : ∀ k, p k → base ≤ k) : RAt base r own S s w' := by
  obtain ⟨sv, tv, bv, h⟩ := h
  exact ⟨sv, tv, bv, h.frame hf hp hlow⟩
theorem RAt.below {w' : World} (h : RAt base r own S s w) (hb : Below w.heap.size w w') : RAt base r own S s w' :=
  h.frame (Below.toFrame hb fun _ => False) (fun _ e => e.elim) (fun _ e => e.elim)
theorem RAt.bnd (h : RAt base r own S s w) : ∀ k, own k ≠ 0 → base ≤ k ∧ k < w.heap.size := by
  obtain ⟨sv, tv, bv, h⟩ := h
  exact h.bnd
theorem RDisk.left (h : RDisk base r own S s sv tv bv w) {w' : World} (hb : Below w.heap.size w w') : RLeft base r own S s w w' :=
  ⟨own, ⟨sv, tv, bv, h.below hb⟩, fun _ _ => rfl, Below.toFrame hb _⟩
theorem RDisk.c0 (h : RDisk base r own S s sv tv bv w) : w.cell? ⟨r, 0, none⟩ = some sv := by rw [cell_of_row _ _ _ _ _ _ h.heap]; rfl
theorem RDisk.c1 (h : RDisk base r own S s sv tv bv w) : w.cell? ⟨r, 1, none⟩ = some tv := by rw [cell_of_row _ _ _ _ _ _ h.heap]; rfl
theorem RDisk.c2 (h : RDisk base r own S s sv tv bv w) : w.cell? ⟨r, 2, none⟩ = some bv := by rw [cell_of_row _ _ _ _ _ _ h.heap]; rfl
theorem RDisk.c3 (h : RDisk base r own S s sv tv bv w) : w.cell? ⟨r, 3, none⟩ = some (.int .i64 s.n) := by rw [cell_of_row _ _ _ _ _ _ h.heap]; rfl
theorem RDisk.c4 (h : RDisk base r own S s sv tv bv w) : w.cell? ⟨r, 4, none⟩ = some (.int .i64 s.id) := by rw [cell_of_row _ _ _ _ _ _ h.heap]; rfl
theorem RDisk.froz (h : RDisk base r own S s sv tv bv w) (k : Nat) : w.frozen? ⟨r, k, none⟩ = false := by simp [World.frozen?, h.heap]
theorem RDisk.put (h : RDisk base r own S s sv tv bv w) {w' : World} (n : Nat) (id : Int) (hg : w'.heap[r]? = some (.cells #[sv, tv, bv, .int .i64 n, .int .i64 id] 32 (0, 0)))
    (hf : Frame (· = r) w w') : RDisk base r own S { s with n := n, id := id } sv tv bv w' where
  heap := hg
  scr := h.scr.frame hf (fun k hk e => by have e' : k = r := e; have := (h.bnd r (by rw [h.orr]; omega)).1; omega)
  txt := hf.owns h.txt (fun k hk e => by have e' : k = r := e; have := h.ot k hk; rw [e', h.orr] at this; omega)
  thr := hf.owns h.thr (fun k hk e => by have e' : k = r := e; have := h.ob k hk; rw [e', h.orr] at this; omega)
  orr := h.orr
  ot := h.ot
  ob := h.ob
  bnd k hk := ⟨(h.bnd k hk).1, Nat.lt_of_lt_of_le (h.bnd k hk).2 hf.size⟩

theorem fails_take {S : Script} {k : Nat} {f : Int × Int} {n : Int} (hf : S[k]? = some f) (hn : failAt (S.take k) n = none) (hne : f.1 ≠ n) : failAt (S.take (k + 1)) n = none := by
  rw [take_snoc hf, failAt_snoc, hn]
  simp [hne]
theorem fails_at {S : Script} {k : Nat} {f : Int × Int} {n : Int} (hf : S[k]? = some f) (hn : failAt (S.take k) n = none) (he : f.1 = n) : failAt S n = some f.2 := by
  have h1 : S = S.take k ++ f :: S.drop (k + 1) := by
    have hk := (List.getElem?_eq_some_iff.1 hf).1
    have h2 := List.drop_eq_getElem_cons hk
    have h3 : S[k] = f := by simpa [hk] using hf
    rw [h3] at h2
    rw [← h2, List.take_append_drop]
  rw [h1, failAt_append, hn, failAt_cons, if_pos he]
  rfl

/-- What holds ahead of each round of Counts. -/
structure CountInv (base r : Nat) (own : Nat → Nat) (S : Script) (s : DSt) (sv tv bv : Value) (w : World) (k : Nat) (wr : World) : Prop where
  le : k ≤ S.length
  disk : RDisk base r own S { s with n := s.n + 1, id := s.id } sv tv bv wr
  fr : Frame (· = r) w wr
  no : failAt (S.take k) s.n = none

set_option maxRecDepth 100000 in
set_option maxHeartbeats 2000000 in
theorem counts_any (h : RDisk base r own S s sv tv bv w) (hn : s.n ≤ 1000000) (hS : S.length ≤ 1000000) :
    Calls Try.prog 31 #[.pointer (some ⟨r, 0, none⟩)] w fun e w' => e = .returned (.int .i64 (cntE S s)) ∧ RDisk base r own S (cntS S s) sv tv bv w' ∧ Frame (· = r) w w' := by
  have HH := Lib.hid h
  have c3 := h.c3
  have z3 := h.froz 3
  obtain ⟨sa, sc, rfl, -⟩ := id h.scr
  have q0 : (s.n : Int) ≤ 1000000 := by omega
  have HS := Lib.hid hS
  clear h hn hS
  go_enter Try.func31, Try.ntmps31
  go_upto_region 2 with fail
  have hi0 : CountInv base r own S s (.slice sa S.length sc) tv bv w 0 (w.setCell ⟨r, 3, none⟩ (.int .i64 ((s.n : Int) + 1))) :=
    ⟨Nat.zero_le _, HH.out.put (s.n + 1) s.id (setCell_row HH.out.heap 3 _) (Frame.cell w ⟨r, 3, none⟩ _), Frame.cell w ⟨r, 3, none⟩ _, rfl⟩
  have HI0 := Lib.hid hi0
  clear hi0 c3 z3
  generalize w.setCell ⟨r, 3, none⟩ (.int .i64 ((s.n : Int) + 1)) = W1 at HI0 ⊢
  go_wp2_with fail
  go_loopw [3] (fun i wr => ∃ k : Nat, i = .int .i64 k ∧ CountInv base r own S s (.slice sa S.length sc) tv bv w k wr) (fun i _ => S.length - (intOf i).toNat)
  case atStart => exact ⟨0, rfl, HI0.out⟩
  case round =>
    clear HI0
    obtain ⟨k, rfl, hinv⟩ := hrel
    have c0 := hinv.disk.c0
    have c3 : wr.cell? ⟨r, 3, none⟩ = some (.int .i64 ((s.n : Int) + 1)) := hinv.disk.c3
    have z4 := hinv.disk.froz 4
    have c4 := hinv.disk.c4
    by_cases hlt : k < S.length
    · have q1 : (0 : Int) ≤ (k : Int) := by omega
      have q2 : (k : Int) < (S.length : Int) := by omega
      have q3 : (k : Int) ≤ 1000000 := by have := HS.out; omega
      obtain ⟨f, hf⟩ : ∃ f, S[k]? = some f := ⟨S[k], by simp⟩
      obtain ⟨a', cap', e, hc⟩ := hinv.disk.scr
      obtain ⟨gb, off, rfl, -, hx, hy⟩ := hc k f hf
      cases e
      have HV := Lib.hid hinv
      have HF := Lib.hid hf
      have HK := Lib.hid hlt
      clear hc hf hinv hlt
      by_cases hhit : f.1 = (s.n : Int)
      · rw [hhit] at hx
        have HHit := Lib.hid hhit
        clear hhit
        go_wp2_with fail
        go_region
        go_wp2_with fail
        go_ret
        have hfail := fails_at HF.out HV.out.no HHit.out
        have h1 : cntE S s = 25 := by unfold cntE; rw [hfail]; rfl
        have h2 : cntS S s = { s with n := s.n + 1, id := f.2 } := by simp [cntS, hfail]
        have hfr : Frame (· = r) wr (wr.setCell ⟨r, 4, none⟩ (.int .i64 f.2)).drew := (Frame.cell wr ⟨r, 4, none⟩ _).drew
        rw [h1, h2]
        exact ⟨rfl, HV.out.disk.put (s.n + 1) f.2 (setCell_row HV.out.disk.heap 4 _) hfr, HV.out.fr.trans hfr⟩
      · have g1 : (f.1 == (s.n : Int)) = false := by simpa using hhit
        have HN := Lib.hid hhit
        clear hhit
        go_wp2_with fail
        go_region
        go_wp2_with fail
        refine ⟨⟨k + 1, by go_num, HK.out, HV.out.disk.below (Below.drew (Below.refl _ _)), HV.out.fr.drew, fails_take HF.out HV.out.no HN.out⟩, by have := HK.out; simp [intOf]; omega⟩
    · have q2 : ¬ (k : Int) < (S.length : Int) := by omega
      have HV := Lib.hid hinv
      have HK := Lib.hid hlt
      clear hinv hlt
      go_wp2_with fail
      go_ret
      have hno : failAt S s.n = none := by
        have := HV.out.no
        rwa [List.take_of_length_le (by have := HK.out; omega)] at this
      have h1 : cntE S s = 0 := by unfold cntE; rw [hno]; rfl
      have h2 : cntS S s = { s with n := s.n + 1, id := s.id } := by simp [cntS, hno]
      rw [h1, h2]
      exact ⟨rfl, HV.out.disk, HV.out.fr⟩
end
end Go.Proofs.Ytpengkkbmenkpaa
