/- The document's disk in memory; Counts, Is. -/
import Derived.Test.YtpgigpajpcianaaGreatDoorZFsA
import Derived.Laws.OwnMore
import Derived.Maps.AppendAt
namespace Go.Proofs.YtpgigpajpcianaaGreatDoor
open Go.RowKit

structure RDisk (base r : Nat) (own : Nat → Nat) (S : Script) (s : DSt) (sv tv bv : Value) (w : World) : Prop where
  heap : w.heap[r]? = some (.cells #[sv, tv, bv, .int .i64 s.n, .int .i64 s.id] 53 (0, 0))
  scr : IsScript (· < base) w sv S
  txt : w.ownsRow base 9 1 tv s.T.length (s.T.map fun t => strV t.1)
  thr : w.ownsRow base 4 1 bv s.T.length (s.T.map fun t => .bool t.2)
  orr : own r = 1
  ot : ∀ k, tv.ownBlock = some k → own k = 2
  ob : ∀ k, bv.ownBlock = some k → own k = 3
  bnd : ∀ k, own k ≠ 0 → base ≤ k ∧ k < w.heap.size
def RAt (base r : Nat) (own : Nat → Nat) (S : Script) (s : DSt) (w : World) : Prop := ∃ sv tv bv, RDisk base r own S s sv tv bv w
def RLeft (base r : Nat) (own : Nat → Nat) (S : Script) (s : DSt) (w w' : World) : Prop :=
  ∃ own', RAt base r own' S s w' ∧ (∀ k, k < w.heap.size → own' k = own k) ∧ Frame (fun k => own k ≠ 0) w w'
section
variable {base r : Nat} {own : Nat → Nat} {S : Script} {s : DSt} {sv tv bv : Value} {w : World}
theorem RDisk.low (h : RDisk base r own S s sv tv bv w) {k : Nat} (hk : k < base) : own k = 0 := Classical.byContradiction fun h0 => by have := (h.bnd k h0).1; omega
theorem RDisk.frame {p : Nat → Prop} {w' : World} (h : RDisk base r own S s sv tv bv w) (hf : Frame p w w') (hp : ∀ k, p k → own k = 0) (hlow : ∀ k, p k → base ≤ k) : RDisk base r own S s sv tv bv w' where
  heap := hf.heap h.heap (fun e => by have := hp _ e; rw [h.orr] at this; cases this)
  scr := h.scr.frame hf (fun k hk e => by have := hlow k e; omega)
  txt := hf.owns h.txt (fun k hk e => by have := hp _ e; rw [h.ot k hk] at this; cases this)
  thr := hf.owns h.thr (fun k hk e => by have := hp _ e; rw [h.ob k hk] at this; cases this)
  orr := h.orr
  ot := h.ot
  ob := h.ob
  bnd k hk := ⟨(h.bnd k hk).1, Nat.lt_of_lt_of_le (h.bnd k hk).2 hf.size⟩
theorem RDisk.below {w' : World} (h : RDisk base r own S s sv tv bv w) (hb : Below w.heap.size w w') : RDisk base r own S s sv tv bv w' :=
  h.frame (Below.toFrame hb fun _ => False) (fun _ e => e.elim) (fun _ e => e.elim)
theorem RAt.frame {p : Nat → Prop} {w' : World} (h : RAt base r own S s w) (hf : Frame p w w') (hp : ∀ k, p k → own k = 0) (hlow : ∀ k, p k → base ≤ k) : RAt base r own S s w' := by
  obtain ⟨sv, tv, bv, h⟩ := h
  exact ⟨sv, tv, bv, h.frame hf hp hlow⟩
theorem RAt.below {w' : World} (h : RAt base r own S s w) (hb : Below w.heap.size w w') : RAt base r own S s w' :=
  h.frame (Below.toFrame hb fun _ => False) (fun _ e => e.elim) (fun _ e => e.elim)
theorem RAt.bnd (h : RAt base r own S s w) : ∀ k, own k ≠ 0 → base ≤ k ∧ k < w.heap.size := by
  obtain ⟨sv, tv, bv, h⟩ := h
  exact h.bnd
theorem RDisk.left (h : RDisk base r own S s sv tv bv w) {w' : World} (hb : Below w.heap.size w w') : RLeft base r own S s w w' :=
  ⟨own, ⟨sv, tv, bv, h.below hb⟩, fun _ _ => rfl, Below.toFrame hb _⟩
theorem RDisk.c0 (h : RDisk base r own S s sv tv bv w) : w.cell? ⟨r, 0, none⟩ = some sv := by rw [cell_of_row _ _ _ _ _ _ h.heap]; rfl
theorem RDisk.c1 (h : RDisk base r own S s sv tv bv w) : w.cell? ⟨r, 1, none⟩ = some tv := by rw [cell_of_row _ _ _ _ _ _ h.heap]; rfl
theorem RDisk.c2 (h : RDisk base r own S s sv tv bv w) : w.cell? ⟨r, 2, none⟩ = some bv := by rw [cell_of_row _ _ _ _ _ _ h.heap]; rfl
theorem RDisk.c3 (h : RDisk base r own S s sv tv bv w) : w.cell? ⟨r, 3, none⟩ = some (.int .i64 s.n) := by rw [cell_of_row _ _ _ _ _ _ h.heap]; rfl
theorem RDisk.c4 (h : RDisk base r own S s sv tv bv w) : w.cell? ⟨r, 4, none⟩ = some (.int .i64 s.id) := by rw [cell_of_row _ _ _ _ _ _ h.heap]; rfl
theorem RDisk.froz (h : RDisk base r own S s sv tv bv w) (k : Nat) : w.frozen? ⟨r, k, none⟩ = false := by simp [World.frozen?, h.heap]
theorem RDisk.put (h : RDisk base r own S s sv tv bv w) {w' : World} (n : Nat) (id : Int) (hg : w'.heap[r]? = some (.cells #[sv, tv, bv, .int .i64 n, .int .i64 id] 53 (0, 0)))
    (hf : Frame (· = r) w w') : RDisk base r own S { s with n := n, id := id } sv tv bv w' where
  heap := hg
  scr := h.scr.frame hf (fun k hk e => by have e' : k = r := e; have := (h.bnd r (by rw [h.orr]; omega)).1; omega)
  txt := hf.owns h.txt (fun k hk e => by have e' : k = r := e; have := h.ot k hk; rw [e', h.orr] at this; omega)
  thr := hf.owns h.thr (fun k hk e => by have e' : k = r := e; have := h.ob k hk; rw [e', h.orr] at this; omega)
  orr := h.orr
  ot := h.ot
  ob := h.ob
  bnd k hk := ⟨(h.bnd k hk).1, Nat.lt_of_lt_of_le (h.bnd k hk).2 hf.size⟩
theorem fails_take {S : Script} {k : Nat} {f : Int × Int} {n : Int} (hf : S[k]? = some f) (hn : failAt (S.take k) n = none) (hne : f.1 ≠ n) : failAt (S.take (k + 1)) n = none := by
  rw [take_snoc hf, failAt_snoc, hn]
  simp [hne]
theorem fails_at {S : Script} {k : Nat} {f : Int × Int} {n : Int} (hf : S[k]? = some f) (hn : failAt (S.take k) n = none) (he : f.1 = n) : failAt S n = some f.2 := by
  have h1 : S = S.take k ++ f :: S.drop (k + 1) := by
    have hk := (List.getElem?_eq_some_iff.1 hf).1
    have h2 := List.drop_eq_getElem_cons hk
    have h3 : S[k] = f := by simpa [hk] using hf
    rw [h3] at h2
    rw [← h2, List.take_append_drop]
  rw [h1, failAt_append, hn, failAt_cons, if_pos he]
  rfl
structure CountInv (base r : Nat) (own : Nat → Nat) (S : Script) (s : DSt) (sv tv bv : Value) (w : World) (k : Nat) (wr : World) : Prop where
  le : k ≤ S.length
  disk : RDisk base r own S { s with n := s.n + 1, id := s.id } sv tv bv wr
  fr : Frame (· = r) w wr
  no : failAt (S.take k) s.n = none
set_option maxRecDepth 100000 in
set_option maxHeartbeats 2000000 in
theorem counts_any (h : RDisk base r own S s sv tv bv w) (hn : s.n ≤ 1000000) (hS : S.length ≤ 1000000) :
    Calls Tryz.prog 114 #[.pointer (some ⟨r, 0, none⟩)] w fun e w' => e = .returned (.int .i64 (cntE S s)) ∧ RDisk base r own S (cntS S s) sv tv bv w' ∧ Frame (· = r) w w' := by
  have HH := Lib.hid h
  have c3 := h.c3
  have z3 := h.froz 3
  obtain ⟨sa, sc, rfl, -⟩ := id h.scr
  have q0 : (s.n : Int) ≤ 1000000 := by omega
  have HS := Lib.hid hS
  clear h hn hS
  go_enter Tryz.func114, Tryz.ntmps114
  go_upto_region 2 with fail
  have hi0 : CountInv base r own S s (.slice sa S.length sc) tv bv w 0 (w.setCell ⟨r, 3, none⟩ (.int .i64 ((s.n : Int) + 1))) :=
    ⟨Nat.zero_le _, HH.out.put (s.n + 1) s.id (setCell_row HH.out.heap 3 _) (Frame.cell w ⟨r, 3, none⟩ _), Frame.cell w ⟨r, 3, none⟩ _, rfl⟩
  have HI0 := Lib.hid hi0
  clear hi0 c3 z3
  generalize w.setCell ⟨r, 3, none⟩ (.int .i64 ((s.n : Int) + 1)) = W1 at HI0 ⊢
  go_wp2_with fail
  go_loopw [3] (fun i wr => ∃ k : Nat, i = .int .i64 k ∧ CountInv base r own S s (.slice sa S.length sc) tv bv w k wr) (fun i _ => S.length - (intOf i).toNat)
  case atStart => exact ⟨0, rfl, HI0.out⟩
  case round =>
    clear HI0
    obtain ⟨k, rfl, hinv⟩ := hrel
    have c0 := hinv.disk.c0
    have c3 : wr.cell? ⟨r, 3, none⟩ = some (.int .i64 ((s.n : Int) + 1)) := hinv.disk.c3
    have z4 := hinv.disk.froz 4
    have c4 := hinv.disk.c4
    by_cases hlt : k < S.length
    · have q1 : (0 : Int) ≤ (k : Int) := by omega
      have q2 : (k : Int) < (S.length : Int) := by omega
      have q3 : (k : Int) ≤ 1000000 := by have := HS.out; omega
      obtain ⟨f, hf⟩ : ∃ f, S[k]? = some f := ⟨S[k], by simp⟩
      obtain ⟨a', cap', e, hc⟩ := hinv.disk.scr
      obtain ⟨gb, off, rfl, -, hx, hy⟩ := hc k f hf
      cases e
      have HV := Lib.hid hinv
      have HF := Lib.hid hf
      have HK := Lib.hid hlt
      clear hc hf hinv hlt
      by_cases hhit : f.1 = (s.n : Int)
      · rw [hhit] at hx
        have HHit := Lib.hid hhit
        clear hhit
        go_wp2_with fail
        go_region
        go_wp2_with fail
        go_ret
        have hfail := fails_at HF.out HV.out.no HHit.out
        have h1 : cntE S s = 25 := by unfold cntE; rw [hfail]; rfl
        have h2 : cntS S s = { s with n := s.n + 1, id := f.2 } := by simp [cntS, hfail]
        have hfr : Frame (· = r) wr (wr.setCell ⟨r, 4, none⟩ (.int .i64 f.2)).drew := (Frame.cell wr ⟨r, 4, none⟩ _).drew
        rw [h1, h2]
        exact ⟨rfl, HV.out.disk.put (s.n + 1) f.2 (setCell_row HV.out.disk.heap 4 _) hfr, HV.out.fr.trans hfr⟩
      · have g1 : (f.1 == (s.n : Int)) = false := by simpa using hhit
        have HN := Lib.hid hhit
        clear hhit
        go_wp2_with fail
        go_region
        go_wp2_with fail
        refine ⟨⟨k + 1, by go_num, HK.out, HV.out.disk.below (Below.drew (Below.refl _ _)), HV.out.fr.drew, fails_take HF.out HV.out.no HN.out⟩, by have := HK.out; simp [intOf]; omega⟩
    · have q2 : ¬ (k : Int) < (S.length : Int) := by omega
      have HV := Lib.hid hinv
      have HK := Lib.hid hlt
      clear hinv hlt
      go_wp2_with fail
      go_ret
      have hno : failAt S s.n = none := by
        have := HV.out.no
        rwa [List.take_of_length_le (by have := HK.out; omega)] at this
      have h1 : cntE S s = 0 := by unfold cntE; rw [hno]; rfl
      have h2 : cntS S s = { s with n := s.n + 1, id := s.id } := by simp [cntS, hno]
      rw [h1, h2]
      exact ⟨rfl, HV.out.disk, HV.out.fr⟩
end
end Go.Proofs.YtpgigpajpcianaaGreatDoor

namespace Go.Proofs.YtpgigpajpcianaaGreatDoor
open Go.RowKit

section
variable {base r : Nat} {own : Nat → Nat} {S : Script} {s : DSt} {sv tv bv : Value} {w : World}
theorem owns_shape {w : World} {base : Nat} {e : TypeId} {size : Nat} {v : Value} {n : Nat} {xs : List Value} (h : w.ownsRow base e size v n xs) : (v = .slice none 0 0 ∧ n = 0) ∨ ∃ g c, v = .slice (some ⟨g, 0, none⟩) n c := by
  rcases h.2 with ⟨rfl, rfl⟩ | ⟨g, cap, cur, rfl, _⟩
  · exact .inl ⟨rfl, rfl⟩
  · exact .inr ⟨_, _, rfl⟩
theorem RDisk.at (h : RDisk base r own S s sv tv bv w) {k : Nat} {t : List UInt8} {f : Bool} (hk : s.T[k]? = some (t, f)) :
    ∃ gt ct gb cb, tv = .slice (some ⟨gt, 0, none⟩) s.T.length ct ∧ bv = .slice (some ⟨gb, 0, none⟩) s.T.length cb ∧ w.cell? ⟨gt, k, none⟩ = some (strV t) ∧ w.cell? ⟨gb, k, none⟩ = some (.bool f) ∧ (∀ j, w.frozen? ⟨gt, j, none⟩ = false) ∧ (∀ j, w.frozen? ⟨gb, j, none⟩ = false) := by
  have hlt := (List.getElem?_eq_some_iff.1 hk).1
  have ht := h.txt
  have hb := h.thr
  rcases owns_shape ht with ⟨-, h0⟩ | ⟨gt, ct, rfl⟩
  · omega
  rcases owns_shape hb with ⟨-, h0⟩ | ⟨gb, cb, rfl⟩
  · omega
  refine ⟨gt, ct, gb, cb, rfl, rfl, ?_, ?_, ht.frozenAt, hb.frozenAt⟩
  · rw [ht.cellAt k (by omega)]
    simp [hk]
  · rw [hb.cellAt k (by omega)]
    simp [hk]
theorem fileAt_no {T : List (List UInt8 × Bool)} {no : Int} (h : fileAt T no = none) : no < 1 ∨ (T.length : Int) < no ∨ ∃ (k : Nat) (t : List UInt8), no = (k : Int) + 1 ∧ T[k]? = some (t, false) := by
  by_cases h1 : no < 1
  · exact .inl h1
  · by_cases h2 : (T.length : Int) < no
    · exact .inr (.inl h2)
    · obtain ⟨k, rfl⟩ : ∃ k : Nat, no = (k : Int) + 1 := ⟨(no - 1).toNat, by omega⟩
      have hk : k < T.length := by omega
      obtain ⟨x, hx⟩ : ∃ x, T[k]? = some x := ⟨T[k], by simp⟩
      obtain ⟨t, f⟩ := x
      cases f with
      | false => exact .inr (.inr ⟨k, t, rfl, hx⟩)
      | true =>
        rw [fileAt_some hx] at h
        cases h
set_option maxRecDepth 100000 in
set_option maxHeartbeats 1000000 in
theorem is_any (h : RDisk base r own S s sv tv bv w) (hT : s.T.length ≤ 64) (no : Int) :
    Calls Tryz.prog 115 #[.pointer (some ⟨r, 0, none⟩), .int .i64 no] w fun e w' => e = .returned (.bool (fileAt s.T no).isSome) ∧ w' = w := by
  have c1 := h.c1
  have c2 := h.c2
  have inT : ∀ (k : Nat) (t : List UInt8) (f : Bool), no = (k : Int) + 1 → s.T[k]? = some (t, f) → Calls Tryz.prog 115 #[.pointer (some ⟨r, 0, none⟩), .int .i64 no] w fun e w' => e = .returned (.bool f) ∧ w' = w := by
    intro k t f e1 hk
    subst e1
    obtain ⟨gt, ct, gb, cb, rfl, rfl, -, hc, -, -⟩ := h.at hk
    have hlt := (List.getElem?_eq_some_iff.1 hk).1
    obtain ⟨n, hn⟩ : ∃ n, n = s.T.length := ⟨_, rfl⟩
    rw [← hn] at c1 c2 hT hlt
    have q0 : (0 : Int) ≤ (k : Int) := by omega
    have q1 : (1 : Int) ≤ (k : Int) + 1 := by omega
    have q2 : (k : Int) + 1 ≤ (n : Int) := by omega
    have q3 : (k : Int) < (n : Int) := by omega
    have q4 : (k : Int) ≤ 64 := by omega
    clear h hk hn hT hlt
    go_enter Tryz.func115, Tryz.ntmps115
    go_wp2_with fail
    go_ret
    exact ⟨rfl, rfl⟩
  rcases fileAt_cases s.T no with ⟨k, t, e1, hk, hf⟩ | hf
  · rw [hf]
    exact inT k t true e1 hk
  · rw [hf]
    rcases fileAt_no hf with h1 | h1 | ⟨k, t, e1, hk⟩
    · have q1 : ¬ (1 : Int) ≤ no := by omega
      clear inT hf h1 h
      go_enter Tryz.func115, Tryz.ntmps115
      go_wp2_with fail
      go_ret
      exact ⟨rfl, rfl⟩
    · by_cases h2 : (1 : Int) ≤ no
      · obtain ⟨a, c, rfl⟩ := owns_slice h.txt
        obtain ⟨n, hn⟩ : ∃ n : Nat, n = s.T.length := ⟨_, rfl⟩
        rw [← hn] at c1 h1
        have q1 : ¬ no ≤ (n : Int) := by omega
        clear inT hf h h1 hn
        go_enter Tryz.func115, Tryz.ntmps115
        go_wp2_with fail
        go_ret
        exact ⟨rfl, rfl⟩
      · omega
    · exact inT k t false e1 hk
theorem RDisk.gone (h : RDisk base r own S s sv tv bv w) {k : Nat} {t : List UInt8} {f : Bool} (hk : s.T[k]? = some (t, f)) {gb cb : Nat} (hb : bv = .slice (some ⟨gb, 0, none⟩) s.T.length cb) (f' : Bool) :
    RDisk base r own S { s with T := s.T.set k (t, f') } sv tv bv (w.setCell ⟨gb, k, none⟩ (.bool f')) := by
  subst hb
  have hf : Frame (· = gb) w (w.setCell ⟨gb, k, none⟩ (.bool f')) := Frame.cell w ⟨gb, k, none⟩ (.bool f')
  have og : own gb = 3 := h.ob gb rfl
  have hne : r ≠ gb := fun e => by have := h.orr; rw [e, og] at this; omega
  have hlow := (h.bnd gb (by omega)).1
  refine ⟨hf.heap h.heap hne, h.scr.frame hf (fun j hj e => by have e' : j = gb := e; omega), ?_, ?_, h.orr, h.ot, h.ob, fun j hj => ⟨(h.bnd j hj).1, Nat.lt_of_lt_of_le (h.bnd j hj).2 hf.size⟩⟩
  · have := hf.owns h.txt (fun j hj e => by have e' : j = gb := e; have := h.ot j hj; rw [e'] at this; omega)
    have e2 : (s.T.set k (t, f')).map (fun t => strV t.1) = s.T.map fun t => strV t.1 := by
      apply List.ext_getElem?
      intro j
      simp only [List.getElem?_map, List.getElem?_set]
      by_cases hj : k = j
      · subst hj
        obtain ⟨hlt, e⟩ := List.getElem?_eq_some_iff.1 hk
        simp [hlt, e]
      · simp [hj]
    show World.ownsRow _ base 9 1 tv (s.T.set k (t, f')).length _
    rw [e2, List.length_set]
    exact this
  · have := (h.thr.stored k (.bool f')).1
    show World.ownsRow _ base 4 1 _ (s.T.set k (t, f')).length _
    rw [List.length_set, List.map_set]
    exact this
set_option maxRecDepth 100000 in
set_option maxHeartbeats 1000000 in
theorem refRemove_any (h : RAt base r own S s w) (hs : Small s) (hS : S.length ≤ 1000000) (no : Int) :
    Calls Tryz.prog 92 #[.pointer (some ⟨r, 0, none⟩), .int .i64 no] w fun e w' => e = .returned (.int .i64 (removeE S s no)) ∧ RLeft base r own S (removeS S s no) w w' := by
  obtain ⟨sv, tv, bv, h⟩ := h
  have HI := Lib.hid (is_any h hs.T no)
  have HC := Lib.hid (counts_any h hs.n hS)
  unfold removeE removeS
  rcases fileAt_cases s.T no with ⟨k, t, e1, hk, hf⟩ | hf
  · rw [hf] at HI ⊢
    simp only [Option.isNone_some, Option.isSome_some, Bool.false_eq_true, if_false, Option.getD_some] at HI ⊢
    have e2 : (no - 1).toNat = k := by omega
    rw [e2]
    have hfr : ∀ w', Frame (· = r) w w' → Frame (fun k => own k ≠ 0) w w' := fun w' hf => hf.mono (fun x _ e => by have e' : x = r := e; subst e'; show own x ≠ 0; rw [h.orr]; omega)
    by_cases he : cntE S s = 0
    · rw [if_pos he]
      rw [he] at HC ⊢
      obtain ⟨gt, ct, gb, cb, rfl, rfl, -⟩ := h.at hk
      have hlt := (List.getElem?_eq_some_iff.1 hk).1
      have HFR := Lib.hid hfr
      have HK := Lib.hid hk
      have HT := Lib.hid hs.T
      have HG := Lib.hid (h.ob gb rfl)
      obtain ⟨n, hn⟩ : ∃ n : Nat, n = s.T.length := ⟨_, rfl⟩
      have q0 : (0 : Int) ≤ (k : Int) := by omega
      have q3 : (k : Int) < (n : Int) := by omega
      have q4 : (k : Int) ≤ 64 := by have := hs.T; omega
      have HN := Lib.hid hn
      subst e1
      clear hfr hk hf hs he h hn hlt e2
      go_enter Tryz.func92, Tryz.ntmps92
      go_wp2_with (first | (refine HI.out.mono ?_; rintro e w' ⟨rfl, rfl⟩) | (refine HC.out.mono ?_; rintro e w1 ⟨rfl, hd, hfr⟩; have c2 := hd.c2; obtain ⟨_, _, _, _, e5, e6, -, hc, -, hz⟩ := hd.at HK.out; cases e6; have hz := hz k; rw [← HN.out] at c2; have HD := Lib.hid hd; have HF := Lib.hid hfr; clear hd hfr e5))
      go_ret
      have hg := HD.out.gone HK.out rfl false
      refine ⟨rfl, own, ⟨_, _, _, hg⟩, fun _ _ => rfl, (HFR.out _ HF.out).trans ((Frame.cell _ _ _).mono (fun x _ e => by have e' : x = gb := e; subst e'; show own x ≠ 0; rw [HG.out]; omega))⟩
    · rw [if_neg he]
      have HFR := Lib.hid hfr
      obtain ⟨E, hE⟩ : ∃ E, E = cntE S s := ⟨_, rfl⟩
      rw [← hE] at HC he ⊢
      have g1 : (E == 0) = false := by simpa using he
      clear hfr hk hf hs he h hE e1 e2
      go_enter Tryz.func92, Tryz.ntmps92
      go_wp2_with (first | (refine HI.out.mono ?_; rintro e w' ⟨rfl, rfl⟩) | (refine HC.out.mono ?_; rintro e w1 ⟨rfl, hd, hfr⟩; have HD := Lib.hid hd; have HF := Lib.hid hfr; clear hd hfr))
      go_ret
      exact ⟨rfl, own, ⟨_, _, _, HD.out⟩, fun _ _ => rfl, HFR.out _ HF.out⟩
  · rw [hf] at HI ⊢
    simp only [Option.isNone_none, Option.isSome_none, if_true] at HI ⊢
    have HL := Lib.hid (h.left (Below.refl w.heap.size w))
    clear hf hs HC h
    go_enter Tryz.func92, Tryz.ntmps92
    go_wp2_with (refine HI.out.mono ?_; rintro e w' ⟨rfl, rfl⟩)
    go_ret
    exact ⟨rfl, HL.out⟩
end
end Go.Proofs.YtpgigpajpcianaaGreatDoor

namespace Go.Proofs.YtpgigpajpcianaaGreatDoor
open Go.RowKit

structure RD (base r : Nat) (own : Nat → Nat) (S : Script) (n : Nat) (id : Int) (X Y : List Value) (sv tv bv : Value) (w : World) : Prop where
  heap : w.heap[r]? = some (.cells #[sv, tv, bv, .int .i64 n, .int .i64 id] 53 (0, 0))
  scr : IsScript (· < base) w sv S
  txt : w.ownsRow base 9 1 tv X.length X
  thr : w.ownsRow base 4 1 bv Y.length Y
  orr : own r = 1
  ot : ∀ k, tv.ownBlock = some k → own k = 2
  ob : ∀ k, bv.ownBlock = some k → own k = 3
  bnd : ∀ k, own k ≠ 0 → base ≤ k ∧ k < w.heap.size
section
variable {base r : Nat} {own : Nat → Nat} {S : Script} {s : DSt} {n : Nat} {id : Int} {X Y : List Value} {sv tv bv : Value} {w : World}
theorem RDisk.rd (h : RDisk base r own S s sv tv bv w) : RD base r own S s.n s.id (s.T.map fun t => strV t.1) (s.T.map fun t => .bool t.2) sv tv bv w :=
  ⟨h.heap, h.scr, by rw [List.length_map]; exact h.txt, by rw [List.length_map]; exact h.thr, h.orr, h.ot, h.ob, h.bnd⟩
theorem RD.disk (h : RD base r own S s.n s.id (s.T.map fun t => strV t.1) (s.T.map fun t => .bool t.2) sv tv bv w) : RDisk base r own S s sv tv bv w :=
  ⟨h.heap, h.scr, by have := h.txt; rwa [List.length_map] at this, by have := h.thr; rwa [List.length_map] at this, h.orr, h.ot, h.ob, h.bnd⟩
theorem RD.below {w' : World} (h : RD base r own S n id X Y sv tv bv w) (hb : Below w.heap.size w w') : RD base r own S n id X Y sv tv bv w' := by
  have hf := Below.toFrame hb fun _ => False
  exact ⟨hf.heap h.heap (fun h => h), h.scr.below hb, hf.owns h.txt (fun _ _ h => h), hf.owns h.thr (fun _ _ h => h), h.orr, h.ot, h.ob, fun k hk => ⟨(h.bnd k hk).1, Nat.lt_of_lt_of_le (h.bnd k hk).2 hf.size⟩⟩
theorem RD.text (h : RD base r own S n id X Y sv tv bv w) {Z : List Value} {v' : Value} {w1 : World} (ho : w1.ownsRow base 9 1 v' Z.length Z) (hg : w.grownBy w1 tv.ownBlock) (hl : v'.ownBlock = tv.ownBlock ∨ v'.ownBlock = some w.heap.size) :
    RD base r (fun k => if v'.ownBlock = some k then 2 else own k) S n id Z Y sv v' bv (w1.setCell ⟨r, 1, none⟩ v') ∧ (∀ k, k < w.heap.size → (if v'.ownBlock = some k then 2 else own k) = own k) ∧ Frame (fun k => own k ≠ 0) w (w1.setCell ⟨r, 1, none⟩ v') := by
  have orr := h.orr
  have hr := h.bnd r (by omega)
  have hsame : ∀ k, k < w.heap.size → (if v'.ownBlock = some k then 2 else own k) = own k := fun k hk => by
    split
    · rename_i e
      rcases hl with hl | hl <;> rw [e] at hl
      · exact (h.ot k hl.symm).symm
      · cases hl
        omega
    · rfl
  have hrow : tv.ownBlock ≠ some r := fun e => by have := h.ot r e; omega
  have hh1 : w1.heap[r]? = _ := (hg.block r hr.2 (fun e => hrow e.symm)).trans h.heap
  have hf1 : Frame (fun k => tv.ownBlock = some k) w w1 := (Frame.refl _ w).grown hg (fun k _ e => e)
  have hfc : Frame (· = r) w1 (w1.setCell ⟨r, 1, none⟩ v') := Frame.cell w1 ⟨r, 1, none⟩ v'
  have hf : Frame (fun k => own k ≠ 0) w (w1.setCell ⟨r, 1, none⟩ v') := (hf1.mono (fun k _ e => by have := h.ot k e; show own k ≠ 0; omega)).then hfc (fun k _ e => by have e' : k = r := e; subst e'; omega)
  have hlow : ∀ k, k < base → own k = 0 := fun k hk => Classical.byContradiction fun h0 => by have := (h.bnd k h0).1; omega
  refine ⟨⟨?_, h.scr.frame hf (fun k hk e => e (hlow k hk)), ?_, ?_, ?_, ?_, ?_, fun k hk => ?_⟩, hsame, hf⟩
  · rw [setCell_row hh1]
    rfl
  · exact hfc.owns ho (fun k hk e => by have e' : k = r := e; rcases hl with hl | hl <;> rw [hk, e'] at hl; exact hrow hl.symm; cases hl; omega)
  · exact hfc.owns (hf1.owns h.thr (fun k hk e => by have h1 := h.ob k hk; have h2 := h.ot k e; omega)) (fun k hk e => by have e' : k = r := e; have := h.ob k hk; rw [e'] at this; omega)
  · show (if v'.ownBlock = some r then 2 else own r) = 1
    rw [hsame r hr.2]
    exact orr
  · exact fun k hk => if_pos hk
  · exact fun k hk => by rw [hsame k (h.bnd k (by rw [h.ob k hk]; omega)).2]; exact h.ob k hk
  · by_cases hv : v'.ownBlock = some k
    · exact ⟨(ho.lt k hv).1, Nat.lt_of_lt_of_le (ho.lt k hv).2 hfc.size⟩
    · simp only [hv, if_false] at hk
      exact ⟨(h.bnd k hk).1, Nat.lt_of_lt_of_le (h.bnd k hk).2 hf.size⟩
theorem RD.flag (h : RD base r own S n id X Y sv tv bv w) {Z : List Value} {v' : Value} {w1 : World} (ho : w1.ownsRow base 4 1 v' Z.length Z) (hg : w.grownBy w1 bv.ownBlock) (hl : v'.ownBlock = bv.ownBlock ∨ v'.ownBlock = some w.heap.size) :
    RD base r (fun k => if v'.ownBlock = some k then 3 else own k) S n id X Z sv tv v' (w1.setCell ⟨r, 2, none⟩ v') ∧ (∀ k, k < w.heap.size → (if v'.ownBlock = some k then 3 else own k) = own k) ∧ Frame (fun k => own k ≠ 0) w (w1.setCell ⟨r, 2, none⟩ v') := by
  have orr := h.orr
  have hr := h.bnd r (by omega)
  have hsame : ∀ k, k < w.heap.size → (if v'.ownBlock = some k then 3 else own k) = own k := fun k hk => by
    split
    · rename_i e
      rcases hl with hl | hl <;> rw [e] at hl
      · exact (h.ob k hl.symm).symm
      · cases hl
        omega
    · rfl
  have hrow : bv.ownBlock ≠ some r := fun e => by have := h.ob r e; omega
  have hh1 : w1.heap[r]? = _ := (hg.block r hr.2 (fun e => hrow e.symm)).trans h.heap
  have hf1 : Frame (fun k => bv.ownBlock = some k) w w1 := (Frame.refl _ w).grown hg (fun k _ e => e)
  have hfc : Frame (· = r) w1 (w1.setCell ⟨r, 2, none⟩ v') := Frame.cell w1 ⟨r, 2, none⟩ v'
  have hf : Frame (fun k => own k ≠ 0) w (w1.setCell ⟨r, 2, none⟩ v') := (hf1.mono (fun k _ e => by have := h.ob k e; show own k ≠ 0; omega)).then hfc (fun k _ e => by have e' : k = r := e; subst e'; omega)
  have hlow : ∀ k, k < base → own k = 0 := fun k hk => Classical.byContradiction fun h0 => by have := (h.bnd k h0).1; omega
  refine ⟨⟨?_, h.scr.frame hf (fun k hk e => e (hlow k hk)), ?_, ?_, ?_, ?_, ?_, fun k hk => ?_⟩, hsame, hf⟩
  · rw [setCell_row hh1]
    rfl
  · exact hfc.owns (hf1.owns h.txt (fun k hk e => by have h1 := h.ot k hk; have h2 := h.ob k e; omega)) (fun k hk e => by have e' : k = r := e; have := h.ot k hk; rw [e'] at this; omega)
  · exact hfc.owns ho (fun k hk e => by have e' : k = r := e; rcases hl with hl | hl <;> rw [hk, e'] at hl; exact hrow hl.symm; cases hl; omega)
  · show (if v'.ownBlock = some r then 3 else own r) = 1
    rw [hsame r hr.2]
    exact orr
  · exact fun k hk => by rw [hsame k (h.bnd k (by rw [h.ot k hk]; omega)).2]; exact h.ot k hk
  · exact fun k hk => if_pos hk
  · by_cases hv : v'.ownBlock = some k
    · exact ⟨(ho.lt k hv).1, Nat.lt_of_lt_of_le (ho.lt k hv).2 hfc.size⟩
    · simp only [hv, if_false] at hk
      exact ⟨(h.bnd k hk).1, Nat.lt_of_lt_of_le (h.bnd k hk).2 hf.size⟩
theorem RD.kept (h : RD base r own S n id X Y sv tv bv w) {w1 : World} {row : Option Nat} (hg : w.grownBy w1 row) (hrow : ∀ k, row = some k → own k ≠ 1) : w1.cell? ⟨r, 1, none⟩ = some tv ∧ w1.cell? ⟨r, 2, none⟩ = some bv ∧ (∀ j, w1.frozen? ⟨r, j, none⟩ = false) := by
  have hh : w1.heap[r]? = _ := (hg.block r (Array.getElem?_eq_some_iff.1 h.heap).1 (fun e => hrow r e.symm h.orr)).trans h.heap
  exact ⟨by rw [cell_of_row _ _ _ _ _ _ hh]; rfl, by rw [cell_of_row _ _ _ _ _ _ hh]; rfl, fun j => by simp [World.frozen?, hh]⟩
theorem RD.c2 (h : RD base r own S n id X Y sv tv bv w) : w.cell? ⟨r, 2, none⟩ = some bv := by rw [cell_of_row _ _ _ _ _ _ h.heap]; rfl
theorem RD.c1 (h : RD base r own S n id X Y sv tv bv w) : w.cell? ⟨r, 1, none⟩ = some tv := by rw [cell_of_row _ _ _ _ _ _ h.heap]; rfl
theorem Tryz.info4b : (Tryz.prog.info? 4).map (fun i => (i.zero, i.size, i.bytes)) = some (some (.bool false), 1, 1) := by kernel_rfl
set_option maxRecDepth 100000 in
set_option maxHeartbeats 2000000 in
theorem refCreate_any (h : RAt base r own S s w) (hs : Small s) (hS : S.length ≤ 1000000) :
    Calls Tryz.prog 88 #[.pointer (some ⟨r, 0, none⟩)] w fun e w' => e = .returned (.tuple #[.int .i64 (createN S s), .int .i64 (createE S s)]) ∧ RLeft base r own S (createS S s) w w' := by
  obtain ⟨sv, tv, bv, h⟩ := h
  have c1 := h.c1
  obtain ⟨ta, tc, rfl⟩ := owns_slice h.txt
  obtain ⟨ba, bc, rfl⟩ := owns_slice h.thr
  have HC := Lib.hid (counts_any h hs.n hS)
  have hsT := hs.T
  unfold createN createE createS
  by_cases hm : 64 ≤ s.T.length
  · rw [if_pos hm, if_pos hm, if_neg (by decide)]
    have e1 : s.T.length = 64 := by omega
    rw [e1] at c1
    have HL := Lib.hid (h.left (Below.refl w.heap.size w))
    clear HC h hs hm hsT
    go_enter Tryz.func88, Tryz.ntmps88
    go_wp2_with fail
    go_ret2
    exact ⟨rfl, HL.out⟩
  · rw [if_neg hm, if_neg hm]
    have g0 : ((s.T.length : Int) == 64) = false := by simp; omega
    have hfr : ∀ w', Frame (· = r) w w' → Frame (fun k => own k ≠ 0) w w' := fun w' hf => hf.mono (fun x _ e => by have e' : x = r := e; subst e'; show own x ≠ 0; rw [h.orr]; omega)
    have HFR := Lib.hid hfr
    by_cases he : cntE S s = 0
    · rw [if_pos he, if_pos he]
      rw [he] at HC ⊢
      obtain ⟨i9, hi9, y0, y1, y2⟩ := info_parts Tryz.info9
      obtain ⟨i4, hi4, z0, z1, z2⟩ := info_parts Tryz.info4b
      have q1 : (s.T.length : Int) ≤ 64 := by omega
      have Y0 := Lib.hid y0
      have Y1 := Lib.hid y1
      have Y2 := Lib.hid y2
      have Z0 := Lib.hid z0
      have Z1 := Lib.hid z1
      have Z2 := Lib.hid z2
      have I9 := Lib.hid hi9
      have I4 := Lib.hid hi4
      clear hfr hsT hs h he y0 y1 y2 z0 z1 z2 hi9 hi4
      go_enter Tryz.func88, Tryz.ntmps88
      go_wp2_with fail
      refine HC.out.mono ?_
      rintro e w1 ⟨rfl, hd, hf⟩
      have c1 : w1.cell? ⟨r, 1, none⟩ = some (.slice ta s.T.length tc) := hd.c1
      have z1 := hd.froz 1
      have HD := Lib.hid (show RD base r own S (cntS S s).n (cntS S s).id (s.T.map fun t => strV t.1) (s.T.map fun t => .bool t.2) sv (.slice ta s.T.length tc) (.slice ba s.T.length bc) w1 from hd.rd)
      have HF := Lib.hid hf
      clear hd hf
      go_upto_region 7 with (at_builtin; refine wpList_append_own_at _ rfl _ _ 50 rfl base 9 i9 (.string ByteArray.empty) 1 16 Tryz.underlying50 I9.out Y0.out Y1.out Y2.out rfl (by decide) _ _ _ rfl (HD.out.below ((Below.refl w1.heap.size w1).alloc (Nat.le_refl _) (.cells #[.string ByteArray.empty] 9))).txt ⟨w1.heap.size, 0, none⟩ 1 1 [.string ByteArray.empty] rfl rfl (cell_one_new _ _ _) (by simp [Value.oneCell']) ?p1 ?p2 ?p3 ?_)
      case p1 => rw [List.length_map]; unfold maxLen; omega
      case p2 => rw [List.length_map]; omega
      case p3 => have := HD.out.bnd r (by rw [HD.out.orr]; omega); simp; omega
      intro tv' W2 ho hg _ hl
      have hda := HD.out.below ((Below.refl w1.heap.size w1).alloc (Nat.le_refl _) (.cells #[.string ByteArray.empty] 9))
      have ho2 : W2.ownsRow base 9 1 tv' (List.map (fun t : List UInt8 × Bool => strV t.1) s.T ++ [Value.string ByteArray.empty]).length (List.map (fun t : List UInt8 × Bool => strV t.1) s.T ++ [Value.string ByteArray.empty]) := by rw [List.length_append, List.length_map]; exact ho
      obtain ⟨hr2, hs2, hf2⟩ := hda.text ho2 hg (by rw [World.size_alloc]; exact hl)
      obtain ⟨c1, -, z1⟩ := hda.kept hg (fun k e => by rw [hda.ot k e]; omega)
      have z1 := z1 1
      obtain ⟨ta2, tc2, rfl⟩ := owns_slice ho
      have hf2' : Frame (fun k => own k ≠ 0) w (W2.setCell ⟨r, 1, none⟩ (.slice ta2 (s.T.length + 1) tc2)) := ((HFR.out _ HF.out).trans (Below.toFrame ((Below.refl w1.heap.size w1).alloc (Nat.le_refl _) _) _)).trans hf2
      have hs2' : ∀ k, k < w.heap.size → (if (Value.slice ta2 (s.T.length + 1) tc2).ownBlock = some k then 2 else own k) = own k := fun k hk => hs2 k (by have := HF.out.size; simp; omega)
      generalize hown2 : (fun k => if (Value.slice ta2 (s.T.length + 1) tc2).ownBlock = some k then 2 else own k) = own2 at hr2
      replace hs2' : ∀ k, k < w.heap.size → own2 k = own k := fun k hk => by rw [← hown2]; exact hs2' k hk
      have HR2 := Lib.hid hr2
      have HF2 := Lib.hid hf2'
      have HS2 := Lib.hid hs2'
      clear hda ho ho2 hg hl hr2 hs2 hf2 hf2' hs2' hown2 HD HF
      go_upto_region 7 with fail
      generalize W2.setCell ⟨r, 1, none⟩ (.slice ta2 (s.T.length + 1) tc2) = W3 at HR2 HF2 ⊢
      have hr2 := HR2.out
      have c2 := hr2.c2
      clear hr2 c1 z1
      go_upto_region 8 with (at_builtin; refine wpList_append_own_at _ rfl _ _ 51 rfl base 4 i4 (.bool false) 1 1 Tryz.underlying51 I4.out Z0.out Z1.out Z2.out rfl (by decide) _ _ _ rfl (HR2.out.below ((Below.refl W3.heap.size W3).alloc (Nat.le_refl _) (.cells #[.bool true] 4))).thr ⟨W3.heap.size, 0, none⟩ 1 1 [.bool true] rfl rfl (cell_one_new _ _ _) (by simp [Value.oneCell']) ?p1 ?p2 ?p3 ?_)
      case p1 => rw [List.length_map]; unfold maxLen; omega
      case p2 => rw [List.length_map]; omega
      case p3 => have := HR2.out.bnd r (by rw [HR2.out.orr]; omega); simp; omega
      intro bv' W4 ho hg _ hl
      have hda := HR2.out.below ((Below.refl W3.heap.size W3).alloc (Nat.le_refl _) (.cells #[.bool true] 4))
      have ho2 : W4.ownsRow base 4 1 bv' (List.map (fun t : List UInt8 × Bool => Value.bool t.2) s.T ++ [Value.bool true]).length (List.map (fun t : List UInt8 × Bool => Value.bool t.2) s.T ++ [Value.bool true]) := by rw [List.length_append, List.length_map]; exact ho
      obtain ⟨hr4, hs4, hf4⟩ := hda.flag ho2 hg (by rw [World.size_alloc]; exact hl)
      obtain ⟨-, c2, z2⟩ := hda.kept hg (fun k e => by rw [hda.ob k e]; omega)
      have z2 := z2 2
      obtain ⟨ba2, bc2, rfl⟩ := owns_slice ho
      have hlt2 : w.heap.size ≤ W3.heap.size := HF2.out.size
      have hf4' : Frame (fun k => own k ≠ 0) w (W4.setCell ⟨r, 2, none⟩ (.slice ba2 (s.T.length + 1) bc2)) := (HF2.out.trans (Below.toFrame ((Below.refl W3.heap.size W3).alloc (Nat.le_refl _) _) _)).then hf4 (fun k hk e => by have := HS2.out k hk; rw [← this]; exact e)
      have hs4' : ∀ k, k < w.heap.size → (if (Value.slice ba2 (s.T.length + 1) bc2).ownBlock = some k then 3 else own2 k) = own k := fun k hk => (hs4 k (by simp; omega)).trans (HS2.out k hk)
      have hx : List.map (fun t : List UInt8 × Bool => strV t.1) s.T ++ [Value.string ByteArray.empty] = List.map (fun t : List UInt8 × Bool => strV t.1) (s.T ++ [([], true)]) := by rw [List.map_append]; rfl
      have hy : List.map (fun t : List UInt8 × Bool => Value.bool t.2) s.T ++ [Value.bool true] = List.map (fun t : List UInt8 × Bool => Value.bool t.2) (s.T ++ [([], true)]) := by rw [List.map_append]; rfl
      rw [hx, hy] at hr4
      have HR4 := Lib.hid (show RDisk base r _ S { cntS S s with T := s.T ++ [([], true)] } sv _ _ _ from RD.disk hr4)
      have HF4 := Lib.hid hf4'
      have HS4 := Lib.hid hs4'
      clear hda ho ho2 hg hl hr4 hs4 hf4 hf4' hs4' hx hy HR2 HF2 HS2
      go_upto_region 8 with fail
      have c1 := HR4.out.c1
      go_wp2_with fail
      go_ret2
      exact ⟨rfl, _, ⟨_, _, _, HR4.out⟩, HS4.out, HF4.out⟩
    · rw [if_neg he, if_neg he]
      obtain ⟨E, hE⟩ : ∃ E, E = cntE S s := ⟨_, rfl⟩
      rw [← hE] at HC he ⊢
      have g1 : (E != 0) = true := by simpa using he
      clear hfr hsT hs h hE he hm
      go_enter Tryz.func88, Tryz.ntmps88
      go_wp2_with (refine HC.out.mono ?_; rintro e w1 ⟨rfl, hd, hf⟩; have HD := Lib.hid hd; have HF := Lib.hid hf; clear hd hf)
      go_ret2
      exact ⟨rfl, own, ⟨_, _, _, HD.out⟩, fun _ _ => rfl, HFR.out _ HF.out⟩
end
end Go.Proofs.YtpgigpajpcianaaGreatDoor

namespace Go.Proofs.YtpgigpajpcianaaGreatDoor
open Go.RowKit

section
variable {base r : Nat} {own : Nat → Nat} {S : Script} {s : DSt} {sv tv bv : Value} {w : World}
theorem RDisk.wrote (h : RDisk base r own S s sv tv bv w) {k : Nat} {t : List UInt8} (hk : s.T[k]? = some (t, true)) {gt ct : Nat} (ht : tv = .slice (some ⟨gt, 0, none⟩) s.T.length ct) (t' : List UInt8) :
    RDisk base r own S { s with T := s.T.set k (t', true) } sv tv bv (w.setCell ⟨gt, k, none⟩ (strV t')) := by
  subst ht
  have hf : Frame (· = gt) w (w.setCell ⟨gt, k, none⟩ (strV t')) := Frame.cell w ⟨gt, k, none⟩ (strV t')
  have og : own gt = 2 := h.ot gt rfl
  have hne : r ≠ gt := fun e => by have := h.orr; rw [e, og] at this; omega
  have hlow := (h.bnd gt (by omega)).1
  refine ⟨hf.heap h.heap hne, h.scr.frame hf (fun j hj e => by have e' : j = gt := e; omega), ?_, ?_, h.orr, h.ot, h.ob, fun j hj => ⟨(h.bnd j hj).1, Nat.lt_of_lt_of_le (h.bnd j hj).2 hf.size⟩⟩
  · have := (h.txt.stored k (strV t')).1
    show World.ownsRow _ base 9 1 _ (s.T.set k (t', true)).length _
    rw [List.length_set, List.map_set]
    exact this
  · have := hf.owns h.thr (fun j hj e => by have e' : j = gt := e; have := h.ob j hj; rw [e'] at this; omega)
    have e2 : (s.T.set k (t', true)).map (fun t => (Value.bool t.2)) = s.T.map fun t => .bool t.2 := by
      apply List.ext_getElem?
      intro j
      simp only [List.getElem?_map, List.getElem?_set]
      by_cases hj : k = j
      · subst hj
        obtain ⟨hlt, e⟩ := List.getElem?_eq_some_iff.1 hk
        simp [hlt, e]
      · simp [hj]
    show World.ownsRow _ base 4 1 bv (s.T.set k (t', true)).length _
    rw [e2, List.length_set]
    exact this
set_option maxRecDepth 100000 in
set_option maxHeartbeats 1000000 in
theorem refWrite_any {p : Nat → Prop} (h : RAt base r own S s w) (hs : Small s) (hS : S.length ≤ 1000000) (no : Int) (vs : Value) (bs : List UInt8) (hsrc : IsBytes p w vs bs) (hp : ∀ k, p k → own k = 0) :
    Calls Tryz.prog 89 #[.pointer (some ⟨r, 0, none⟩), .int .i64 no, vs] w fun e w' => e = .returned (.int .i64 (writeE S s no bs)) ∧ RLeft base r own S (writeS S s no bs) w w' := by
  obtain ⟨sv, tv, bv, h⟩ := h
  have HI := Lib.hid (is_any h hs.T no)
  have HC := Lib.hid (counts_any h hs.n hS)
  obtain ⟨sa, sc, rfl, -⟩ := id hsrc
  have HSR := Lib.hid (show ∀ w', Frame (· = r) w w' → IsBytes p w' (.slice sa bs.length sc) bs from fun w' hf => hsrc.frame hf (fun k hk e => by have h3 := hp k hk; have h4 := h.orr; have e' : k = r := e; rw [e'] at h3; omega))
  have HL := Lib.hid (h.left (Below.refl w.heap.size w))
  have hfr : ∀ w', Frame (· = r) w w' → Frame (fun k => own k ≠ 0) w w' := fun w' hf => hf.mono (fun x _ e => by have e' : x = r := e; subst e'; show own x ≠ 0; rw [h.orr]; omega)
  have HFR := Lib.hid hfr
  clear hsrc hp hfr
  unfold writeE writeS
  by_cases hc : (fileAt s.T no).isNone = true ∨ bs.length < 1 ∨ 1024 < bs.length
  · rw [if_pos hc, if_pos hc]
    by_cases h0 : (fileAt s.T no).isSome = true
    · rw [h0] at HI
      have h0' : (fileAt s.T no).isNone = false := by cases hx : fileAt s.T no <;> rw [hx] at h0 <;> simp at h0 ⊢
      by_cases h1 : bs.length < 1
      · have q1 : (bs.length : Int) < 1 := by omega
        clear hc h0 h0' h1 h hs HC
        go_enter Tryz.func89, Tryz.ntmps89
        go_wp2_with (refine HI.out.mono ?_; rintro e w' ⟨rfl, rfl⟩)
        go_ret
        exact ⟨rfl, HL.out⟩
      · have q1 : ¬ (bs.length : Int) < 1 := by omega
        have q2 : (1024 : Int) < (bs.length : Int) := by
          rcases hc with hc | hc | hc
          · rw [h0'] at hc
            cases hc
          · omega
          · omega
        clear hc h0 h0' h1 h hs HC
        go_enter Tryz.func89, Tryz.ntmps89
        go_wp2_with (refine HI.out.mono ?_; rintro e w' ⟨rfl, rfl⟩)
        go_ret
        exact ⟨rfl, HL.out⟩
    · have h0' : (fileAt s.T no).isSome = false := by simpa using h0
      rw [h0'] at HI
      clear hc h0 h0' h hs HC
      go_enter Tryz.func89, Tryz.ntmps89
      go_wp2_with (refine HI.out.mono ?_; rintro e w' ⟨rfl, rfl⟩)
      go_ret
      exact ⟨rfl, HL.out⟩
  · rw [if_neg hc, if_neg hc]
    simp only [not_or] at hc
    obtain ⟨hc1, hc2, hc3⟩ := hc
    have q1 : ¬ (bs.length : Int) < 1 := by omega
    have q2 : ¬ (1024 : Int) < (bs.length : Int) := by omega
    rcases fileAt_cases s.T no with ⟨k, t, e1, hk, hf⟩ | hf
    · rw [hf] at HI
      simp only [Option.isSome_some] at HI
      by_cases he : cntE S s = 0
      · rw [if_pos he, hf]
        rw [he] at HC ⊢
        have e2 : (no - 1).toNat = k := by omega
        rw [e2]
        obtain ⟨gt, ct, gb, cb, rfl, rfl, -⟩ := h.at hk
        have hlt := (List.getElem?_eq_some_iff.1 hk).1
        have HK := Lib.hid hk
        have HG := Lib.hid (h.ot gt rfl)
        have q3 : (0 : Int) ≤ (k : Int) := by omega
        have q4 : (k : Int) < (s.T.length : Int) := by omega
        have q5 : (k : Int) ≤ 64 := by have := hs.T; omega
        obtain ⟨S1, hS1⟩ : ∃ S1 : ByteArray, strV t = .string S1 := ⟨_, rfl⟩
        obtain ⟨S2, hS2⟩ : ∃ S2 : ByteArray, strV bs = .string S2 := ⟨_, rfl⟩
        have hadd := add_fits (S := S1) (T := S2) (by rw [strV_size hS1]; have := hs.t _ (List.mem_of_getElem? hk); simp at this; omega) (by rw [strV_size hS2]; omega)
        have HS12 := Lib.hid (strV_add hS1 hS2)
        have HS1 := Lib.hid hS1
        have HS2 := Lib.hid hS2
        subst e1
        clear hk hf hs he h hlt e2 hS1 hS2 hc1 hc2 hc3
        go_enter Tryz.func89, Tryz.ntmps89
        go_wp2_with (first | (refine HI.out.mono ?_; rintro e w' ⟨rfl, rfl⟩) | (refine HC.out.mono ?_; rintro e w1 ⟨rfl, hd, hfr⟩; have c1 : w1.cell? ⟨r, 1, none⟩ = some (.slice (some ⟨gt, 0, none⟩) s.T.length ct) := hd.c1; obtain ⟨_, _, _, _, e5, e6, hc, -, hz, -⟩ := hd.at HK.out; cases e5; have hz := hz k; rw [HS1.out] at hc; have hcv := conv_any ((HSR.out _ hfr).below (Below.drew (Below.refl _ _))); rw [HS2.out] at hcv; have HD := Lib.hid hd; have HF := Lib.hid hfr; clear hd hfr e6))
        go_region
        go_wp2_with fail
        go_ret
        have hw := (HD.out.wrote HK.out rfl (t ++ bs)).below (Below.drew (Below.refl _ _))
        rw [HS12.out] at hw
        refine ⟨rfl, own, ⟨_, _, _, hw⟩, fun _ _ => rfl, ((HFR.out _ HF.out).trans ((Frame.cell _ _ _).mono (fun x _ e => by have e' : x = gt := e; subst e'; show own x ≠ 0; rw [HG.out]; omega))).drew⟩
      · rw [if_neg he]
        obtain ⟨E, hE⟩ : ∃ E, E = cntE S s := ⟨_, rfl⟩
        rw [← hE] at HC he ⊢
        have g1 : (E == 0) = false := by simpa using he
        clear hk hf hs he h hE e1 hc1 hc2 hc3
        go_enter Tryz.func89, Tryz.ntmps89
        go_wp2_with (first | (refine HI.out.mono ?_; rintro e w' ⟨rfl, rfl⟩) | (refine HC.out.mono ?_; rintro e w1 ⟨rfl, hd, hfr⟩; have HD := Lib.hid hd; have HF := Lib.hid hfr; clear hd hfr))
        go_ret
        exact ⟨rfl, own, ⟨_, _, _, HD.out⟩, fun _ _ => rfl, HFR.out _ HF.out⟩
    · rw [hf] at hc1
      simp at hc1
end
end Go.Proofs.YtpgigpajpcianaaGreatDoor

namespace Go.Proofs.YtpgigpajpcianaaGreatDoor
open Go.RowKit

theorem str_from {t : List UInt8} {S : ByteArray} {j : Nat} (hS : strV t = .string S) : strV (t.drop j) = .string (S.extract j S.size) ∧ (S.extract j S.size).size = t.length - j := by
  rw [strV] at hS
  cases hS
  have h1 : (⟨t.toArray⟩ : ByteArray).size = t.length := by simp [ByteArray.size]
  have e : (⟨t.toArray⟩ : ByteArray).extract j (⟨t.toArray⟩ : ByteArray).size = ⟨(t.drop j).toArray⟩ := by
    rw [h1]
    apply ByteArray.ext
    simp [ByteArray.data_extract, List.take_of_length_le]
  rw [e]
  exact ⟨rfl, by simp [ByteArray.size]⟩
theorem str_upto {t : List UInt8} {S : ByteArray} {m : Nat} (hS : strV t = .string S) : strV (t.take m) = .string (S.extract 0 m) := by
  rw [strV] at hS
  cases hS
  have e : (⟨t.toArray⟩ : ByteArray).extract 0 m = ⟨(t.take m).toArray⟩ := by
    apply ByteArray.ext
    simp [ByteArray.data_extract, List.extract_eq_take_drop]
  rw [e]
  rfl
section
variable {base r : Nat} {own : Nat → Nat} {S : Script} {s : DSt} {sv tv bv : Value} {w : World}
def RefRead (base r : Nat) (own : Nat → Nat) (S : Script) (s' : DSt) (err : Int) (B : List UInt8) (w : World) (e : Ending) (w' : World) : Prop :=
  ∃ v, e = .returned (.tuple #[v, .int .i64 err]) ∧ IsBytes (w.heap.size ≤ ·) w' v B ∧ RAt base r own S s' w' ∧ Frame (· = r) w w'
theorem isBytes_none (p : Nat → Prop) (w : World) : IsBytes p w (.slice none 0 0) [] := ⟨none, 0, rfl, Nat.le_refl _, fun j c h => by simp at h⟩
set_option maxRecDepth 100000 in
set_option maxHeartbeats 2000000 in
theorem refRead_any (h : RAt base r own S s w) (hs : Small s) (hS : S.length ≤ 1000000) (no at' most : Int) :
    Calls Tryz.prog 116 #[.pointer (some ⟨r, 0, none⟩), .int .i64 no, .int .i64 at', .int .i64 most] w (RefRead base r own S (readS S s no at' most) (readE S s no at' most) (readB S s no at' most) w) := by
  obtain ⟨sv, tv, bv, h⟩ := h
  have HI := Lib.hid (is_any h hs.T no)
  have HC := Lib.hid (counts_any h hs.n hS)
  have HNIL := Lib.hid (show RefRead base r own S s 1 [] w (.returned (.tuple #[.slice none 0 0, .int .i64 1])) w from ⟨_, rfl, isBytes_none _ _, ⟨_, _, _, h⟩, Frame.refl _ _⟩)
  unfold readB readE readS
  by_cases hc : readNo s no at' most
  · rw [if_pos hc, if_pos hc, if_neg (by decide)]
    unfold readNo at hc
    rcases fileAt_cases s.T no with ⟨k, t, e1, hk, hf⟩ | hf
    · rw [hf] at HI hc
      simp only [Option.isSome_some, Option.isNone_some, Bool.false_eq_true, Option.getD_some, false_or] at HI hc
      obtain ⟨gt, ct, gb, cb, rfl, rfl, hct, -, -, -⟩ := h.at hk
      have c1 := h.c1
      have hlt := (List.getElem?_eq_some_iff.1 hk).1
      have q3 : (0 : Int) ≤ (k : Int) := by omega
      have q4 : (k : Int) < (s.T.length : Int) := by omega
      have q5 : (k : Int) ≤ 64 := by have := hs.T; omega
      obtain ⟨S1, hS1⟩ : ∃ S1 : ByteArray, strV t = .string S1 := ⟨_, rfl⟩
      rw [hS1] at hct
      have hsz := strV_size hS1
      rw [← hsz] at hc
      subst e1
      clear hk hf hs h hlt hS1 hsz HC
      by_cases h1 : at' < 0
      · clear hc
        go_enter Tryz.func116, Tryz.ntmps116
        go_wp2_with (refine HI.out.mono ?_; rintro e w' ⟨rfl, rfl⟩)
        go_ret2
        exact HNIL.out
      · by_cases h2 : (S1.size : Int) < at'
        · clear hc
          go_enter Tryz.func116, Tryz.ntmps116
          go_wp2_with (refine HI.out.mono ?_; rintro e w' ⟨rfl, rfl⟩)
          go_ret2
          exact HNIL.out
        · have h3 : most < 1 := by rcases hc with hc | hc | hc <;> first | exact hc | exact absurd hc ‹_›
          clear hc
          go_enter Tryz.func116, Tryz.ntmps116
          go_wp2_with (refine HI.out.mono ?_; rintro e w' ⟨rfl, rfl⟩)
          go_ret2
          exact HNIL.out
    · rw [hf] at HI
      simp only [Option.isSome_none] at HI
      clear hc hf hs h HC
      go_enter Tryz.func116, Tryz.ntmps116
      go_wp2_with (refine HI.out.mono ?_; rintro e w' ⟨rfl, rfl⟩)
      go_ret2
      exact HNIL.out
  · rw [if_neg hc, if_neg hc]
    unfold readNo at hc
    simp only [not_or] at hc
    obtain ⟨hc1, hc2, hc3, hc4⟩ := hc
    rcases fileAt_cases s.T no with ⟨k, t, e1, hk, hf⟩ | hf
    · rw [hf] at HI hc3 ⊢
      simp only [Option.isSome_some, Option.getD_some] at HI hc3 ⊢
      obtain ⟨j, rfl⟩ : ∃ j : Nat, at' = (j : Int) := ⟨at'.toNat, by omega⟩
      obtain ⟨m, rfl⟩ : ∃ m : Nat, most = (m : Int) := ⟨most.toNat, by omega⟩
      obtain ⟨gt, ct, gb, cb, rfl, rfl, hct, -, -, -⟩ := h.at hk
      have c1 := h.c1
      have hlt := (List.getElem?_eq_some_iff.1 hk).1
      have q3 : (0 : Int) ≤ (k : Int) := by omega
      have q4 : (k : Int) < (s.T.length : Int) := by omega
      have q5 : (k : Int) ≤ 64 := by have := hs.T; omega
      have HK := Lib.hid hk
      obtain ⟨S1, hS1⟩ : ∃ S1 : ByteArray, strV t = .string S1 := ⟨_, rfl⟩
      rw [hS1] at hct
      have hsz := strV_size hS1
      have hj : j ≤ t.length := by omega
      have q6 : (0 : Int) ≤ (j : Int) := by omega
      have q7 : (j : Int) ≤ (S1.size : Int) := by omega
      have q8 : ¬ (S1.size : Int) < (j : Int) := by omega
      have q9 : ¬ S1.size < j := by omega
      have q10 : ¬ (m : Int) < 1 := by omega
      have q11 : ¬ m < 1 := by omega
      have HS1 := Lib.hid hS1
      subst e1
      by_cases he : cntE S s = 0
      · rw [if_pos he]
        rw [he] at HC ⊢
        have hF := str_from (j := j) hS1
        obtain ⟨F, hFF⟩ : ∃ F, F = S1.extract j S1.size := ⟨_, rfl⟩
        rw [← hFF] at hF
        have q12 : S1.size ≤ 1000000 := by rw [hsz]; exact hs.t _ (List.mem_of_getElem? hk)
        simp only [Int.toNat_natCast]
        obtain ⟨X, hX⟩ : ∃ X, X = (t.drop j).take m := ⟨_, rfl⟩
        rw [← hX]
        have HX := Lib.hid hX
        clear hX
        have HF := Lib.hid hF
        have HFF := Lib.hid hFF
        clear hk hf hs h hlt hS1 hsz hj he hc1 hc2 hc3 hc4 hF hFF HNIL
        go_enter Tryz.func116, Tryz.ntmps116
        go_wp2_with (first | (refine HI.out.mono ?_; rintro e w' ⟨rfl, rfl⟩) | (refine HC.out.mono ?_; rintro e w1 ⟨rfl, hd, hfr⟩; have c1 : w1.cell? ⟨r, 1, none⟩ = some (.slice (some ⟨gt, 0, none⟩) s.T.length ct) := hd.c1; obtain ⟨_, _, _, _, e5, e6, hc, -, -, -⟩ := hd.at HK.out; cases e5; rw [HS1.out] at hc; have HD := Lib.hid hd; have HFR := Lib.hid hfr; clear hd hfr e6))
        · have hx := str_upto (m := m) HF.out.1
          rw [HFF.out, ← HX.out] at hx
          obtain ⟨ca, w2, hcv, -, hby, hb⟩ := conv_str X w1
          rw [hx] at hcv
          have hby2 : IsBytes (w'.heap.size ≤ ·) w2 (.slice (some ⟨w1.heap.size, 0, none⟩) X.length ca) X := hby.mono (fun k _ h => Nat.le_trans HFR.out.size h)
          have HE := Lib.hid (show RefRead base r own S (cntS S s) 0 X w' _ w2 from ⟨_, rfl, hby2, ⟨_, _, _, HD.out.below hb⟩, HFR.out.trans (Below.toFrame hb _)⟩)
          clear hby hby2 hb hx
          rw [hcv]
          go_wp2_with fail
          go_ret2
          exact HE.out
        · have hle : F.size ≤ m := by have := HF.out.2; have := strV_size HS1.out; omega
          have hx := HF.out.1
          have hta : (t.drop j).take m = t.drop j := List.take_of_length_le (by have := HF.out.2; simp; omega)
          rw [HFF.out, ← hta, ← HX.out] at hx
          obtain ⟨ca, w2, hcv, -, hby, hb⟩ := conv_str X w1
          rw [hx] at hcv
          have hby2 : IsBytes (w'.heap.size ≤ ·) w2 (.slice (some ⟨w1.heap.size, 0, none⟩) X.length ca) X := hby.mono (fun k _ h => Nat.le_trans HFR.out.size h)
          have HE := Lib.hid (show RefRead base r own S (cntS S s) 0 X w' _ w2 from ⟨_, rfl, hby2, ⟨_, _, _, HD.out.below hb⟩, HFR.out.trans (Below.toFrame hb _)⟩)
          clear hby hby2 hb hx hta hle
          rw [hcv]
          go_wp2_with fail
          go_ret2
          exact HE.out
      · rw [if_neg he]
        have HFR := Lib.hid (show ∀ w', Frame (· = r) w w' → RDisk base r own S (cntS S s) sv (.slice (some ⟨gt, 0, none⟩) s.T.length ct) (.slice (some ⟨gb, 0, none⟩) s.T.length cb) w' → RefRead base r own S (cntS S s) (cntE S s) [] w (.returned (.tuple #[.slice none 0 0, .int .i64 (cntE S s)])) w' from fun w' hf hd => ⟨_, rfl, isBytes_none _ _, ⟨_, _, _, hd⟩, hf⟩)
        obtain ⟨E, hE⟩ : ∃ E, E = cntE S s := ⟨_, rfl⟩
        rw [← hE] at HC HFR he ⊢
        have g1 : (E != 0) = true := by simpa using he
        clear hk hf hs he h hE hc1 hc2 hc3 hc4 hlt hS1 hsz hj HNIL
        go_enter Tryz.func116, Tryz.ntmps116
        go_wp2_with (first | (refine HI.out.mono ?_; rintro e w' ⟨rfl, rfl⟩) | (refine HC.out.mono ?_; rintro e w1 ⟨rfl, hd, hfr⟩; have HD := Lib.hid hd; have HF := Lib.hid hfr; clear hd hfr))
        go_ret2
        exact HFR.out _ HF.out HD.out
    · rw [hf] at hc1
      simp at hc1
end
end Go.Proofs.YtpgigpajpcianaaGreatDoor

namespace Go.Proofs.YtpgigpajpcianaaGreatDoor
open Go.RowKit

theorem liveFrom_snoc : ∀ (A : List (List UInt8 × Bool)) (j : Nat) (t : List UInt8 × Bool), liveFrom j (A ++ [t]) = liveFrom j A ++ (if t.2 then [((j + A.length : Nat) : Int) + 1] else [])
  | [], j, t => by
    simp only [List.nil_append, liveFrom]
    split <;> simp
  | a :: r, j, t => by
    have ih := liveFrom_snoc r (j + 1) t
    simp only [List.cons_append, liveFrom, ih]
    have e : ((j + 1 + r.length : Nat) : Int) = ((j + (a :: r).length : Nat) : Int) := by simp; omega
    rw [e]
    split <;> simp
theorem live_take {T : List (List UInt8 × Bool)} {k : Nat} {t : List UInt8} {f : Bool} (hk : T[k]? = some (t, f)) : liveL (T.take (k + 1)) = liveL (T.take k) ++ (if f then [(k : Int) + 1] else []) := by
  have hlt := (List.getElem?_eq_some_iff.1 hk).1
  unfold liveL
  rw [take_snoc hk, liveFrom_snoc]
  simp [Nat.min_eq_left (Nat.le_of_lt hlt)]
theorem live_small (T : List (List UInt8 × Bool)) : (liveL T).length ≤ T.length := by
  have : ∀ (T : List (List UInt8 × Bool)) (k : Nat), (liveFrom k T).length ≤ T.length := by
    intro T
    induction T with
    | nil => intro k; simp [liveFrom]
    | cons t r ih =>
      intro k
      have := ih (k + 1)
      unfold liveFrom
      split <;> simp <;> omega
  exact this T 0
theorem Tryz.info3b : (Tryz.prog.info? 3).map (fun i => (i.zero, i.size, i.bytes)) = some (some (.int .i64 0), 1, 8) := by kernel_rfl
section
variable {base r : Nat} {own : Nat → Nat} {S : Script} {s : DSt} {sv tv bv : Value} {w : World}
set_option maxRecDepth 100000 in
set_option maxHeartbeats 2000000 in
theorem refLive_any (h : RAt base r own S s w) (hT : s.T.length ≤ 64) :
    Calls Tryz.prog 23 #[.pointer (some ⟨r, 0, none⟩)] w fun e w' => ∃ v, e = .returned v ∧ w'.ownsRow w.heap.size 3 1 v (liveL s.T).length ((liveL s.T).map (Value.int .i64)) ∧ Below w.heap.size w w' := by
  obtain ⟨sv, tv, bv, h⟩ := h
  obtain ⟨ba, bc, rfl⟩ := owns_slice h.thr
  obtain ⟨i3, hi3, y0, y1, y2⟩ := info_parts Tryz.info3b
  have H := Lib.hid h
  have I3 := Lib.hid hi3
  have Y0 := Lib.hid y0
  have Y1 := Lib.hid y1
  have Y2 := Lib.hid y2
  have HT := Lib.hid hT
  clear h hT hi3 y0 y1 y2
  go_enter Tryz.func23, Tryz.ntmps23
  go_wp2_with fail
  go_loopw [3, 4] (fun l i wr => ∃ k : Nat, k ≤ s.T.length ∧ i = .int .i64 k ∧ wr.ownsRow w.heap.size 3 1 l (liveL (s.T.take k)).length ((liveL (s.T.take k)).map (Value.int .i64)) ∧ Below w.heap.size w wr) (fun _ i _ => s.T.length - (intOf i).toNat)
  case atStart => exact ⟨0, Nat.zero_le _, rfl, by simpa [liveL, liveFrom] using World.ownsRow_nil w w.heap.size 3 1, Below.refl _ _⟩
  case round =>
    obtain ⟨k, hk, rfl, ho, hb⟩ := hrel
    have hd := H.out.below hb
    have c2 := hd.c2
    have q5 : (k : Int) ≤ 64 := by have := HT.out; omega
    by_cases hlt : k < s.T.length
    · obtain ⟨x, hx⟩ : ∃ x, s.T[k]? = some x := ⟨s.T[k], by simp⟩
      obtain ⟨t, f⟩ := x
      obtain ⟨_, _, gb, cb, -, e6, -, hc, -, -⟩ := hd.at hx
      cases e6
      have q3 : (0 : Int) ≤ (k : Int) := by omega
      have q4 : (k : Int) < (s.T.length : Int) := by omega
      have hlv := live_take hx
      have hsm := live_small (s.T.take k)
      rw [List.length_take] at hsm
      obtain ⟨la, lc, rfl⟩ := owns_slice ho
      have HO := Lib.hid ho
      have HB := Lib.hid hb
      have HLT := Lib.hid hlt
      have HLV := Lib.hid hlv
      have HSM := Lib.hid hsm
      clear hd hx hlv hsm ho hb hlt hk
      cases f with
      | true =>
        go_wp2_with (at_builtin; refine wpList_append_own _ rfl _ _ 38 rfl w.heap.size 3 i3 (.int .i64 0) 1 8 Tryz.underlying38 I3.out Y0.out Y1.out Y2.out rfl (by decide) _ _ _ rfl (HO.out.alloc (.cells #[.int .i64 ((k : Int) + 1)] 3)) ⟨wr.heap.size, 0, none⟩ 1 1 [.int .i64 ((k : Int) + 1)] rfl rfl (cell_one_new _ _ _) (by simp [Value.oneCell']) ?p1 ?p2 ?p3 ?_)
        case p1 => have := HSM.out; have := HT.out; unfold maxLen; omega
        case p2 => have := HSM.out; have := HT.out; omega
        case p3 => have := HB.out.size; simp; omega
        intro v' w2 ho2 hg2 _
        have hb2 : Below w.heap.size w w2 := owns_below_of (HO.out.alloc (.cells #[.int .i64 ((k : Int) + 1)] 3)) (HB.out.alloc HB.out.size _) hg2
        have ho3 : w2.ownsRow w.heap.size 3 1 v' (liveL (s.T.take (k + 1))).length ((liveL (s.T.take (k + 1))).map (Value.int .i64)) := by
          rw [HLV.out, if_pos trivial, List.map_append, List.length_append]
          exact ho2
        have HB2 := Lib.hid hb2
        have HO3 := Lib.hid ho3
        clear hb2 ho3 ho2 hg2
        go_wp2_with fail
        go_roundw
        case rel => exact ⟨k + 1, HLT.out, by go_num, HO3.out, HB2.out⟩
        case measure => have := HLT.out; simp [intOf]; omega
      | false =>
        have ho3 : wr.ownsRow w.heap.size 3 1 (.slice la (liveL (s.T.take k)).length lc) (liveL (s.T.take (k + 1))).length ((liveL (s.T.take (k + 1))).map (Value.int .i64)) := by
          have := HO.out
          rw [HLV.out]
          simpa using this
        have HO3 := Lib.hid ho3
        clear ho3
        go_wp2_with fail
        go_roundw
        case rel => exact ⟨k + 1, HLT.out, by go_num, HO3.out, HB.out⟩
        case measure => have := HLT.out; simp [intOf]; omega
    · have q2 : ¬ (k : Int) < (s.T.length : Int) := by omega
      have e1 : k = s.T.length := by omega
      rw [e1, List.take_length] at ho
      have HO := Lib.hid ho
      have HB := Lib.hid hb
      clear ho hb hd hlt e1 hk
      go_wp2_with fail
      go_ret
      exact ⟨_, rfl, HO.out, HB.out⟩
end
end Go.Proofs.YtpgigpajpcianaaGreatDoor
