/- The document's disk: Is, Remove, Create. -/
import Derived.Test.YtpengkkbmenkpaaFsref
import Derived.Test.YtpengkkbmenkpaaFscreate
import Derived.Maps.AppendAt
namespace Go.Proofs.Ytpengkkbmenkpaa
open Go.RowKit

section
variable {base r : Nat} {own : Nat → Nat} {S : Script} {s : DSt} {sv tv bv : Value} {w : World}
theorem owns_shape {w : World} {base : Nat} {e : TypeId} {size : Nat} {v : Value} {n : Nat} {xs : List Value} (h : w.ownsRow base e size v n xs) : (v = .slice none 0 0 ∧ n = 0) ∨ ∃ g c, v = .slice (some ⟨g, 0, none⟩) n c := by
  rcases h.2 with ⟨rfl, rfl⟩ | ⟨g, cap, cur, rfl, _⟩
  · exact .inl ⟨rfl, rfl⟩
  · exact .inr ⟨_, _, rfl⟩
/-- A file's text, and whether it is there. -/
theorem RDisk.at (h : RDisk base r own S s sv tv bv w) {k : Nat} {t : List UInt8} {f : Bool} (hk : s.T[k]? = some (t, f)) :
    ∃ gt ct gb cb, tv = .slice (some ⟨gt, 0, none⟩) s.T.length ct ∧ bv = .slice (some ⟨gb, 0, none⟩) s.T.length cb ∧ w.cell? ⟨gt, k, none⟩ = some (strV t) ∧ w.cell? ⟨gb, k, none⟩ = some (.bool f) ∧ (∀ j, w.frozen? ⟨gt, j, none⟩ = false) ∧ (∀ j, w.frozen? ⟨gb, j, none⟩ = false) := by
  have hlt := (List.getElem?_eq_some_iff.1 hk).1
  have ht := h.txt
  have hb := h.thr
  rcases owns_shape ht with ⟨-, h0⟩ | ⟨gt, ct, rfl⟩
  · omega
  rcases owns_shape hb with ⟨-, h0⟩ | ⟨gb, cb, rfl⟩
  · omega
  refine ⟨gt, ct, gb, cb, rfl, rfl, ?_, ?_, ht.frozenAt, hb.frozenAt⟩
  · rw [ht.cellAt k (by omega)]
    simp [hk]
  · rw [hb.cellAt k (by omega)]
    simp [hk]
theorem fileAt_no {T : List (List UInt8 × Bool)} {no : Int} (h : fileAt T no = none) : no < 1 ∨ (T.length : Int) < no ∨ ∃ (k : Nat) (t : List UInt8), no = (k : Int) + 1 ∧ T[k]? = some (t, false) := by
  by_cases h1 : no < 1
  · exact .inl h1
  · by_cases h2 : (T.length : Int) < no
    · exact .inr (.inl h2)
    · obtain ⟨k, rfl⟩ : ∃ k : Nat, no = (k : Int) + 1 := ⟨(no - 1).toNat, by omega⟩
      have hk : k < T.length := by omega
      obtain ⟨x, hx⟩ : ∃ x, T[k]? = some x := ⟨T[k], by simp⟩
      obtain ⟨t, f⟩ := x
      cases f with
      | false => exact .inr (.inr ⟨k, t, rfl, hx⟩)
      | true =>
        rw [fileAt_some hx] at h
        cases h

set_option maxRecDepth 100000 in
set_option maxHeartbeats 1000000 in
theorem is_any (h : RDisk base r own S s sv tv bv w) (hT : s.T.length ≤ 64) (no : Int) :
    Calls Try.prog 32 #[.pointer (some ⟨r, 0, none⟩), .int .i64 no] w fun e w' => e = .returned (.bool (fileAt s.T no).isSome) ∧ w' = w := by
  have c1 := h.c1
  have c2 := h.c2
  have inT : ∀ (k : Nat) (t : List UInt8) (f : Bool), no = (k : Int) + 1 → s.T[k]? = some (t, f) → Calls Try.prog 32 #[.pointer (some ⟨r, 0, none⟩), .int .i64 no] w fun e w' => e = .returned (.bool f) ∧ w' = w := by
    intro k t f e1 hk
    subst e1
    obtain ⟨gt, ct, gb, cb, rfl, rfl, -, hc, -, -⟩ := h.at hk
    have hlt := (List.getElem?_eq_some_iff.1 hk).1
    obtain ⟨n, hn⟩ : ∃ n, n = s.T.length := ⟨_, rfl⟩
    rw [← hn] at c1 c2 hT hlt
    have q0 : (0 : Int) ≤ (k : Int) := by omega
    have q1 : (1 : Int) ≤ (k : Int) + 1 := by omega
    have q2 : (k : Int) + 1 ≤ (n : Int) := by omega
    have q3 : (k : Int) < (n : Int) := by omega
    have q4 : (k : Int) ≤ 64 := by omega
    clear h hk hn hT hlt
    go_enter Try.func32, Try.ntmps32
    go_wp2_with fail
    go_ret
    exact ⟨rfl, rfl⟩
  rcases fileAt_cases s.T no with ⟨k, t, e1, hk, hf⟩ | hf
  · rw [hf]
    exact inT k t true e1 hk
  · rw [hf]
    rcases fileAt_no hf with h1 | h1 | ⟨k, t, e1, hk⟩
    · have q1 : ¬ (1 : Int) ≤ no := by omega
      clear inT hf h1 h
      go_enter Try.func32, Try.ntmps32
      go_wp2_with fail
      go_ret
      exact ⟨rfl, rfl⟩
    · by_cases h2 : (1 : Int) ≤ no
      · obtain ⟨a, c, rfl⟩ := owns_slice h.txt
        obtain ⟨n, hn⟩ : ∃ n : Nat, n = s.T.length := ⟨_, rfl⟩
        rw [← hn] at c1 h1
        have q1 : ¬ no ≤ (n : Int) := by omega
        clear inT hf h h1 hn
        go_enter Try.func32, Try.ntmps32
        go_wp2_with fail
        go_ret
        exact ⟨rfl, rfl⟩
      · omega
    · exact inT k t false e1 hk

/-- Whether each file is there is put. -/
theorem RDisk.gone (h : RDisk base r own S s sv tv bv w) {k : Nat} {t : List UInt8} {f : Bool} (hk : s.T[k]? = some (t, f)) {gb cb : Nat} (hb : bv = .slice (some ⟨gb, 0, none⟩) s.T.length cb) (f' : Bool) :
    RDisk base r own S { s with T := s.T.set k (t, f') } sv tv bv (w.setCell ⟨gb, k, none⟩ (.bool f')) := by
  subst hb
  have hf : Frame (· = gb) w (w.setCell ⟨gb, k, none⟩ (.bool f')) := Frame.cell w ⟨gb, k, none⟩ (.bool f')
  have og : own gb = 3 := h.ob gb rfl
  have hne : r ≠ gb := fun e => by have := h.orr; rw [e, og] at this; omega
  have hlow := (h.bnd gb (by omega)).1
  refine ⟨hf.heap h.heap hne, h.scr.frame hf (fun j hj e => by have e' : j = gb := e; omega), ?_, ?_, h.orr, h.ot, h.ob, fun j hj => ⟨(h.bnd j hj).1, Nat.lt_of_lt_of_le (h.bnd j hj).2 hf.size⟩⟩
  · have := hf.owns h.txt (fun j hj e => by have e' : j = gb := e; have := h.ot j hj; rw [e'] at this; omega)
    have e2 : (s.T.set k (t, f')).map (fun t => strV t.1) = s.T.map fun t => strV t.1 := by
      apply List.ext_getElem?
      intro j
      simp only [List.getElem?_map, List.getElem?_set]
      by_cases hj : k = j
      · subst hj
        obtain ⟨hlt, e⟩ := List.getElem?_eq_some_iff.1 hk
        simp [hlt, e]
      · simp [hj]
    show World.ownsRow _ base 9 1 tv (s.T.set k (t, f')).length _
    rw [e2, List.length_set]
    exact this
  · have := (h.thr.stored k (.bool f')).1
    show World.ownsRow _ base 4 1 _ (s.T.set k (t, f')).length _
    rw [List.length_set, List.map_set]
    exact this

set_option maxRecDepth 100000 in
set_option maxHeartbeats 1000000 in
theorem refRemove_any (h : RAt base r own S s w) (hs : Small s) (hS : S.length ≤ 1000000) (no : Int) :
    Calls Try.prog 23 #[.pointer (some ⟨r, 0, none⟩), .int .i64 no] w fun e w' => e = .returned (.int .i64 (removeE S s no)) ∧ RLeft base r own S (removeS S s no) w w' := by
  obtain ⟨sv, tv, bv, h⟩ := h
  have HI := Lib.hid (is_any h hs.T no)
  have HC := Lib.hid (counts_any h hs.n hS)
  unfold removeE removeS
  rcases fileAt_cases s.T no with ⟨k, t, e1, hk, hf⟩ | hf
  · rw [hf] at HI ⊢
    simp only [Option.isNone_some, Option.isSome_some, Bool.false_eq_true, if_false, Option.getD_some] at HI ⊢
    have e2 : (no - 1).toNat = k := by omega
    rw [e2]
    have hfr : ∀ w', Frame (· = r) w w' → Frame (fun k => own k ≠ 0) w w' := fun w' hf => hf.mono (fun x _ e => by have e' : x = r := e; subst e'; show own x ≠ 0; rw [h.orr]; omega)
    by_cases he : cntE S s = 0
    · rw [if_pos he]
      rw [he] at HC ⊢
      obtain ⟨gt, ct, gb, cb, rfl, rfl, -⟩ := h.at hk
      have hlt := (List.getElem?_eq_some_iff.1 hk).1
      have HFR := Lib.hid hfr
      have HK := Lib.hid hk
      have HT := Lib.hid hs.T
      have HG := Lib.hid (h.ob gb rfl)
      obtain ⟨n, hn⟩ : ∃ n : Nat, n = s.T.length := ⟨_, rfl⟩
      have q0 : (0 : Int) ≤ (k : Int) := by omega
      have q3 : (k : Int) < (n : Int) := by omega
      have q4 : (k : Int) ≤ 64 := by have := hs.T; omega
      have HN := Lib.hid hn
      subst e1
      clear hfr hk hf hs he h hn hlt e2
      go_enter Try.func23, Try.ntmps23
      go_wp2_with (first | (refine HI.out.mono ?_; rintro e w' ⟨rfl, rfl⟩) | (refine HC.out.mono ?_; rintro e w1 ⟨rfl, hd, hfr⟩; have c2 := hd.c2; obtain ⟨_, _, _, _, e5, e6, -, hc, -, hz⟩ := hd.at HK.out; cases e6; have hz := hz k; rw [← HN.out] at c2; have HD := Lib.hid hd; have HF := Lib.hid hfr; clear hd hfr e5))
      go_ret
      have hg := HD.out.gone HK.out rfl false
      refine ⟨rfl, own, ⟨_, _, _, hg⟩, fun _ _ => rfl, (HFR.out _ HF.out).trans ((Frame.cell _ _ _).mono (fun x _ e => by have e' : x = gb := e; subst e'; show own x ≠ 0; rw [HG.out]; omega))⟩
    · rw [if_neg he]
      have HFR := Lib.hid hfr
      obtain ⟨E, hE⟩ : ∃ E, E = cntE S s := ⟨_, rfl⟩
      rw [← hE] at HC he ⊢
      have g1 : (E == 0) = false := by simpa using he
      clear hfr hk hf hs he h hE e1 e2
      go_enter Try.func23, Try.ntmps23
      go_wp2_with (first | (refine HI.out.mono ?_; rintro e w' ⟨rfl, rfl⟩) | (refine HC.out.mono ?_; rintro e w1 ⟨rfl, hd, hfr⟩; have HD := Lib.hid hd; have HF := Lib.hid hfr; clear hd hfr))
      go_ret
      exact ⟨rfl, own, ⟨_, _, _, HD.out⟩, fun _ _ => rfl, HFR.out _ HF.out⟩
  · rw [hf] at HI ⊢
    simp only [Option.isNone_none, Option.isSome_none, if_true] at HI ⊢
    have HL := Lib.hid (h.left (Below.refl w.heap.size w))
    clear hf hs HC h
    go_enter Try.func23, Try.ntmps23
    go_wp2_with (refine HI.out.mono ?_; rintro e w' ⟨rfl, rfl⟩)
    go_ret
    exact ⟨rfl, HL.out⟩
end
end Go.Proofs.Ytpengkkbmenkpaa
