/- The document's disk: Write. -/
import Derived.Test.YtpengkkbmenkpaaFsrefis
namespace Go.Proofs.Ytpengkkbmenkpaa
open Go.RowKit

section
variable {base r : Nat} {own : Nat → Nat} {S : Script} {s : DSt} {sv tv bv : Value} {w : World}
/-- A file's text is put. -/
theorem RDisk.wrote (h : RDisk base r own S s sv tv bv w) {k : Nat} {t : List UInt8} (hk : s.T[k]? = some (t, true)) {gt ct : Nat} (ht : tv = .slice (some ⟨gt, 0, none⟩) s.T.length ct) (t' : List UInt8) :
    RDisk base r own S { s with T := s.T.set k (t', true) } sv tv bv (w.setCell ⟨gt, k, none⟩ (strV t')) := by
  subst ht
  have hf : Frame (· = gt) w (w.setCell ⟨gt, k, none⟩ (strV t')) := Frame.cell w ⟨gt, k, none⟩ (strV t')
  have og : own gt = 2 := h.ot gt rfl
  have hne : r ≠ gt := fun e => by have := h.orr; rw [e, og] at this; omega
  have hlow := (h.bnd gt (by omega)).1
  refine ⟨hf.heap h.heap hne, h.scr.frame hf (fun j hj e => by have e' : j = gt := e; omega), ?_, ?_, h.orr, h.ot, h.ob, fun j hj => ⟨(h.bnd j hj).1, Nat.lt_of_lt_of_le (h.bnd j hj).2 hf.size⟩⟩
  · have := (h.txt.stored k (strV t')).1
    show World.ownsRow _ base 9 1 _ (s.T.set k (t', true)).length _
    rw [List.length_set, List.map_set]
    exact this
  · have := hf.owns h.thr (fun j hj e => by have e' : j = gt := e; have := h.ob j hj; rw [e'] at this; omega)
    have e2 : (s.T.set k (t', true)).map (fun t => (Value.bool t.2)) = s.T.map fun t => .bool t.2 := by
      apply List.ext_getElem?
      intro j
      simp only [List.getElem?_map, List.getElem?_set]
      by_cases hj : k = j
      · subst hj
        obtain ⟨hlt, e⟩ := List.getElem?_eq_some_iff.1 hk
        simp [hlt, e]
      · simp [hj]
    show World.ownsRow _ base 4 1 bv (s.T.set k (t', true)).length _
    rw [e2, List.length_set]
    exact this

set_option maxRecDepth 100000 in
set_option maxHeartbeats 1000000 in
theorem refWrite_any {p : Nat → Prop} (h : RAt base r own S s w) (hs : Small s) (hS : S.length ≤ 1000000) (no : Int) (vs : Value) (bs : List UInt8) (hsrc : IsBytes p w vs bs) (hp : ∀ k, p k → own k = 0) :
    Calls Try.prog 21 #[.pointer (some ⟨r, 0, none⟩), .int .i64 no, vs] w fun e w' => e = .returned (.int .i64 (writeE S s no bs)) ∧ RLeft base r own S (writeS S s no bs) w w' := by
  obtain ⟨sv, tv, bv, h⟩ := h
  have HI := Lib.hid (is_any h hs.T no)
  have HC := Lib.hid (counts_any h hs.n hS)
  obtain ⟨sa, sc, rfl, -⟩ := id hsrc
  have HSR := Lib.hid (show ∀ w', Frame (· = r) w w' → IsBytes p w' (.slice sa bs.length sc) bs from fun w' hf => hsrc.frame hf (fun k hk e => by have h3 := hp k hk; have h4 := h.orr; have e' : k = r := e; rw [e'] at h3; omega))
  have HL := Lib.hid (h.left (Below.refl w.heap.size w))
  have hfr : ∀ w', Frame (· = r) w w' → Frame (fun k => own k ≠ 0) w w' := fun w' hf => hf.mono (fun x _ e => by have e' : x = r := e; subst e'; show own x ≠ 0; rw [h.orr]; omega)
  have HFR := Lib.hid hfr
  clear hsrc hp hfr
  unfold writeE writeS
  by_cases hc : (fileAt s.T no).isNone = true ∨ bs.length < 1 ∨ 1024 < bs.length
  · rw [if_pos hc, if_pos hc]
    by_cases h0 : (fileAt s.T no).isSome = true
    · rw [h0] at HI
      have h0' : (fileAt s.T no).isNone = false := by cases hx : fileAt s.T no <;> rw [hx] at h0 <;> simp at h0 ⊢
      by_cases h1 : bs.length < 1
      · have q1 : (bs.length : Int) < 1 := by omega
        clear hc h0 h0' h1 h hs HC
        go_enter Try.func21, Try.ntmps21
        go_wp2_with (refine HI.out.mono ?_; rintro e w' ⟨rfl, rfl⟩)
        go_ret
        exact ⟨rfl, HL.out⟩
      · have q1 : ¬ (bs.length : Int) < 1 := by omega
        have q2 : (1024 : Int) < (bs.length : Int) := by
          rcases hc with hc | hc | hc
          · rw [h0'] at hc
            cases hc
          · omega
          · omega
        clear hc h0 h0' h1 h hs HC
        go_enter Try.func21, Try.ntmps21
        go_wp2_with (refine HI.out.mono ?_; rintro e w' ⟨rfl, rfl⟩)
        go_ret
        exact ⟨rfl, HL.out⟩
    · have h0' : (fileAt s.T no).isSome = false := by simpa using h0
      rw [h0'] at HI
      clear hc h0 h0' h hs HC
      go_enter Try.func21, Try.ntmps21
      go_wp2_with (refine HI.out.mono ?_; rintro e w' ⟨rfl, rfl⟩)
      go_ret
      exact ⟨rfl, HL.out⟩
  · rw [if_neg hc, if_neg hc]
    simp only [not_or] at hc
    obtain ⟨hc1, hc2, hc3⟩ := hc
    have q1 : ¬ (bs.length : Int) < 1 := by omega
    have q2 : ¬ (1024 : Int) < (bs.length : Int) := by omega
    rcases fileAt_cases s.T no with ⟨k, t, e1, hk, hf⟩ | hf
    · rw [hf] at HI
      simp only [Option.isSome_some] at HI
      by_cases he : cntE S s = 0
      · rw [if_pos he, hf]
        rw [he] at HC ⊢
        have e2 : (no - 1).toNat = k := by omega
        rw [e2]
        obtain ⟨gt, ct, gb, cb, rfl, rfl, -⟩ := h.at hk
        have hlt := (List.getElem?_eq_some_iff.1 hk).1
        have HK := Lib.hid hk
        have HG := Lib.hid (h.ot gt rfl)
        have q3 : (0 : Int) ≤ (k : Int) := by omega
        have q4 : (k : Int) < (s.T.length : Int) := by omega
        have q5 : (k : Int) ≤ 64 := by have := hs.T; omega
        obtain ⟨S1, hS1⟩ : ∃ S1 : ByteArray, strV t = .string S1 := ⟨_, rfl⟩
        obtain ⟨S2, hS2⟩ : ∃ S2 : ByteArray, strV bs = .string S2 := ⟨_, rfl⟩
        have hadd := add_fits (S := S1) (T := S2) (by rw [strV_size hS1]; have := hs.t _ (List.mem_of_getElem? hk); simp at this; omega) (by rw [strV_size hS2]; omega)
        have HS12 := Lib.hid (strV_add hS1 hS2)
        have HS1 := Lib.hid hS1
        have HS2 := Lib.hid hS2
        subst e1
        clear hk hf hs he h hlt e2 hS1 hS2 hc1 hc2 hc3
        go_enter Try.func21, Try.ntmps21
        go_wp2_with (first | (refine HI.out.mono ?_; rintro e w' ⟨rfl, rfl⟩) | (refine HC.out.mono ?_; rintro e w1 ⟨rfl, hd, hfr⟩; have c1 : w1.cell? ⟨r, 1, none⟩ = some (.slice (some ⟨gt, 0, none⟩) s.T.length ct) := hd.c1; obtain ⟨_, _, _, _, e5, e6, hc, -, hz, -⟩ := hd.at HK.out; cases e5; have hz := hz k; rw [HS1.out] at hc; have hcv := conv_any ((HSR.out _ hfr).below (Below.drew (Below.refl _ _))); rw [HS2.out] at hcv; have HD := Lib.hid hd; have HF := Lib.hid hfr; clear hd hfr e6))
        go_region
        go_wp2_with fail
        go_ret
        have hw := (HD.out.wrote HK.out rfl (t ++ bs)).below (Below.drew (Below.refl _ _))
        rw [HS12.out] at hw
        refine ⟨rfl, own, ⟨_, _, _, hw⟩, fun _ _ => rfl, ((HFR.out _ HF.out).trans ((Frame.cell _ _ _).mono (fun x _ e => by have e' : x = gt := e; subst e'; show own x ≠ 0; rw [HG.out]; omega))).drew⟩
      · rw [if_neg he]
        obtain ⟨E, hE⟩ : ∃ E, E = cntE S s := ⟨_, rfl⟩
        rw [← hE] at HC he ⊢
        have g1 : (E == 0) = false := by simpa using he
        clear hk hf hs he h hE e1 hc1 hc2 hc3
        go_enter Try.func21, Try.ntmps21
        go_wp2_with (first | (refine HI.out.mono ?_; rintro e w' ⟨rfl, rfl⟩) | (refine HC.out.mono ?_; rintro e w1 ⟨rfl, hd, hfr⟩; have HD := Lib.hid hd; have HF := Lib.hid hfr; clear hd hfr))
        go_ret
        exact ⟨rfl, own, ⟨_, _, _, HD.out⟩, fun _ _ => rfl, HFR.out _ HF.out⟩
    · rw [hf] at hc1
      simp at hc1
end
end Go.Proofs.Ytpengkkbmenkpaa
