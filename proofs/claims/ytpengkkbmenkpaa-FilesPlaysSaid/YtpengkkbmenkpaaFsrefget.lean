/- The document's disk: Read. -/
import Derived.Test.YtpengkkbmenkpaaFsrefis
namespace Go.Proofs.Ytpengkkbmenkpaa
open Go.RowKit

theorem str_from {t : List UInt8} {S : ByteArray} {j : Nat} (hS : strV t = .string S) : strV (t.drop j) = .string (S.extract j S.size) ∧ (S.extract j S.size).size = t.length - j := by
  rw [strV] at hS
  cases hS
  have h1 : (⟨t.toArray⟩ : ByteArray).size = t.length := by simp [ByteArray.size]
  have e : (⟨t.toArray⟩ : ByteArray).extract j (⟨t.toArray⟩ : ByteArray).size = ⟨(t.drop j).toArray⟩ := by
    rw [h1]
    apply ByteArray.ext
    simp [ByteArray.data_extract, List.take_of_length_le]
  rw [e]
  exact ⟨rfl, by simp [ByteArray.size]⟩
theorem str_upto {t : List UInt8} {S : ByteArray} {m : Nat} (hS : strV t = .string S) : strV (t.take m) = .string (S.extract 0 m) := by
  rw [strV] at hS
  cases hS
  have e : (⟨t.toArray⟩ : ByteArray).extract 0 m = ⟨(t.take m).toArray⟩ := by
    apply ByteArray.ext
    simp [ByteArray.data_extract, List.extract_eq_take_drop]
  rw [e]
  rfl

section
variable {base r : Nat} {own : Nat → Nat} {S : Script} {s : DSt} {sv tv bv : Value} {w : World}
/-- What the document's Read leaves. -/
def RefRead (base r : Nat) (own : Nat → Nat) (S : Script) (s' : DSt) (err : Int) (B : List UInt8) (w : World) (e : Ending) (w' : World) : Prop :=
  ∃ v, e = .returned (.tuple #[v, .int .i64 err]) ∧ IsBytes (w.heap.size ≤ ·) w' v B ∧ RAt base r own S s' w' ∧ Frame (· = r) w w'
theorem isBytes_none (p : Nat → Prop) (w : World) : IsBytes p w (.slice none 0 0) [] := ⟨none, 0, rfl, Nat.le_refl _, fun j c h => by simp at h⟩

set_option maxRecDepth 100000 in
set_option maxHeartbeats 2000000 in
theorem refRead_any (h : RAt base r own S s w) (hs : Small s) (hS : S.length ≤ 1000000) (no at' most : Int) :
    Calls Try.prog 22 #[.pointer (some ⟨r, 0, none⟩), .int .i64 no, .int .i64 at', .int .i64 most] w (RefRead base r own S (readS S s no at' most) (readE S s no at' most) (readB S s no at' most) w) := by
  obtain ⟨sv, tv, bv, h⟩ := h
  have HI := Lib.hid (is_any h hs.T no)
  have HC := Lib.hid (counts_any h hs.n hS)
  have HNIL := Lib.hid (show RefRead base r own S s 1 [] w (.returned (.tuple #[.slice none 0 0, .int .i64 1])) w from ⟨_, rfl, isBytes_none _ _, ⟨_, _, _, h⟩, Frame.refl _ _⟩)
  unfold readB readE readS
  by_cases hc : readNo s no at' most
  · rw [if_pos hc, if_pos hc, if_neg (by decide)]
    unfold readNo at hc
    rcases fileAt_cases s.T no with ⟨k, t, e1, hk, hf⟩ | hf
    · rw [hf] at HI hc
      simp only [Option.isSome_some, Option.isNone_some, Bool.false_eq_true, Option.getD_some, false_or] at HI hc
      obtain ⟨gt, ct, gb, cb, rfl, rfl, hct, -, -, -⟩ := h.at hk
      have c1 := h.c1
      have hlt := (List.getElem?_eq_some_iff.1 hk).1
      have q3 : (0 : Int) ≤ (k : Int) := by omega
      have q4 : (k : Int) < (s.T.length : Int) := by omega
      have q5 : (k : Int) ≤ 64 := by have := hs.T; omega
      obtain ⟨S1, hS1⟩ : ∃ S1 : ByteArray, strV t = .string S1 := ⟨_, rfl⟩
      rw [hS1] at hct
      have hsz := strV_size hS1
      rw [← hsz] at hc
      subst e1
      clear hk hf hs h hlt hS1 hsz HC
      by_cases h1 : at' < 0
      · clear hc
        go_enter Try.func22, Try.ntmps22
        go_wp2_with (refine HI.out.mono ?_; rintro e w' ⟨rfl, rfl⟩)
        go_ret2
        exact HNIL.out
      · by_cases h2 : (S1.size : Int) < at'
        · clear hc
          go_enter Try.func22, Try.ntmps22
          go_wp2_with (refine HI.out.mono ?_; rintro e w' ⟨rfl, rfl⟩)
          go_ret2
          exact HNIL.out
        · have h3 : most < 1 := by rcases hc with hc | hc | hc <;> first | exact hc | exact absurd hc ‹_›
          clear hc
          go_enter Try.func22, Try.ntmps22
          go_wp2_with (refine HI.out.mono ?_; rintro e w' ⟨rfl, rfl⟩)
          go_ret2
          exact HNIL.out
    · rw [hf] at HI
      simp only [Option.isSome_none] at HI
      clear hc hf hs h HC
      go_enter Try.func22, Try.ntmps22
      go_wp2_with (refine HI.out.mono ?_; rintro e w' ⟨rfl, rfl⟩)
      go_ret2
      exact HNIL.out
  · rw [if_neg hc, if_neg hc]
    unfold readNo at hc
    simp only [not_or] at hc
    obtain ⟨hc1, hc2, hc3, hc4⟩ := hc
    rcases fileAt_cases s.T no with ⟨k, t, e1, hk, hf⟩ | hf
    · rw [hf] at HI hc3 ⊢
      simp only [Option.isSome_some, Option.getD_some] at HI hc3 ⊢
      obtain ⟨j, rfl⟩ : ∃ j : Nat, at' = (j : Int) := ⟨at'.toNat, by omega⟩
      obtain ⟨m, rfl⟩ : ∃ m : Nat, most = (m : Int) := ⟨most.toNat, by omega⟩
      obtain ⟨gt, ct, gb, cb, rfl, rfl, hct, -, -, -⟩ := h.at hk
      have c1 := h.c1
      have hlt := (List.getElem?_eq_some_iff.1 hk).1
      have q3 : (0 : Int) ≤ (k : Int) := by omega
      have q4 : (k : Int) < (s.T.length : Int) := by omega
      have q5 : (k : Int) ≤ 64 := by have := hs.T; omega
      have HK := Lib.hid hk
      obtain ⟨S1, hS1⟩ : ∃ S1 : ByteArray, strV t = .string S1 := ⟨_, rfl⟩
      rw [hS1] at hct
      have hsz := strV_size hS1
      have hj : j ≤ t.length := by omega
      have q6 : (0 : Int) ≤ (j : Int) := by omega
      have q7 : (j : Int) ≤ (S1.size : Int) := by omega
      have q8 : ¬ (S1.size : Int) < (j : Int) := by omega
      have q9 : ¬ S1.size < j := by omega
      have q10 : ¬ (m : Int) < 1 := by omega
      have q11 : ¬ m < 1 := by omega
      have HS1 := Lib.hid hS1
      subst e1
      by_cases he : cntE S s = 0
      · rw [if_pos he]
        rw [he] at HC ⊢
        have hF := str_from (j := j) hS1
        obtain ⟨F, hFF⟩ : ∃ F, F = S1.extract j S1.size := ⟨_, rfl⟩
        rw [← hFF] at hF
        have q12 : S1.size ≤ 1000000 := by rw [hsz]; exact hs.t _ (List.mem_of_getElem? hk)
        simp only [Int.toNat_natCast]
        obtain ⟨X, hX⟩ : ∃ X, X = (t.drop j).take m := ⟨_, rfl⟩
        rw [← hX]
        have HX := Lib.hid hX
        clear hX
        have HF := Lib.hid hF
        have HFF := Lib.hid hFF
        clear hk hf hs h hlt hS1 hsz hj he hc1 hc2 hc3 hc4 hF hFF HNIL
        go_enter Try.func22, Try.ntmps22
        go_wp2_with (first | (refine HI.out.mono ?_; rintro e w' ⟨rfl, rfl⟩) | (refine HC.out.mono ?_; rintro e w1 ⟨rfl, hd, hfr⟩; have c1 : w1.cell? ⟨r, 1, none⟩ = some (.slice (some ⟨gt, 0, none⟩) s.T.length ct) := hd.c1; obtain ⟨_, _, _, _, e5, e6, hc, -, -, -⟩ := hd.at HK.out; cases e5; rw [HS1.out] at hc; have HD := Lib.hid hd; have HFR := Lib.hid hfr; clear hd hfr e6))
        · have hx := str_upto (m := m) HF.out.1
          rw [HFF.out, ← HX.out] at hx
          obtain ⟨ca, w2, hcv, -, hby, hb⟩ := conv_str X w1
          rw [hx] at hcv
          have hby2 : IsBytes (w'.heap.size ≤ ·) w2 (.slice (some ⟨w1.heap.size, 0, none⟩) X.length ca) X := hby.mono (fun k _ h => Nat.le_trans HFR.out.size h)
          have HE := Lib.hid (show RefRead base r own S (cntS S s) 0 X w' _ w2 from ⟨_, rfl, hby2, ⟨_, _, _, HD.out.below hb⟩, HFR.out.trans (Below.toFrame hb _)⟩)
          clear hby hby2 hb hx
          rw [hcv]
          go_wp2_with fail
          go_ret2
          exact HE.out
        · have hle : F.size ≤ m := by have := HF.out.2; have := strV_size HS1.out; omega
          have hx := HF.out.1
          have hta : (t.drop j).take m = t.drop j := List.take_of_length_le (by have := HF.out.2; simp; omega)
          rw [HFF.out, ← hta, ← HX.out] at hx
          obtain ⟨ca, w2, hcv, -, hby, hb⟩ := conv_str X w1
          rw [hx] at hcv
          have hby2 : IsBytes (w'.heap.size ≤ ·) w2 (.slice (some ⟨w1.heap.size, 0, none⟩) X.length ca) X := hby.mono (fun k _ h => Nat.le_trans HFR.out.size h)
          have HE := Lib.hid (show RefRead base r own S (cntS S s) 0 X w' _ w2 from ⟨_, rfl, hby2, ⟨_, _, _, HD.out.below hb⟩, HFR.out.trans (Below.toFrame hb _)⟩)
          clear hby hby2 hb hx hta hle
          rw [hcv]
          go_wp2_with fail
          go_ret2
          exact HE.out
      · rw [if_neg he]
        have HFR := Lib.hid (show ∀ w', Frame (· = r) w w' → RDisk base r own S (cntS S s) sv (.slice (some ⟨gt, 0, none⟩) s.T.length ct) (.slice (some ⟨gb, 0, none⟩) s.T.length cb) w' → RefRead base r own S (cntS S s) (cntE S s) [] w (.returned (.tuple #[.slice none 0 0, .int .i64 (cntE S s)])) w' from fun w' hf hd => ⟨_, rfl, isBytes_none _ _, ⟨_, _, _, hd⟩, hf⟩)
        obtain ⟨E, hE⟩ : ∃ E, E = cntE S s := ⟨_, rfl⟩
        rw [← hE] at HC HFR he ⊢
        have g1 : (E != 0) = true := by simpa using he
        clear hk hf hs he h hE hc1 hc2 hc3 hc4 hlt hS1 hsz hj HNIL
        go_enter Try.func22, Try.ntmps22
        go_wp2_with (first | (refine HI.out.mono ?_; rintro e w' ⟨rfl, rfl⟩) | (refine HC.out.mono ?_; rintro e w1 ⟨rfl, hd, hfr⟩; have HD := Lib.hid hd; have HF := Lib.hid hfr; clear hd hfr))
        go_ret2
        exact HFR.out _ HF.out HD.out
    · rw [hf] at hc1
      simp at hc1
end
end Go.Proofs.Ytpengkkbmenkpaa
