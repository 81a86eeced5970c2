/- A disk: what Write does. -/
import Derived.Test.YtpengkkbmenkpaaFscount
import Derived.Test.YtpengkkbmenkpaaFsadd
namespace Go.Proofs.Ytpengkkbmenkpaa
open Go.RowKit

section
variable {base g : Nat} {own : Nat → Nat} {S : Script} {s : DSt} {bf : Nat} {mf : Option Nat} {F : List (Nat × Value)} {w : World}
theorem filesF_set {T : List (List UInt8 × Bool)} {F : List (Nat × Value)} {k b : Nat} {t : List UInt8} {v : Value} (hk : T[k]? = some (t, true)) (hF : F[k]? = some (b, v)) (t' : List UInt8) (v' : Value) (c : Int) :
    filesF (T.set k (t', true)) (F.set k (b, v')) c = filesF T F c := by
  by_cases h1 : 1 ≤ c
  · obtain ⟨j, rfl⟩ : ∃ j : Nat, c = (j : Int) + 1 := ⟨(c - 1).toNat, by omega⟩
    by_cases hj : j = k
    · subst hj
      have h1 := (List.getElem?_eq_some_iff.1 hk).1
      have h2 := (List.getElem?_eq_some_iff.1 hF).1
      rw [filesF_some hk hF]
      exact filesF_some (t := t') (v := v') (by simp [h1]) (by simp [h2])
    · unfold filesF
      rw [if_pos h1, if_pos h1, show ((j : Int) + 1 - 1).toNat = j by omega, List.getElem?_set_ne (fun e => hj e.symm), List.getElem?_set_ne (fun e => hj e.symm)]
  · unfold filesF
    rw [if_neg h1, if_neg h1]
theorem get_set {α : Type} {L : List α} {k j : Nat} {x y : α} (h : (L.set k x)[j]? = some y) : (j = k ∧ y = x) ∨ (j ≠ k ∧ L[j]? = some y) := by
  by_cases hj : j = k
  · subst hj
    have hlt := (List.getElem?_eq_some_iff.1 h).1
    rw [List.length_set] at hlt
    simp [hlt] at h
    exact .inl ⟨rfl, h.symm⟩
  · rw [List.getElem?_set_ne (fun e => hj e.symm)] at h
    exact .inr ⟨hj, h⟩

/-- A file's bytes are put. -/
theorem Disk.wrote (h : Disk base g own S s bf mf F w) {k b : Nat} {t : List UInt8} {v : Value} (hk : s.T[k]? = some (t, true)) (hF : F[k]? = some (b, v)) {t' : List UInt8} {v' : Value} {w' : World}
    (hb : w'.heap[b]? = some (.cells #[v'] 65 (0, 0))) (ho : w'.ownsRow base 5 1 v' t'.length (bytesL t')) (hl : v'.ownBlock = v.ownBlock ∨ v'.ownBlock = some w.heap.size)
    (hf : Frame (fun x => x = b ∨ v.ownBlock = some x) w w') :
    Disk base g (fun x => if v'.ownBlock = some x then 5 + 2 * k else own x) S { s with T := s.T.set k (t', true) } bf mf (F.set k (b, v')) w' := by
  obtain ⟨-, -, ob, ov⟩ := h.file k t b v hk hF
  have og := h.og
  have of := h.of
  have hsame : ∀ x, own x ≠ 0 → (if v'.ownBlock = some x then 5 + 2 * k else own x) = own x := fun x hx => by
    split
    · rename_i e
      rcases hl with hl | hl <;> rw [e] at hl
      · exact (ov x hl.symm).symm
      · cases hl
        have := (h.bnd _ hx).2
        omega
    · rfl
  have hno : ∀ x n, own x = n → n ≠ 0 → n ≠ 4 + 2 * k → n ≠ 5 + 2 * k → ¬ (x = b ∨ v.ownBlock = some x) := fun x n h1 h2 h3 h4 e => by
    rcases e with e | e
    · rw [e, ob] at h1
      omega
    · have := ov x e
      omega
  refine ⟨?_, h.fails.frame hf (hno bf 2 of (by omega) (by omega) (by omega)), fun e => ?_, fun m e => ?_, ?_, fun j t1 b1 v1 h1 h2 => ?_, ?_, ?_, fun x hx => ?_⟩
  · have := hf.heap h.heap (hno g 1 og (by omega) (by omega) (by omega))
    simpa using this
  · have := h.none e
    rw [this] at hk
    simp at hk
  · obtain ⟨h1, h2⟩ := h.files m e
    refine ⟨?_, by rw [hsame m (by omega)]; exact h2⟩
    have := (h1.frame hf (hno m 3 h2 (by omega) (by omega) (by omega))).congr (fun c => filesF_set hk hF t' v' c)
    simpa using this
  · simp [h.len]
  · rcases get_set h1 with ⟨rfl, e⟩ | ⟨hj, h1⟩
    · cases e
      have hlt := (List.getElem?_eq_some_iff.1 hF).1
      simp [hlt] at h2
      obtain ⟨rfl, rfl⟩ := h2
      exact ⟨hb, ho, by rw [hsame b (by omega)]; exact ob, fun r hr => if_pos hr⟩
    · rw [List.getElem?_set_ne (fun e => hj e.symm)] at h2
      obtain ⟨f1, f2, f3, f4⟩ := h.file j t1 b1 v1 h1 h2
      refine ⟨hf.heap f1 (hno b1 _ f3 (by omega) (by omega) (by omega)), hf.owns f2 (fun r hr => hno r _ (f4 r hr) (by omega) (by omega) (by omega)), by rw [hsame b1 (by omega)]; exact f3, fun r hr => by rw [hsame r (by rw [f4 r hr]; omega)]; exact f4 r hr⟩
  · show (if v'.ownBlock = some g then _ else own g) = 1
    rw [hsame g (by omega)]
    exact og
  · show (if v'.ownBlock = some bf then _ else own bf) = 2
    rw [hsame bf (by omega)]
    exact of
  · by_cases hv : v'.ownBlock = some x
    · exact ho.lt x hv
    · simp only [hv, if_false] at hx
      exact ⟨(h.bnd x hx).1, Nat.lt_of_lt_of_le (h.bnd x hx).2 hf.size⟩

set_option maxRecDepth 100000 in
set_option maxHeartbeats 1000000 in
theorem write_nil (no : Int) (vs : Value) (w : World) : Calls Try.prog 17 #[.pointer Option.none, .int .i64 no, vs] w fun e w' => e = .returned (.int .i64 1) ∧ w' = w := by
  go_enter Try.func17, Try.ntmps17
  go_wp2_with (refine (find_nil no w).mono ?_; rintro e w' ⟨rfl, rfl⟩)
  go_ret
  exact ⟨rfl, rfl⟩

set_option maxRecDepth 100000 in
set_option maxHeartbeats 1000000 in
theorem write_arg (h : Disk base g own S s bf mf F w) {no : Int} (hno : I64 no) (a : Option Addr) (n c : Nat) (hn : fileAt s.T no = Option.none ∨ n < 1 ∨ 1024 < n) :
    Calls Try.prog 17 #[.pointer (some ⟨g, 0, Option.none⟩), .int .i64 no, .slice a n c] w fun e w' => e = .returned (.int .i64 1) ∧ w' = w := by
  rcases fileAt_cases s.T no with ⟨k, t, rfl, hk, hf⟩ | hf
  · obtain ⟨b, v, hF⟩ := h.row hk
    have HFI := Lib.hid (find_yes h hno hk hF)
    rw [hf] at hn
    obtain ⟨no, hnn⟩ : ∃ no : Int, no = (k : Int) + 1 := ⟨_, rfl⟩
    rw [← hnn] at HFI ⊢
    clear h hno hk hF hnn hf
    by_cases h1 : n < 1
    · have q1 : (n : Int) < 1 := by omega
      clear hn h1
      go_enter Try.func17, Try.ntmps17
      go_wp2_with (refine HFI.out.mono ?_; rintro e w' ⟨rfl, rfl⟩)
      go_ret
      exact ⟨rfl, rfl⟩
    · have q1 : ¬ (n : Int) < 1 := by omega
      have q2 : (1024 : Int) < (n : Int) := by
        rcases hn with hn | hn | hn
        · cases hn
        · omega
        · omega
      clear hn h1
      go_enter Try.func17, Try.ntmps17
      go_wp2_with (refine HFI.out.mono ?_; rintro e w' ⟨rfl, rfl⟩)
      go_ret
      exact ⟨rfl, rfl⟩
  · have HFI := Lib.hid (find_no h hno hf)
    clear h hno hf hn
    go_enter Try.func17, Try.ntmps17
    go_wp2_with (refine HFI.out.mono ?_; rintro e w' ⟨rfl, rfl⟩)
    go_ret
    exact ⟨rfl, rfl⟩

set_option maxRecDepth 100000 in
set_option maxHeartbeats 1000000 in
theorem write_fail (h : Disk base g own S s bf mf F w) (hs : Small s) {no : Int} (hno : I64 no) (a : Option Addr) (n c : Nat) {k : Nat} {t : List UInt8} (e1 : no = (k : Int) + 1) (hk : s.T[k]? = some (t, true)) (h1 : ¬ n < 1) (h2 : ¬ 1024 < n) (he : cntE S s ≠ 0) :
    Calls Try.prog 17 #[.pointer (some ⟨g, 0, Option.none⟩), .int .i64 no, .slice a n c] w fun e w' => e = .returned (.int .i64 (cntE S s)) ∧ Disk base g own S (cntS S s) bf mf F w' ∧ Frame (· = g) w w' := by
  obtain ⟨b, v, hF⟩ := h.row hk
  subst e1
  have HFI := Lib.hid (find_yes h hno hk hF)
  have HC := Lib.hid (count_any h hs.n)
  obtain ⟨no, hnn⟩ : ∃ no : Int, no = (k : Int) + 1 := ⟨_, rfl⟩
  rw [← hnn] at HFI ⊢
  obtain ⟨E, hE⟩ : ∃ E, E = cntE S s := ⟨_, rfl⟩
  rw [← hE] at HC he ⊢
  have g1 : (E != 0) = true := by simpa using he
  have q1 : ¬ (n : Int) < 1 := by omega
  have q2 : ¬ (1024 : Int) < (n : Int) := by omega
  clear h hno hk hF hnn h1 h2 hE he hs
  go_enter Try.func17, Try.ntmps17
  go_wp2_with (first | (refine HFI.out.mono ?_; rintro e w' ⟨rfl, rfl⟩) | (refine HC.out.mono ?_; rintro e w1 ⟨rfl, hd, hf⟩; have HD := Lib.hid hd; have HFR := Lib.hid hf; clear hd hf))
  go_ret
  exact ⟨rfl, HD.out, HFR.out⟩

set_option maxRecDepth 100000 in
set_option maxHeartbeats 1000000 in
theorem write_yes {p : Nat → Prop} (h : Disk base g own S s bf mf F w) (hs : Small s) {no : Int} (hno : I64 no) (vs : Value) (bs : List UInt8) (hsrc : IsBytes p w vs bs) (hp : ∀ k, p k → own k = 0) {k : Nat} {t : List UInt8} (e1 : no = (k : Int) + 1) (hk : s.T[k]? = some (t, true))
    (h1 : ¬ bs.length < 1) (h2 : ¬ 1024 < bs.length) (he : cntE S s = 0) :
    Calls Try.prog 17 #[.pointer (some ⟨g, 0, Option.none⟩), .int .i64 no, vs] w fun e w' => e = .returned (.int .i64 0) ∧ DiskLeft base g own S { cntS S s with T := s.T.set k (t ++ bs, true) } w w' := by
  obtain ⟨b, v, hF⟩ := h.row hk
  subst e1
  have HFI := Lib.hid (find_yes h hno hk hF)
  have HC := Lib.hid (count_any h hs.n)
  have HSR := Lib.hid (show ∀ w', Frame (· = g) w w' → IsBytes p w' vs bs from fun w' hf => hsrc.frame hf (fun k hk e => by have h3 := hp k hk; have h4 := h.og; have e' : k = g := e; rw [e'] at h3; omega))
  have HH := Lib.hid h
  have HK := Lib.hid hk
  have HF := Lib.hid hF
  have ht := hs.t _ (List.mem_of_getElem? hk)
  obtain ⟨no, hnn⟩ : ∃ no : Int, no = (k : Int) + 1 := ⟨_, rfl⟩
  rw [← hnn] at HFI ⊢
  rw [he] at HC
  have q1 : ¬ (bs.length : Int) < 1 := by omega
  have q2 : ¬ (1024 : Int) < (bs.length : Int) := by omega
  have HB2 := Lib.hid h2
  obtain ⟨sa, sc, rfl, -⟩ := hsrc
  have HT := Lib.hid ht
  clear h hno hk hF hnn h1 h2 he hs hp ht
  go_enter Try.func17, Try.ntmps17
  go_wp2_with (first | (refine HFI.out.mono ?_; rintro e w' ⟨rfl, rfl⟩) | (refine HC.out.mono ?_; rintro e w1 ⟨rfl, hd, hf⟩; have HD := Lib.hid hd; have HFR := Lib.hid hf; clear hd hf))
  obtain ⟨f1, f2, f3, f4⟩ := HD.out.file k t b v HK.out HF.out
  have hbase : base ≤ w1.heap.size := by have := HD.out.bnd g (by rw [HD.out.og]; omega); omega
  refine (add_any base b v _ t bs w1 f1 f2 (fun e => by have := f4 b e; omega) (HSR.out _ HFR.out) (by have := HT.out; have := HB2.out; show t.length + bs.length ≤ 10000000; omega) hbase).mono ?_
  rintro e w2 ⟨rfl, v', hb2, ho2, hl2, hf2⟩
  have hd2 := HD.out.wrote HK.out HF.out hb2 ho2 hl2 hf2
  have hsz := HFR.out.size
  have hown : ∀ x, x < w'.heap.size → (if v'.ownBlock = some x then 5 + 2 * k else own x) = own x := fun x hx => by
    split
    · rename_i e
      rcases hl2 with hl | hl <;> rw [e] at hl
      · exact (f4 x hl.symm).symm
      · cases hl
        omega
    · rfl
  have hf3 : Frame (fun x => own x ≠ 0) w' w2 := (HFR.out.mono (fun x _ e => by have e' : x = g := e; subst e'; show own x ≠ 0; rw [HD.out.og]; omega)).then hf2 (fun x _ e => by
    rcases e with e | e
    · subst e
      omega
    · have := f4 x e
      omega)
  have HD2 := Lib.hid hd2
  have HO := Lib.hid hown
  have HF3 := Lib.hid hf3
  clear f1 f2 f3 f4 hbase hb2 ho2 hl2 hf2 hd2 hsz hown hf3 HSR HC HFI
  go_wp2_with fail
  go_ret
  exact ⟨rfl, _, ⟨_, _, _, HD2.out⟩, HO.out, HF3.out⟩

/-- What Write does, whatever comes. -/
theorem write_any {p : Nat → Prop} (h : DiskAt base g own S s w) (hs : Small s) {no : Int} (hno : I64 no) (vs : Value) (bs : List UInt8) (hsrc : IsBytes p w vs bs) (hp : ∀ k, p k → own k = 0) :
    Calls Try.prog 17 #[.pointer (some ⟨g, 0, Option.none⟩), .int .i64 no, vs] w fun e w' => e = .returned (.int .i64 (writeE S s no bs)) ∧ DiskLeft base g own S (writeS S s no bs) w w' := by
  obtain ⟨bf, mf, F, h⟩ := h
  unfold writeE writeS
  by_cases hc : (fileAt s.T no).isNone = true ∨ bs.length < 1 ∨ 1024 < bs.length
  · rw [if_pos hc, if_pos hc]
    obtain ⟨a, c, rfl, -⟩ := hsrc
    refine (write_arg h hno a bs.length c (by simpa using hc)).mono ?_
    rintro e w' ⟨rfl, rfl⟩
    exact ⟨rfl, h.left (Below.refl _ _)⟩
  · rw [if_neg hc, if_neg hc]
    simp only [not_or] at hc
    obtain ⟨hc1, hc2, hc3⟩ := hc
    rcases fileAt_cases s.T no with ⟨k, t, e1, hk, hf⟩ | hf
    · by_cases he : cntE S s = 0
      · rw [if_pos he, he, hf]
        have e2 : (no - 1).toNat = k := by omega
        rw [e2]
        exact write_yes h hs hno vs bs hsrc hp e1 hk hc2 hc3 he
      · rw [if_neg he]
        obtain ⟨a, c, rfl, -⟩ := hsrc
        refine (write_fail h hs hno a bs.length c e1 hk hc2 hc3 he).mono ?_
        rintro e w' ⟨rfl, hd, hf⟩
        exact ⟨rfl, own, ⟨_, _, _, hd⟩, fun _ _ => rfl, hf.mono (fun x _ e => by have e' : x = g := e; subst e'; show own x ≠ 0; rw [h.og]; omega)⟩
    · rw [hf] at hc1
      simp at hc1
end
end Go.Proofs.Ytpengkkbmenkpaa
