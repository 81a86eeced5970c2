/- A disk: what Read does. -/
import Derived.Test.YtpengkkbmenkpaaFscount
import Derived.Test.YtpengkkbmenkpaaFsadd
import Derived.Test.YtpengkkbmenkpaaRA
namespace Go.Proofs.Ytpengkkbmenkpaa
open Go.RowKit

set_option maxRecDepth 100000 in
set_option maxHeartbeats 1000000 in
theorem cloneRow_any {p : Nat → Prop} (a : Option Addr) (c : Nat) (bs : List UInt8) (w : World) (hB : IsBytes p w (.slice a bs.length c) bs) (hl : bs.length ≤ 1000000) :
    Calls Try.prog 36 #[.slice a bs.length c] w (Fresh w bs) := by
  have q63 : ∀ (w : World) (a : Option Addr) (n c n' c' : Nat), (binOp .eql 63 (.slice a n c) (.slice none n' c')).run Try.prog w = .ok (.bool a.isNone) w := fun w a n c n' c' => Lib.run_eql_slice_nil w _ _ a n c n' c' Try.underlying63
  cases a with
  | none =>
    have hb : bs = [] := by
      obtain ⟨_, _, e, _, hc⟩ := hB
      cases e
      cases bs with
      | nil => rfl
      | cons x r =>
        obtain ⟨_, _, e, _⟩ := hc 0 x rfl
        cases e
    subst hb
    clear hB
    go_enter Try.func36, Try.ntmps36
    go_wp2_with fail
    go_ret
    exact ⟨_, rfl, by simpa [bytesL] using World.ownsRow_nil w w.heap.size 5 1, Below.refl _ _⟩
  | some a =>
    have hown := World.ownsRow_made (base := w.heap.size) (e := 5) (size := 1) w #[] 0 (Nat.le_refl _) (Nat.zero_le _) rfl
    have hsrc := hB.below ((Below.refl w.heap.size w).alloc (Nat.le_refl _) (.cells #[] 5))
    have HOW := Lib.hid hown
    have HS := Lib.hid hsrc
    clear hown hsrc hB
    go_enter Try.func36, Try.ntmps36
    go_wp2_with (at_builtin; refine wpList_append_row rfl (.tmp 5) (.tmp 6) 63 63 rfl Try.underlying63 Try.underlying63 w.heap.size _ _ [] bs rfl HOW.out rfl HS.out (by simp; omega) (by simp) ?_)
    intro v' w1 ho hg _
    have hb : Below w.heap.size w w1 := owns_below_of HOW.out ((Below.refl w.heap.size w).alloc (Nat.le_refl _) (.cells #[] 5)) hg
    have HO := Lib.hid ho
    have HB := Lib.hid hb
    clear ho hg hb
    go_wp2_with fail
    go_ret
    exact ⟨v', rfl, by simpa using HO.out, HB.out⟩

set_option maxRecDepth 100000 in
set_option maxHeartbeats 1000000 in
theorem piece_any {p : Nat → Prop} (a : Option Addr) (c : Nat) (bs : List UInt8) (k m : Nat) (w : World) (hB : IsBytes p w (.slice a bs.length c) bs) (hl : bs.length ≤ 1000000) (hk : k ≤ bs.length) :
    Calls Try.prog 30 #[.slice a bs.length c, .int .i64 k, .int .i64 m] w (Fresh w ((bs.drop k).take m)) := by
  have HC := Lib.hid (show ∀ (a : Option Addr) (c : Nat) (xs : List UInt8) (w' : World), IsBytes p w' (.slice a xs.length c) xs → xs.length ≤ 1000000 → Calls Try.prog 36 #[.slice a xs.length c] w' (Fresh w' xs) from fun a c xs w' h1 h2 => cloneRow_any a c xs w' h1 h2)
  have HB := Lib.hid hB
  have q1 : (0 : Int) ≤ (k : Int) := by omega
  have q2 : (k : Int) ≤ (bs.length : Int) := by omega
  obtain ⟨_, _, e, hle, _⟩ := hB
  cases e
  have q3 : k ≤ c := by omega
  obtain ⟨A, hA⟩ : ∃ A, A = if c = k then a else a.map fun x => x.add k := ⟨_, rfl⟩
  obtain ⟨N, hN⟩ : ∃ N : Nat, N = min m (bs.length - k) := ⟨_, rfl⟩
  have q4 : N ≤ c - k := by omega
  have q5 : N ≤ bs.length - k := by omega
  have HN := Lib.hid hN
  have HA := Lib.hid hA
  clear hA hN
  go_enter Try.func30, Try.ntmps30
  go_wp2_with fail
  refine anyG_start (S := fun _ => True) (by kernel_rfl) ?_
  generalize hWD : w.drew = WD
  have HWD0 := Lib.hid hWD
  clear hWD
  refine anyG_take (i := 0) 7 (.slice a bs.length c) rfl rfl (by kernel_rfl) (by kernel_rfl) (by kernel_rfl) rfl (fun _ _ => rfl) trivial ?_
  simp only [Act.put, List.setIfInBounds_toArray, List.set_cons_succ, List.set_cons_zero]
  refine anyG_take (i := 1) 8 (.int .i64 k) rfl rfl (by kernel_rfl) (by kernel_rfl) (by kernel_rfl) rfl (fun _ _ => rfl) trivial ?_
  simp only [Act.put, List.setIfInBounds_toArray, List.set_cons_succ, List.set_cons_zero]
  refine anyG_take (i := 2) 9 (.slice A (bs.length - k) (c - k)) rfl rfl (by kernel_rfl) (by kernel_rfl) (by kernel_rfl) rfl (fun _ _ => by rw [HA.out]; go_simp) trivial ?_
  simp only [Act.put, List.setIfInBounds_toArray, List.set_cons_succ, List.set_cons_zero]
  refine anyG_take (i := 3) 10 (.int .i64 m) rfl rfl (by kernel_rfl) (by kernel_rfl) (by kernel_rfl) rfl (fun _ _ => rfl) trivial ?_
  simp only [Act.put, List.setIfInBounds_toArray, List.set_cons_succ, List.set_cons_zero]
  refine anyG_take (i := 4) 11 (.slice a bs.length c) rfl rfl (by kernel_rfl) (by kernel_rfl) (by kernel_rfl) rfl (fun _ _ => rfl) trivial ?_
  simp only [Act.put, List.setIfInBounds_toArray, List.set_cons_succ, List.set_cons_zero]
  refine anyG_take (i := 6) 13 (.int .i64 k) rfl rfl (by kernel_rfl) (by kernel_rfl) (by kernel_rfl) rfl (fun _ _ => rfl) trivial ?_
  simp only [Act.put, List.setIfInBounds_toArray, List.set_cons_succ, List.set_cons_zero]
  refine anyG_step (i := 5) rfl (by kernel_rfl) rfl (fun K hK => ?_)
  go_simp
  refine (size_any _ _ _ _).mono ?_
  rintro e w' ⟨rfl, rfl⟩
  have hWD := HWD0.out
  have HWD1 := Lib.hid hWD
  clear hWD HWD0
  refine hK.out _ _ trivial ?_
  clear hK
  refine anyG_take (i := 7) 14 (.int .i64 ((bs.length : Int) - (k : Int))) rfl rfl (by kernel_rfl) (by kernel_rfl) (by kernel_rfl) rfl (fun _ _ => by go_simp; rw [IntKind.wrap_i64]; omega) trivial ?_
  simp only [Act.put, List.setIfInBounds_toArray, List.set_cons_succ, List.set_cons_zero]
  refine anyG_take (i := 8) 15 (.int .i64 N) rfl rfl (by kernel_rfl) (by kernel_rfl) (by kernel_rfl) rfl (fun _ _ => by go_simp; rw [HN.out]; split <;> omega) trivial ?_
  simp only [Act.put, List.setIfInBounds_toArray, List.set_cons_succ, List.set_cons_zero]
  refine anyG_take (i := 9) 16 (.slice A N (c - k)) rfl rfl (by kernel_rfl) (by kernel_rfl) (by kernel_rfl) rfl (fun _ _ => by go_simp) trivial ?_
  simp only [Act.put, List.setIfInBounds_toArray, List.set_cons_succ, List.set_cons_zero]
  refine anyG_step (i := 10) rfl (by kernel_rfl) rfl (fun K hK => ?_)
  go_simp
  have hWD := HWD1.out
  have h1 := bytes_drop (A := A) HB.out (n := k) hk HA.out
  have h2 : ((bs.drop k).take m).length = N := by have := HN.out; simp; omega
  have h3 : IsBytes p w (.slice A N (c - k)) ((bs.drop k).take m) := by
    have hl : (bs.drop k).length = bs.length - k := by simp
    rw [← hl] at h1
    have h4 := bytes_take (n := N) h1 (by rw [hl]; exact q5)
    have h5 : (bs.drop k).take N = (bs.drop k).take m := by
      rw [HN.out, ← hl]
      by_cases hmm : m ≤ (bs.drop k).length
      · rw [Nat.min_eq_left hmm]
      · rw [Nat.min_eq_right (by omega), List.take_length, List.take_of_length_le (by omega)]
    rw [h5] at h4
    exact h4
  have hcl := HC.out A (c - k) ((bs.drop k).take m) w.drew (by rw [h2]; exact h3.below (Below.drew (Below.refl _ _))) (by omega)
  rw [h2, hWD] at hcl
  refine hcl.mono ?_
  rintro e w1 ⟨v', rfl, ho, hb⟩
  have HO := Lib.hid ho
  have HBB := Lib.hid hb
  have HWD := Lib.hid hWD
  clear ho hb h1 h2 h3 hcl
  refine hK.out _ _ trivial ?_
  clear hK
  refine anyG_step (i := 11) rfl (by kernel_rfl) rfl (fun K hK => ?_)
  go_simp
  refine hK.out _ _ trivial (anyG_done (by kernel_rfl) ?_)
  clear hK
  go_wp2_with fail
  go_ret
  have hsz : w'.heap.size = w.heap.size := by rw [← HWD.out]; rfl
  refine ⟨v', rfl, by rw [← hsz]; exact HO.out, ?_⟩
  have := HBB.out
  rw [hsz, ← HWD.out] at this
  exact (Below.drew (Below.refl _ _)).trans this

section
variable {base g : Nat} {own : Nat → Nat} {S : Script} {s : DSt} {bf : Nat} {mf : Option Nat} {F : List (Nat × Value)} {w : World}
set_option maxRecDepth 100000 in
set_option maxHeartbeats 1000000 in
theorem read_nil (no at' most : Int) (w : World) : Calls Try.prog 18 #[.pointer none, .int .i64 no, .int .i64 at', .int .i64 most] w fun e w' => e = .returned (.tuple #[.slice none 0 0, .int .i64 1]) ∧ w' = w := by
  go_enter Try.func18, Try.ntmps18
  go_wp2_with (refine (find_nil no w).mono ?_; rintro e w' ⟨rfl, rfl⟩)
  go_ret2
  exact ⟨rfl, rfl⟩

set_option maxRecDepth 100000 in
set_option maxHeartbeats 1000000 in
theorem read_arg (h : Disk base g own S s bf mf F w) {no : Int} (hno : I64 no) (at' most : Int) (hn : readNo s no at' most) :
    Calls Try.prog 18 #[.pointer (some ⟨g, 0, none⟩), .int .i64 no, .int .i64 at', .int .i64 most] w fun e w' => e = .returned (.tuple #[.slice none 0 0, .int .i64 1]) ∧ w' = w := by
  unfold readNo at hn
  rcases fileAt_cases s.T no with ⟨k, t, rfl, hk, hf⟩ | hf
  · obtain ⟨b, v, hF⟩ := h.row hk
    obtain ⟨f1, f2, -⟩ := h.file k t b v hk hF
    obtain ⟨va, vc, rfl⟩ := owns_slice f2
    have c0 : w.cell? ⟨b, 0, none⟩ = some (.slice va t.length vc) := by rw [cell_of_row _ _ _ _ _ _ f1]; rfl
    have HFI := Lib.hid (find_yes h hno hk hF)
    have HSZ := Lib.hid (size_any va t.length vc w)
    rw [hf] at hn
    simp only [Option.isNone_some, Bool.false_eq_true, Option.getD_some, false_or] at hn
    obtain ⟨no, hnn⟩ : ∃ no : Int, no = (k : Int) + 1 := ⟨_, rfl⟩
    rw [← hnn] at HFI ⊢
    obtain ⟨n, hnt⟩ : ∃ n : Int, n = (t.length : Int) := ⟨_, rfl⟩
    rw [← hnt] at hn HSZ
    clear h hno hk hF hnn hf f1 f2 hnt
    by_cases h1 : at' < 0
    · clear hn
      go_enter Try.func18, Try.ntmps18
      go_wp2_with (first | (refine HFI.out.mono ?_; rintro e w' ⟨rfl, rfl⟩) | (refine HSZ.out.mono ?_; rintro e w' ⟨rfl, rfl⟩))
      go_ret2
      exact ⟨rfl, rfl⟩
    · by_cases h2 : n < at'
      · clear hn
        go_enter Try.func18, Try.ntmps18
        go_wp2_with (first | (refine HFI.out.mono ?_; rintro e w' ⟨rfl, rfl⟩) | (refine HSZ.out.mono ?_; rintro e w' ⟨rfl, rfl⟩))
        go_ret2
        exact ⟨rfl, rfl⟩
      · have h3 : most < 1 := by rcases hn with hn | hn | hn <;> first | exact hn | exact absurd hn ‹_›
        clear hn
        go_enter Try.func18, Try.ntmps18
        go_wp2_with (first | (refine HFI.out.mono ?_; rintro e w' ⟨rfl, rfl⟩) | (refine HSZ.out.mono ?_; rintro e w' ⟨rfl, rfl⟩))
        go_ret2
        exact ⟨rfl, rfl⟩
  · have HFI := Lib.hid (find_no h hno hf)
    clear h hno hf hn
    go_enter Try.func18, Try.ntmps18
    go_wp2_with (refine HFI.out.mono ?_; rintro e w' ⟨rfl, rfl⟩)
    go_ret2
    exact ⟨rfl, rfl⟩

set_option maxRecDepth 100000 in
set_option maxHeartbeats 1000000 in
theorem read_fail (h : Disk base g own S s bf mf F w) (hs : Small s) {no : Int} (hno : I64 no) (at' most : Int) {k : Nat} {t : List UInt8} (e1 : no = (k : Int) + 1) (hk : s.T[k]? = some (t, true)) (h1 : ¬ at' < 0) (h2 : ¬ (t.length : Int) < at') (h3 : ¬ most < 1) (he : cntE S s ≠ 0) :
    Calls Try.prog 18 #[.pointer (some ⟨g, 0, none⟩), .int .i64 no, .int .i64 at', .int .i64 most] w fun e w' => e = .returned (.tuple #[.slice none 0 0, .int .i64 (cntE S s)]) ∧ Disk base g own S (cntS S s) bf mf F w' ∧ Frame (· = g) w w' := by
  subst e1
  obtain ⟨b, v, hF⟩ := h.row hk
  obtain ⟨f1, f2, -⟩ := h.file k t b v hk hF
  obtain ⟨va, vc, rfl⟩ := owns_slice f2
  have c0 : w.cell? ⟨b, 0, none⟩ = some (.slice va t.length vc) := by rw [cell_of_row _ _ _ _ _ _ f1]; rfl
  have HFI := Lib.hid (find_yes h hno hk hF)
  have HSZ := Lib.hid (size_any va t.length vc w)
  have HC := Lib.hid (count_any h hs.n)
  obtain ⟨no, hnn⟩ : ∃ no : Int, no = (k : Int) + 1 := ⟨_, rfl⟩
  rw [← hnn] at HFI ⊢
  obtain ⟨n, hnt⟩ : ∃ n : Int, n = (t.length : Int) := ⟨_, rfl⟩
  rw [← hnt] at h2 HSZ
  obtain ⟨E, hE⟩ : ∃ E, E = cntE S s := ⟨_, rfl⟩
  rw [← hE] at HC he ⊢
  have g1 : (E != 0) = true := by simpa using he
  clear h hno hk hF hnn f1 f2 hnt hs hE he
  go_enter Try.func18, Try.ntmps18
  go_wp2_with (first | (refine HFI.out.mono ?_; rintro e w' ⟨rfl, rfl⟩) | (refine HSZ.out.mono ?_; rintro e w' ⟨rfl, rfl⟩) | (refine HC.out.mono ?_; rintro e w1 ⟨rfl, hd, hf⟩; have HD := Lib.hid hd; have HFR := Lib.hid hf; clear hd hf))
  go_ret2
  exact ⟨rfl, HD.out, HFR.out⟩

set_option maxRecDepth 100000 in
set_option maxHeartbeats 1000000 in
theorem read_yes (h : Disk base g own S s bf mf F w) (hs : Small s) {no : Int} (hno : I64 no) (j m : Nat) {k : Nat} {t : List UInt8} (e1 : no = (k : Int) + 1) (hk : s.T[k]? = some (t, true)) (h2 : j ≤ t.length) (h3 : 1 ≤ m) (he : cntE S s = 0) :
    Calls Try.prog 18 #[.pointer (some ⟨g, 0, none⟩), .int .i64 no, .int .i64 j, .int .i64 m] w fun e w' => ∃ v, e = .returned (.tuple #[v, .int .i64 0]) ∧
      w'.ownsRow w.heap.size 5 1 v ((t.drop j).take m).length (bytesL ((t.drop j).take m)) ∧ Disk base g own S (cntS S s) bf mf F w' ∧ Frame (· = g) w w' := by
  subst e1
  obtain ⟨b, v, hF⟩ := h.row hk
  obtain ⟨f1, f2, -⟩ := h.file k t b v hk hF
  obtain ⟨va, vc, rfl⟩ := owns_slice f2
  have c0 : w.cell? ⟨b, 0, none⟩ = some (.slice va t.length vc) := by rw [cell_of_row _ _ _ _ _ _ f1]; rfl
  have HFI := Lib.hid (find_yes h hno hk hF)
  have HSZ := Lib.hid (size_any va t.length vc w)
  have HC := Lib.hid (count_any h hs.n)
  have HK := Lib.hid hk
  have HF := Lib.hid hF
  have HT := Lib.hid (hs.t _ (List.mem_of_getElem? hk))
  obtain ⟨no, hnn⟩ : ∃ no : Int, no = (k : Int) + 1 := ⟨_, rfl⟩
  rw [← hnn] at HFI ⊢
  rw [he] at HC
  have q1 : ¬ (j : Int) < 0 := by omega
  have q2 : ¬ (t.length : Int) < (j : Int) := by omega
  have q3 : ¬ (m : Int) < 1 := by omega
  have H2 := Lib.hid h2
  have H3 := Lib.hid h3
  clear h hno hk hF hnn f1 f2 hs he h2 h3
  go_enter Try.func18, Try.ntmps18
  go_wp2_with (first | (refine HFI.out.mono ?_; rintro e w' ⟨rfl, rfl⟩) | (refine HSZ.out.mono ?_; rintro e w' ⟨rfl, rfl⟩) | (refine HC.out.mono ?_; rintro e w1 ⟨rfl, hd, hf⟩; have c1 := (hd.file k t b _ HK.out HF.out).1; have c1 : w1.cell? ⟨b, 0, none⟩ = some (.slice va t.length vc) := (by rw [cell_of_row _ _ _ _ _ _ c1]; rfl); have HD := Lib.hid hd; have HFR := Lib.hid hf; clear hd hf))
  refine (piece_any (p := fun _ => True) va vc t j m w1 ((isBytes_of_owns (HD.out.file k t b _ HK.out HF.out).2.1).mono fun _ _ _ => trivial) HT.out H2.out).mono ?_
  rintro e w2 ⟨v', rfl, ho, hb⟩
  have hd2 := HD.out.below hb
  have hf2 := HFR.out.trans (Below.toFrame hb _)
  have ho2 : w2.ownsRow w'.heap.size 5 1 v' ((t.drop j).take m).length (bytesL ((t.drop j).take m)) := by
    obtain ⟨o1, o2⟩ := ho
    refine ⟨o1, ?_⟩
    rcases o2 with o2 | ⟨r, cap, cur, e, hr, o2⟩
    · exact .inl o2
    · exact .inr ⟨r, cap, cur, e, Nat.le_trans HFR.out.size hr, o2⟩
  have HD2 := Lib.hid hd2
  have HF2 := Lib.hid hf2
  have HO2 := Lib.hid ho2
  clear ho hb hd2 hf2 ho2
  go_wp2_with fail
  go_ret2
  exact ⟨v', rfl, HO2.out, HD2.out, HF2.out⟩

/-- What Read does, whatever comes. -/
theorem read_any (h : DiskAt base g own S s w) (hs : Small s) {no : Int} (hno : I64 no) (at' most : Int) :
    Calls Try.prog 18 #[.pointer (some ⟨g, 0, none⟩), .int .i64 no, .int .i64 at', .int .i64 most] w fun e w' => ∃ v, e = .returned (.tuple #[v, .int .i64 (readE S s no at' most)]) ∧
      w'.ownsRow w.heap.size 5 1 v (readB S s no at' most).length (bytesL (readB S s no at' most)) ∧ DiskAt base g own S (readS S s no at' most) w' ∧ Frame (· = g) w w' := by
  obtain ⟨bf, mf, F, h⟩ := h
  unfold readB readE readS
  by_cases hc : readNo s no at' most
  · rw [if_pos hc, if_pos hc, if_neg (by decide)]
    refine (read_arg h hno at' most hc).mono ?_
    rintro e w' ⟨rfl, rfl⟩
    exact ⟨_, rfl, World.ownsRow_nil _ _ _ _, ⟨_, _, _, h⟩, Frame.refl _ _⟩
  · rw [if_neg hc, if_neg hc]
    unfold readNo at hc
    simp only [not_or] at hc
    obtain ⟨hc1, hc2, hc3, hc4⟩ := hc
    rcases fileAt_cases s.T no with ⟨k, t, e1, hk, hf⟩ | hf
    · rw [hf] at hc3 ⊢
      by_cases he : cntE S s = 0
      · rw [if_pos he, he]
        obtain ⟨j, rfl⟩ : ∃ j : Nat, at' = (j : Int) := ⟨at'.toNat, by omega⟩
        obtain ⟨m, rfl⟩ : ∃ m : Nat, most = (m : Int) := ⟨most.toNat, by omega⟩
        refine (read_yes h hs hno j m e1 hk (by simp at hc3; omega) (by omega) he).mono ?_
        rintro e w' ⟨v, rfl, ho, hd, hfr⟩
        exact ⟨v, rfl, by simpa using ho, ⟨_, _, _, hd⟩, hfr⟩
      · rw [if_neg he]
        refine (read_fail h hs hno at' most e1 hk hc2 (by simpa using hc3) hc4 he).mono ?_
        rintro e w' ⟨rfl, hd, hf⟩
        exact ⟨_, rfl, World.ownsRow_nil _ _ _ _, ⟨_, _, _, hd⟩, hf⟩
    · rw [hf] at hc1
      simp at hc1
end
end Go.Proofs.Ytpengkkbmenkpaa
