/- A disk: what Read does. -/
import Derived.Test.YtpgigpajpcianaaGreatDoorZFsA
import Derived.Test.YtpgigpajpcianaaGreatDoorZRA
namespace Go.Proofs.YtpgigpajpcianaaGreatDoor
open Go.RowKit

set_option maxRecDepth 100000 in
set_option maxHeartbeats 1000000 in
theorem cloneRow_any {p : Nat → Prop} (a : Option Addr) (c : Nat) (bs : List UInt8) (w : World) (hB : IsBytes p w (.slice a bs.length c) bs) (hl : bs.length ≤ 1000000) :
    Calls Tryz.prog 159 #[.slice a bs.length c] w (Fresh w bs) := by
  have q63 : ∀ (w : World) (a : Option Addr) (n c n' c' : Nat), (binOp .eql 202 (.slice a n c) (.slice none n' c')).run Tryz.prog w = .ok (.bool a.isNone) w := fun w a n c n' c' => Lib.run_eql_slice_nil w _ _ a n c n' c' Tryz.underlying202
  cases a with
  | none =>
    have hb : bs = [] := by
      obtain ⟨_, _, e, _, hc⟩ := hB
      cases e
      cases bs with
      | nil => rfl
      | cons x r =>
        obtain ⟨_, _, e, _⟩ := hc 0 x rfl
        cases e
    subst hb
    clear hB
    go_enter Tryz.func159, Tryz.ntmps159
    go_wp2_with fail
    go_ret
    exact ⟨_, rfl, by simpa [bytesL] using World.ownsRow_nil w w.heap.size 5 1, Below.refl _ _⟩
  | some a =>
    have hown := World.ownsRow_made (base := w.heap.size) (e := 5) (size := 1) w #[] 0 (Nat.le_refl _) (Nat.zero_le _) rfl
    have hsrc := hB.below ((Below.refl w.heap.size w).alloc (Nat.le_refl _) (.cells #[] 5))
    have HOW := Lib.hid hown
    have HS := Lib.hid hsrc
    clear hown hsrc hB
    go_enter Tryz.func159, Tryz.ntmps159
    go_wp2_with (at_builtin; refine wpList_append_row rfl (.tmp 5) (.tmp 6) 202 202 rfl Tryz.underlying202 Tryz.underlying202 w.heap.size _ _ [] bs rfl HOW.out rfl HS.out (by simp; omega) (by simp) ?_)
    intro v' w1 ho hg _
    have hb : Below w.heap.size w w1 := owns_below_of HOW.out ((Below.refl w.heap.size w).alloc (Nat.le_refl _) (.cells #[] 5)) hg
    have HO := Lib.hid ho
    have HB := Lib.hid hb
    clear ho hg hb
    go_wp2_with fail
    go_ret
    exact ⟨v', rfl, by simpa using HO.out, HB.out⟩
set_option maxRecDepth 100000 in
set_option maxHeartbeats 1000000 in
theorem piece_any {p : Nat → Prop} (a : Option Addr) (c : Nat) (bs : List UInt8) (k m : Nat) (w : World) (hB : IsBytes p w (.slice a bs.length c) bs) (hl : bs.length ≤ 1000000) (hk : k ≤ bs.length) :
    Calls Tryz.prog 156 #[.slice a bs.length c, .int .i64 k, .int .i64 m] w (Fresh w ((bs.drop k).take m)) := by
  have HC := Lib.hid (show ∀ (a : Option Addr) (c : Nat) (xs : List UInt8) (w' : World), IsBytes p w' (.slice a xs.length c) xs → xs.length ≤ 1000000 → Calls Tryz.prog 159 #[.slice a xs.length c] w' (Fresh w' xs) from fun a c xs w' h1 h2 => cloneRow_any a c xs w' h1 h2)
  have HB := Lib.hid hB
  have q1 : (0 : Int) ≤ (k : Int) := by omega
  have q2 : (k : Int) ≤ (bs.length : Int) := by omega
  obtain ⟨_, _, e, hle, _⟩ := hB
  cases e
  have q3 : k ≤ c := by omega
  obtain ⟨A, hA⟩ : ∃ A, A = if c = k then a else a.map fun x => x.add k := ⟨_, rfl⟩
  obtain ⟨N, hN⟩ : ∃ N : Nat, N = min m (bs.length - k) := ⟨_, rfl⟩
  have q4 : N ≤ c - k := by omega
  have q5 : N ≤ bs.length - k := by omega
  have HN := Lib.hid hN
  have HA := Lib.hid hA
  clear hA hN
  go_enter Tryz.func156, Tryz.ntmps156
  go_wp2_with fail
  refine anyG_start (S := fun _ => True) (by kernel_rfl) ?_
  generalize hWD : w.drew = WD
  have HWD0 := Lib.hid hWD
  clear hWD
  refine anyG_take (i := 0) 7 (.slice a bs.length c) rfl rfl (by kernel_rfl) (by kernel_rfl) (by kernel_rfl) rfl (fun _ _ => rfl) trivial ?_
  simp only [Act.put, List.setIfInBounds_toArray, List.set_cons_succ, List.set_cons_zero]
  refine anyG_take (i := 1) 8 (.int .i64 k) rfl rfl (by kernel_rfl) (by kernel_rfl) (by kernel_rfl) rfl (fun _ _ => rfl) trivial ?_
  simp only [Act.put, List.setIfInBounds_toArray, List.set_cons_succ, List.set_cons_zero]
  refine anyG_take (i := 2) 9 (.slice A (bs.length - k) (c - k)) rfl rfl (by kernel_rfl) (by kernel_rfl) (by kernel_rfl) rfl (fun _ _ => by rw [HA.out]; go_simp) trivial ?_
  simp only [Act.put, List.setIfInBounds_toArray, List.set_cons_succ, List.set_cons_zero]
  refine anyG_take (i := 3) 10 (.int .i64 m) rfl rfl (by kernel_rfl) (by kernel_rfl) (by kernel_rfl) rfl (fun _ _ => rfl) trivial ?_
  simp only [Act.put, List.setIfInBounds_toArray, List.set_cons_succ, List.set_cons_zero]
  refine anyG_take (i := 4) 11 (.slice a bs.length c) rfl rfl (by kernel_rfl) (by kernel_rfl) (by kernel_rfl) rfl (fun _ _ => rfl) trivial ?_
  simp only [Act.put, List.setIfInBounds_toArray, List.set_cons_succ, List.set_cons_zero]
  refine anyG_take (i := 6) 13 (.int .i64 k) rfl rfl (by kernel_rfl) (by kernel_rfl) (by kernel_rfl) rfl (fun _ _ => rfl) trivial ?_
  simp only [Act.put, List.setIfInBounds_toArray, List.set_cons_succ, List.set_cons_zero]
  refine anyG_step (i := 5) rfl (by kernel_rfl) rfl (fun K hK => ?_)
  go_simp
  refine (size_any _ _ _ _).mono ?_
  rintro e w' ⟨rfl, rfl⟩
  have hWD := HWD0.out
  have HWD1 := Lib.hid hWD
  clear hWD HWD0
  refine hK.out _ _ trivial ?_
  clear hK
  refine anyG_take (i := 7) 14 (.int .i64 ((bs.length : Int) - (k : Int))) rfl rfl (by kernel_rfl) (by kernel_rfl) (by kernel_rfl) rfl (fun _ _ => by go_simp; rw [IntKind.wrap_i64]; omega) trivial ?_
  simp only [Act.put, List.setIfInBounds_toArray, List.set_cons_succ, List.set_cons_zero]
  refine anyG_take (i := 8) 15 (.int .i64 N) rfl rfl (by kernel_rfl) (by kernel_rfl) (by kernel_rfl) rfl (fun _ _ => by go_simp; rw [HN.out]; split <;> omega) trivial ?_
  simp only [Act.put, List.setIfInBounds_toArray, List.set_cons_succ, List.set_cons_zero]
  refine anyG_take (i := 9) 16 (.slice A N (c - k)) rfl rfl (by kernel_rfl) (by kernel_rfl) (by kernel_rfl) rfl (fun _ _ => by go_simp) trivial ?_
  simp only [Act.put, List.setIfInBounds_toArray, List.set_cons_succ, List.set_cons_zero]
  refine anyG_step (i := 10) rfl (by kernel_rfl) rfl (fun K hK => ?_)
  go_simp
  have hWD := HWD1.out
  have h1 := bytes_drop (A := A) HB.out (n := k) hk HA.out
  have h2 : ((bs.drop k).take m).length = N := by have := HN.out; simp; omega
  have h3 : IsBytes p w (.slice A N (c - k)) ((bs.drop k).take m) := by
    have hl : (bs.drop k).length = bs.length - k := by simp
    rw [← hl] at h1
    have h4 := bytes_take (n := N) h1 (by rw [hl]; exact q5)
    have h5 : (bs.drop k).take N = (bs.drop k).take m := by
      rw [HN.out, ← hl]
      by_cases hmm : m ≤ (bs.drop k).length
      · rw [Nat.min_eq_left hmm]
      · rw [Nat.min_eq_right (by omega), List.take_length, List.take_of_length_le (by omega)]
    rw [h5] at h4
    exact h4
  have hcl := HC.out A (c - k) ((bs.drop k).take m) w.drew (by rw [h2]; exact h3.below (Below.drew (Below.refl _ _))) (by omega)
  rw [h2, hWD] at hcl
  refine hcl.mono ?_
  rintro e w1 ⟨v', rfl, ho, hb⟩
  have HO := Lib.hid ho
  have HBB := Lib.hid hb
  have HWD := Lib.hid hWD
  clear ho hb h1 h2 h3 hcl
  refine hK.out _ _ trivial ?_
  clear hK
  refine anyG_step (i := 11) rfl (by kernel_rfl) rfl (fun K hK => ?_)
  go_simp
  refine hK.out _ _ trivial (anyG_done (by kernel_rfl) ?_)
  clear hK
  go_wp2_with fail
  go_ret
  have hsz : w'.heap.size = w.heap.size := by rw [← HWD.out]; rfl
  refine ⟨v', rfl, by rw [← hsz]; exact HO.out, ?_⟩
  have := HBB.out
  rw [hsz, ← HWD.out] at this
  exact (Below.drew (Below.refl _ _)).trans this
section
variable {base g : Nat} {own : Nat → Nat} {S : Script} {s : DSt} {bf : Nat} {mf : Option Nat} {F : List (Nat × Value)} {w : World}
set_option maxRecDepth 100000 in
set_option maxHeartbeats 1000000 in
theorem read_arg (h : Disk base g own S s bf mf F w) {no : Int} (hno : I64 no) (at' most : Int) (hn : readNo s no at' most) :
    Calls Tryz.prog 150 #[.pointer (some ⟨g, 0, none⟩), .int .i64 no, .int .i64 at', .int .i64 most] w fun e w' => e = .returned (.tuple #[.slice none 0 0, .int .i64 1]) ∧ w' = w := by
  unfold readNo at hn
  rcases fileAt_cases s.T no with ⟨k, t, rfl, hk, hf⟩ | hf
  · obtain ⟨b, v, hF⟩ := h.row hk
    obtain ⟨f1, f2, -⟩ := h.file k t b v hk hF
    obtain ⟨va, vc, rfl⟩ := owns_slice f2
    have c0 : w.cell? ⟨b, 0, none⟩ = some (.slice va t.length vc) := by rw [cell_of_row _ _ _ _ _ _ f1]; rfl
    have HFI := Lib.hid (find_yes h hno hk hF)
    have HSZ := Lib.hid (size_any va t.length vc w)
    rw [hf] at hn
    simp only [Option.isNone_some, Bool.false_eq_true, Option.getD_some, false_or] at hn
    obtain ⟨no, hnn⟩ : ∃ no : Int, no = (k : Int) + 1 := ⟨_, rfl⟩
    rw [← hnn] at HFI ⊢
    obtain ⟨n, hnt⟩ : ∃ n : Int, n = (t.length : Int) := ⟨_, rfl⟩
    rw [← hnt] at hn HSZ
    clear h hno hk hF hnn hf f1 f2 hnt
    by_cases h1 : at' < 0
    · clear hn
      go_enter Tryz.func150, Tryz.ntmps150
      go_wp2_with (first | (refine HFI.out.mono ?_; rintro e w' ⟨rfl, rfl⟩) | (refine HSZ.out.mono ?_; rintro e w' ⟨rfl, rfl⟩))
      go_ret2
      exact ⟨rfl, rfl⟩
    · by_cases h2 : n < at'
      · clear hn
        go_enter Tryz.func150, Tryz.ntmps150
        go_wp2_with (first | (refine HFI.out.mono ?_; rintro e w' ⟨rfl, rfl⟩) | (refine HSZ.out.mono ?_; rintro e w' ⟨rfl, rfl⟩))
        go_ret2
        exact ⟨rfl, rfl⟩
      · have h3 : most < 1 := by rcases hn with hn | hn | hn <;> first | exact hn | exact absurd hn ‹_›
        clear hn
        go_enter Tryz.func150, Tryz.ntmps150
        go_wp2_with (first | (refine HFI.out.mono ?_; rintro e w' ⟨rfl, rfl⟩) | (refine HSZ.out.mono ?_; rintro e w' ⟨rfl, rfl⟩))
        go_ret2
        exact ⟨rfl, rfl⟩
  · have HFI := Lib.hid (find_no h hno hf)
    clear h hno hf hn
    go_enter Tryz.func150, Tryz.ntmps150
    go_wp2_with (refine HFI.out.mono ?_; rintro e w' ⟨rfl, rfl⟩)
    go_ret2
    exact ⟨rfl, rfl⟩
set_option maxRecDepth 100000 in
set_option maxHeartbeats 1000000 in
theorem read_fail (h : Disk base g own S s bf mf F w) (hs : Small s) {no : Int} (hno : I64 no) (at' most : Int) {k : Nat} {t : List UInt8} (e1 : no = (k : Int) + 1) (hk : s.T[k]? = some (t, true)) (h1 : ¬ at' < 0) (h2 : ¬ (t.length : Int) < at') (h3 : ¬ most < 1) (he : cntE S s ≠ 0) :
    Calls Tryz.prog 150 #[.pointer (some ⟨g, 0, none⟩), .int .i64 no, .int .i64 at', .int .i64 most] w fun e w' => e = .returned (.tuple #[.slice none 0 0, .int .i64 (cntE S s)]) ∧ Disk base g own S (cntS S s) bf mf F w' ∧ Frame (· = g) w w' := by
  subst e1
  obtain ⟨b, v, hF⟩ := h.row hk
  obtain ⟨f1, f2, -⟩ := h.file k t b v hk hF
  obtain ⟨va, vc, rfl⟩ := owns_slice f2
  have c0 : w.cell? ⟨b, 0, none⟩ = some (.slice va t.length vc) := by rw [cell_of_row _ _ _ _ _ _ f1]; rfl
  have HFI := Lib.hid (find_yes h hno hk hF)
  have HSZ := Lib.hid (size_any va t.length vc w)
  have HC := Lib.hid (count_any h hs.n)
  obtain ⟨no, hnn⟩ : ∃ no : Int, no = (k : Int) + 1 := ⟨_, rfl⟩
  rw [← hnn] at HFI ⊢
  obtain ⟨n, hnt⟩ : ∃ n : Int, n = (t.length : Int) := ⟨_, rfl⟩
  rw [← hnt] at h2 HSZ
  obtain ⟨E, hE⟩ : ∃ E, E = cntE S s := ⟨_, rfl⟩
  rw [← hE] at HC he ⊢
  have g1 : (E != 0) = true := by simpa using he
  clear h hno hk hF hnn f1 f2 hnt hs hE he
  go_enter Tryz.func150, Tryz.ntmps150
  go_wp2_with (first | (refine HFI.out.mono ?_; rintro e w' ⟨rfl, rfl⟩) | (refine HSZ.out.mono ?_; rintro e w' ⟨rfl, rfl⟩) | (refine HC.out.mono ?_; rintro e w1 ⟨rfl, hd, hf⟩; have HD := Lib.hid hd; have HFR := Lib.hid hf; clear hd hf))
  go_ret2
  exact ⟨rfl, HD.out, HFR.out⟩
set_option maxRecDepth 100000 in
set_option maxHeartbeats 1000000 in
theorem read_yes (h : Disk base g own S s bf mf F w) (hs : Small s) {no : Int} (hno : I64 no) (j m : Nat) {k : Nat} {t : List UInt8} (e1 : no = (k : Int) + 1) (hk : s.T[k]? = some (t, true)) (h2 : j ≤ t.length) (h3 : 1 ≤ m) (he : cntE S s = 0) :
    Calls Tryz.prog 150 #[.pointer (some ⟨g, 0, none⟩), .int .i64 no, .int .i64 j, .int .i64 m] w fun e w' => ∃ v, e = .returned (.tuple #[v, .int .i64 0]) ∧
      w'.ownsRow w.heap.size 5 1 v ((t.drop j).take m).length (bytesL ((t.drop j).take m)) ∧ Disk base g own S (cntS S s) bf mf F w' ∧ Frame (· = g) w w' := by
  subst e1
  obtain ⟨b, v, hF⟩ := h.row hk
  obtain ⟨f1, f2, -⟩ := h.file k t b v hk hF
  obtain ⟨va, vc, rfl⟩ := owns_slice f2
  have c0 : w.cell? ⟨b, 0, none⟩ = some (.slice va t.length vc) := by rw [cell_of_row _ _ _ _ _ _ f1]; rfl
  have HFI := Lib.hid (find_yes h hno hk hF)
  have HSZ := Lib.hid (size_any va t.length vc w)
  have HC := Lib.hid (count_any h hs.n)
  have HK := Lib.hid hk
  have HF := Lib.hid hF
  have HT := Lib.hid (hs.t _ (List.mem_of_getElem? hk))
  obtain ⟨no, hnn⟩ : ∃ no : Int, no = (k : Int) + 1 := ⟨_, rfl⟩
  rw [← hnn] at HFI ⊢
  rw [he] at HC
  have q1 : ¬ (j : Int) < 0 := by omega
  have q2 : ¬ (t.length : Int) < (j : Int) := by omega
  have q3 : ¬ (m : Int) < 1 := by omega
  have H2 := Lib.hid h2
  have H3 := Lib.hid h3
  clear h hno hk hF hnn f1 f2 hs he h2 h3
  go_enter Tryz.func150, Tryz.ntmps150
  go_wp2_with (first | (refine HFI.out.mono ?_; rintro e w' ⟨rfl, rfl⟩) | (refine HSZ.out.mono ?_; rintro e w' ⟨rfl, rfl⟩) | (refine HC.out.mono ?_; rintro e w1 ⟨rfl, hd, hf⟩; have c1 := (hd.file k t b _ HK.out HF.out).1; have c1 : w1.cell? ⟨b, 0, none⟩ = some (.slice va t.length vc) := (by rw [cell_of_row _ _ _ _ _ _ c1]; rfl); have HD := Lib.hid hd; have HFR := Lib.hid hf; clear hd hf))
  refine (piece_any (p := fun _ => True) va vc t j m w1 ((isBytes_of_owns (HD.out.file k t b _ HK.out HF.out).2.1).mono fun _ _ _ => trivial) HT.out H2.out).mono ?_
  rintro e w2 ⟨v', rfl, ho, hb⟩
  have hd2 := HD.out.below hb
  have hf2 := HFR.out.trans (Below.toFrame hb _)
  have ho2 : w2.ownsRow w'.heap.size 5 1 v' ((t.drop j).take m).length (bytesL ((t.drop j).take m)) := by
    obtain ⟨o1, o2⟩ := ho
    refine ⟨o1, ?_⟩
    rcases o2 with o2 | ⟨r, cap, cur, e, hr, o2⟩
    · exact .inl o2
    · exact .inr ⟨r, cap, cur, e, Nat.le_trans HFR.out.size hr, o2⟩
  have HD2 := Lib.hid hd2
  have HF2 := Lib.hid hf2
  have HO2 := Lib.hid ho2
  clear ho hb hd2 hf2 ho2
  go_wp2_with fail
  go_ret2
  exact ⟨v', rfl, HO2.out, HD2.out, HF2.out⟩
theorem read_any (h : DiskAt base g own S s w) (hs : Small s) {no : Int} (hno : I64 no) (at' most : Int) :
    Calls Tryz.prog 150 #[.pointer (some ⟨g, 0, none⟩), .int .i64 no, .int .i64 at', .int .i64 most] w fun e w' => ∃ v, e = .returned (.tuple #[v, .int .i64 (readE S s no at' most)]) ∧
      w'.ownsRow w.heap.size 5 1 v (readB S s no at' most).length (bytesL (readB S s no at' most)) ∧ DiskAt base g own S (readS S s no at' most) w' ∧ Frame (· = g) w w' := by
  obtain ⟨bf, mf, F, h⟩ := h
  unfold readB readE readS
  by_cases hc : readNo s no at' most
  · rw [if_pos hc, if_pos hc, if_neg (by decide)]
    refine (read_arg h hno at' most hc).mono ?_
    rintro e w' ⟨rfl, rfl⟩
    exact ⟨_, rfl, World.ownsRow_nil _ _ _ _, ⟨_, _, _, h⟩, Frame.refl _ _⟩
  · rw [if_neg hc, if_neg hc]
    unfold readNo at hc
    simp only [not_or] at hc
    obtain ⟨hc1, hc2, hc3, hc4⟩ := hc
    rcases fileAt_cases s.T no with ⟨k, t, e1, hk, hf⟩ | hf
    · rw [hf] at hc3 ⊢
      by_cases he : cntE S s = 0
      · rw [if_pos he, he]
        obtain ⟨j, rfl⟩ : ∃ j : Nat, at' = (j : Int) := ⟨at'.toNat, by omega⟩
        obtain ⟨m, rfl⟩ : ∃ m : Nat, most = (m : Int) := ⟨most.toNat, by omega⟩
        refine (read_yes h hs hno j m e1 hk (by simp at hc3; omega) (by omega) he).mono ?_
        rintro e w' ⟨v, rfl, ho, hd, hfr⟩
        exact ⟨v, rfl, by simpa using ho, ⟨_, _, _, hd⟩, hfr⟩
      · rw [if_neg he]
        refine (read_fail h hs hno at' most e1 hk hc2 (by simpa using hc3) hc4 he).mono ?_
        rintro e w' ⟨rfl, hd, hf⟩
        exact ⟨_, rfl, World.ownsRow_nil _ _ _ _, ⟨_, _, _, hd⟩, hf⟩
    · rw [hf] at hc1
      simp at hc1
end
end Go.Proofs.YtpgigpajpcianaaGreatDoor

namespace Go.Proofs.YtpgigpajpcianaaGreatDoor
open Go.RowKit

theorem wpList_del {R : Value → Option (DataW Unit × List MemPlace)} {b n : Nat} {f : NumF} {ops : Array Oper} {rest : List Oper} {o : Oper} {a : Act} {w : World} {Q : Exit → Act → World → Prop} (hgd : o.guard = none) (m x : Operand) (t e : TypeId)
    (ho : o.op = .call { callee := .builtin .delete, args := #[m, x], argTypes := #[t, 3] }) (h : IsMapOf R b n f w) (ht : Tryz.prog.underlying t = some (.map 3 e)) {c : Int} (hc : I64 c) (hm : a.eval m = .map (some b)) (hx : a.eval x = .int .i64 c)
    (hK : ∀ w', IsMapOf R b n (fun x => if x = c then none else f x) w' → w.grownBy w' (some b) → wpList Tryz.prog ops Q rest (a.put o.dst (.tuple #[])) w') : wpList Tryz.prog ops Q (o :: rest) a w := by
  refine wpList_plain hgd fun K hK' => ?_
  obtain ⟨w', hr, h2, h3⟩ := h.del ht hc o.type
  unfold Oper.wp execOp
  simp only [ho, resolve, invoke, builtin, Sem.run_bind, Sem.run_pure, Result.andThen_ok, List.map_toArray, List.map_cons, List.map_nil, hm, hx, hr]
  exact hK' _ _ (hK w' h2 h3)
section
variable {base g : Nat} {own : Nat → Nat} {S : Script} {s : DSt} {bf : Nat} {mf : Option Nat} {F : List (Nat × Value)} {w : World}
theorem filesF_drop {T : List (List UInt8 × Bool)} {F : List (Nat × Value)} {k : Nat} {t : List UInt8} {f : Bool} (hk : T[k]? = some (t, f)) (t' : List UInt8) (c : Int) :
    filesF (T.set k (t', false)) F c = if c = (k : Int) + 1 then none else filesF T F c := by
  by_cases h1 : 1 ≤ c
  · obtain ⟨j, rfl⟩ : ∃ j : Nat, c = (j : Int) + 1 := ⟨(c - 1).toNat, by omega⟩
    by_cases hj : j = k
    · subst hj
      have h1 := (List.getElem?_eq_some_iff.1 hk).1
      rw [if_pos rfl]
      exact filesF_none (fileAt_none (t := t') (by simp [h1]))
    · rw [if_neg (by omega)]
      unfold filesF
      rw [if_pos h1, if_pos h1, show ((j : Int) + 1 - 1).toNat = j by omega, List.getElem?_set_ne (fun e => hj e.symm)]
  · rw [if_neg (by omega)]
    unfold filesF
    rw [if_neg h1, if_neg h1]
theorem Disk.removed {m : Nat} (h : Disk base g own S s bf (some m) F w) {k : Nat} {t : List UInt8} (hk : s.T[k]? = some (t, true)) {w' : World}
    (hm : IsMapOf ptrElem m s.T.length (fun x => if x = (k : Int) + 1 then Option.none else filesF s.T F x) w') (hg : w.grownBy w' (some m)) : Disk base g own S { s with T := s.T.set k (t, false) } bf (some m) F w' := by
  have hf : Frame (· = m) w w' := (Frame.refl _ w).grown hg (fun x _ e => by cases e; rfl)
  have og := h.og
  have of := h.of
  have om := (h.files m rfl).2
  refine ⟨?_, h.fails.frame hf (fun e => by rw [e] at of; omega), fun e => (by cases e), fun b e => ?_, by simp [h.len], fun j t1 b1 v1 h1 h2 => ?_, og, of, fun x hx => ⟨(h.bnd x hx).1, Nat.lt_of_lt_of_le (h.bnd x hx).2 hf.size⟩⟩
  · have := hf.heap h.heap (fun e => by rw [e] at og; omega)
    simpa using this
  · cases e
    refine ⟨?_, om⟩
    have := hm.congr (fun c => filesF_drop hk t c)
    simpa using this
  · rcases get_set h1 with ⟨rfl, e⟩ | ⟨hj, h1⟩
    · cases e
    · obtain ⟨f1, f2, f3, f4⟩ := h.file j t1 b1 v1 h1 h2
      exact ⟨hf.heap f1 (fun e => by rw [e] at f3; omega), hf.owns f2 (fun r hr e => by have := f4 r hr; rw [e] at this; omega), f3, f4⟩
set_option maxRecDepth 100000 in
set_option maxHeartbeats 1000000 in
theorem remove_arg (h : Disk base g own S s bf mf F w) {no : Int} (hno : I64 no) (hf : fileAt s.T no = none) :
    Calls Tryz.prog 72 #[.pointer (some ⟨g, 0, none⟩), .int .i64 no] w fun e w' => e = .returned (.int .i64 1) ∧ w' = w := by
  have HFI := Lib.hid (find_no h hno hf)
  clear h hno hf
  go_enter Tryz.func72, Tryz.ntmps72
  go_wp2_with (refine HFI.out.mono ?_; rintro e w' ⟨rfl, rfl⟩)
  go_ret
  exact ⟨rfl, rfl⟩
set_option maxRecDepth 100000 in
set_option maxHeartbeats 1000000 in
theorem remove_fail (h : Disk base g own S s bf mf F w) (hs : Small s) {no : Int} (hno : I64 no) {k : Nat} {t : List UInt8} (e1 : no = (k : Int) + 1) (hk : s.T[k]? = some (t, true)) (he : cntE S s ≠ 0) :
    Calls Tryz.prog 72 #[.pointer (some ⟨g, 0, none⟩), .int .i64 no] w fun e w' => e = .returned (.int .i64 (cntE S s)) ∧ Disk base g own S (cntS S s) bf mf F w' ∧ Frame (· = g) w w' := by
  subst e1
  obtain ⟨b, v, hF⟩ := h.row hk
  have HFI := Lib.hid (find_yes h hno hk hF)
  have HC := Lib.hid (count_any h hs.n)
  obtain ⟨no, hnn⟩ : ∃ no : Int, no = (k : Int) + 1 := ⟨_, rfl⟩
  rw [← hnn] at HFI ⊢
  obtain ⟨E, hE⟩ : ∃ E, E = cntE S s := ⟨_, rfl⟩
  rw [← hE] at HC he ⊢
  have g1 : (E != 0) = true := by simpa using he
  clear h hno hk hF hnn hE he hs
  go_enter Tryz.func72, Tryz.ntmps72
  go_wp2_with (first | (refine HFI.out.mono ?_; rintro e w' ⟨rfl, rfl⟩) | (refine HC.out.mono ?_; rintro e w1 ⟨rfl, hd, hf⟩; have HD := Lib.hid hd; have HFR := Lib.hid hf; clear hd hf))
  go_ret
  exact ⟨rfl, HD.out, HFR.out⟩
set_option maxRecDepth 100000 in
set_option maxHeartbeats 1000000 in
theorem remove_yes (h : Disk base g own S s bf mf F w) (hs : Small s) {no : Int} (hno : I64 no) {k : Nat} {t : List UInt8} (e1 : no = (k : Int) + 1) (hk : s.T[k]? = some (t, true)) (he : cntE S s = 0) :
    Calls Tryz.prog 72 #[.pointer (some ⟨g, 0, none⟩), .int .i64 no] w fun e w' => e = .returned (.int .i64 0) ∧ DiskLeft base g own S { cntS S s with T := s.T.set k (t, false) } w w' := by
  subst e1
  obtain ⟨b, v, hF⟩ := h.row hk
  have HFI := Lib.hid (find_yes h hno hk hF)
  have HC := Lib.hid (count_any h hs.n)
  cases mf with
  | none =>
    rw [h.none rfl] at hk
    simp at hk
  | some m =>
  have HK := Lib.hid hk
  have HH := Lib.hid h
  have HNO := Lib.hid hno
  obtain ⟨no, hnn⟩ : ∃ no : Int, no = (k : Int) + 1 := ⟨_, rfl⟩
  rw [← hnn] at HFI HNO ⊢
  have HNN := Lib.hid hnn
  rw [he] at HC
  clear h hno hk hF hnn he hs
  go_enter Tryz.func72, Tryz.ntmps72
  go_wp2_with (first | (refine HFI.out.mono ?_; rintro e w' ⟨rfl, rfl⟩) | (refine HC.out.mono ?_; rintro e w1 ⟨rfl, hd, hf⟩; have c0 := hd.c0; have HD := Lib.hid hd; have HFR := Lib.hid hf; clear hd hf) | (at_delete; refine wpList_del rfl (.tmp 24) (.tmp 25) 86 107 rfl (HD.out.files m rfl).1 Tryz.underlying86 HNO.out rfl rfl ?_; intro w2 hm2 hg2; have HM := Lib.hid hm2; have HG := Lib.hid hg2; clear hm2 hg2))
  go_ret
  have hm2 := HM.out
  rw [HNN.out] at hm2
  have hd2 := HD.out.removed HK.out hm2 HG.out
  refine ⟨rfl, own, ⟨_, _, _, hd2⟩, fun _ _ => rfl, (HFR.out.mono (fun x _ e => by have e' : x = g := e; subst e'; show own x ≠ 0; rw [HD.out.og]; omega)).grown HG.out (fun x _ e => by cases e; show own m ≠ 0; rw [(HD.out.files m rfl).2]; omega)⟩
theorem remove_any (h : DiskAt base g own S s w) (hs : Small s) {no : Int} (hno : I64 no) :
    Calls Tryz.prog 72 #[.pointer (some ⟨g, 0, none⟩), .int .i64 no] w fun e w' => e = .returned (.int .i64 (removeE S s no)) ∧ DiskLeft base g own S (removeS S s no) w w' := by
  obtain ⟨bf, mf, F, h⟩ := h
  unfold removeE removeS
  rcases fileAt_cases s.T no with ⟨k, t, e1, hk, hf⟩ | hf
  · rw [hf]
    simp only [Option.isNone_some, Bool.false_eq_true, if_false, Option.getD_some]
    by_cases he : cntE S s = 0
    · rw [if_pos he, he]
      have e2 : (no - 1).toNat = k := by omega
      rw [e2]
      exact remove_yes h hs hno e1 hk he
    · rw [if_neg he]
      refine (remove_fail h hs hno e1 hk he).mono ?_
      rintro e w' ⟨rfl, hd, hf⟩
      exact ⟨rfl, own, ⟨_, _, _, hd⟩, fun _ _ => rfl, hf.mono (fun x _ e => by have e' : x = g := e; subst e'; show own x ≠ 0; rw [h.og]; omega)⟩
  · rw [hf]
    simp only [Option.isNone_none, if_true]
    refine (remove_arg h hno hf).mono ?_
    rintro e w' ⟨rfl, rfl⟩
    exact ⟨rfl, h.left (Below.refl _ _)⟩
set_option maxRecDepth 100000 in
set_option maxHeartbeats 1000000 in
theorem calls_any (h : DiskAt base g own S s w) : Calls Tryz.prog 20 #[.pointer (some ⟨g, 0, none⟩)] w fun e w' => e = .returned (.int .i64 s.n) ∧ w' = w := by
  obtain ⟨bf, mf, F, h⟩ := h
  have c3 := h.c3
  clear h
  go_enter Tryz.func20, Tryz.ntmps20
  go_wp2_with fail
  go_ret
  exact ⟨rfl, rfl⟩
set_option maxRecDepth 100000 in
set_option maxHeartbeats 1000000 in
theorem raw_any (h : DiskAt base g own S s w) : Calls Tryz.prog 107 #[.pointer (some ⟨g, 0, none⟩)] w fun e w' => e = .returned (.int .i64 s.id) ∧ w' = w := by
  obtain ⟨bf, mf, F, h⟩ := h
  have c4 := h.c4
  clear h
  go_enter Tryz.func107, Tryz.ntmps107
  go_wp2_with fail
  go_ret
  exact ⟨rfl, rfl⟩
end
end Go.Proofs.YtpgigpajpcianaaGreatDoor
