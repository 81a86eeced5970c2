/- A disk: what Remove does. -/
import Derived.Test.YtpengkkbmenkpaaFswrite
namespace Go.Proofs.Ytpengkkbmenkpaa
open Go.RowKit

theorem wpList_del {R : Value → Option (DataW Unit × List MemPlace)} {b n : Nat} {f : NumF} {ops : Array Oper} {rest : List Oper} {o : Oper} {a : Act} {w : World} {Q : Exit → Act → World → Prop} (hgd : o.guard = none) (m x : Operand) (t e : TypeId)
    (ho : o.op = .call { callee := .builtin .delete, args := #[m, x], argTypes := #[t, 3] }) (h : IsMapOf R b n f w) (ht : Try.prog.underlying t = some (.map 3 e)) {c : Int} (hc : I64 c) (hm : a.eval m = .map (some b)) (hx : a.eval x = .int .i64 c)
    (hK : ∀ w', IsMapOf R b n (fun x => if x = c then none else f x) w' → w.grownBy w' (some b) → wpList Try.prog ops Q rest (a.put o.dst (.tuple #[])) w') : wpList Try.prog ops Q (o :: rest) a w := by
  refine wpList_plain hgd fun K hK' => ?_
  obtain ⟨w', hr, h2, h3⟩ := h.del ht hc o.type
  unfold Oper.wp execOp
  simp only [ho, resolve, invoke, builtin, Sem.run_bind, Sem.run_pure, Result.andThen_ok, List.map_toArray, List.map_cons, List.map_nil, hm, hx, hr]
  exact hK' _ _ (hK w' h2 h3)

section
variable {base g : Nat} {own : Nat → Nat} {S : Script} {s : DSt} {bf : Nat} {mf : Option Nat} {F : List (Nat × Value)} {w : World}
theorem filesF_drop {T : List (List UInt8 × Bool)} {F : List (Nat × Value)} {k : Nat} {t : List UInt8} {f : Bool} (hk : T[k]? = some (t, f)) (t' : List UInt8) (c : Int) :
    filesF (T.set k (t', false)) F c = if c = (k : Int) + 1 then none else filesF T F c := by
  by_cases h1 : 1 ≤ c
  · obtain ⟨j, rfl⟩ : ∃ j : Nat, c = (j : Int) + 1 := ⟨(c - 1).toNat, by omega⟩
    by_cases hj : j = k
    · subst hj
      have h1 := (List.getElem?_eq_some_iff.1 hk).1
      rw [if_pos rfl]
      exact filesF_none (fileAt_none (t := t') (by simp [h1]))
    · rw [if_neg (by omega)]
      unfold filesF
      rw [if_pos h1, if_pos h1, show ((j : Int) + 1 - 1).toNat = j by omega, List.getElem?_set_ne (fun e => hj e.symm)]
  · rw [if_neg (by omega)]
    unfold filesF
    rw [if_neg h1, if_neg h1]

/-- A file is taken away. -/
theorem Disk.removed {m : Nat} (h : Disk base g own S s bf (some m) F w) {k : Nat} {t : List UInt8} (hk : s.T[k]? = some (t, true)) {w' : World}
    (hm : IsMapOf ptrElem m s.T.length (fun x => if x = (k : Int) + 1 then Option.none else filesF s.T F x) w') (hg : w.grownBy w' (some m)) : Disk base g own S { s with T := s.T.set k (t, false) } bf (some m) F w' := by
  have hf : Frame (· = m) w w' := (Frame.refl _ w).grown hg (fun x _ e => by cases e; rfl)
  have og := h.og
  have of := h.of
  have om := (h.files m rfl).2
  refine ⟨?_, h.fails.frame hf (fun e => by rw [e] at of; omega), fun e => (by cases e), fun b e => ?_, by simp [h.len], fun j t1 b1 v1 h1 h2 => ?_, og, of, fun x hx => ⟨(h.bnd x hx).1, Nat.lt_of_lt_of_le (h.bnd x hx).2 hf.size⟩⟩
  · have := hf.heap h.heap (fun e => by rw [e] at og; omega)
    simpa using this
  · cases e
    refine ⟨?_, om⟩
    have := hm.congr (fun c => filesF_drop hk t c)
    simpa using this
  · rcases get_set h1 with ⟨rfl, e⟩ | ⟨hj, h1⟩
    · cases e
    · obtain ⟨f1, f2, f3, f4⟩ := h.file j t1 b1 v1 h1 h2
      exact ⟨hf.heap f1 (fun e => by rw [e] at f3; omega), hf.owns f2 (fun r hr e => by have := f4 r hr; rw [e] at this; omega), f3, f4⟩

set_option maxRecDepth 100000 in
set_option maxHeartbeats 1000000 in
theorem remove_nil (no : Int) (w : World) : Calls Try.prog 19 #[.pointer none, .int .i64 no] w fun e w' => e = .returned (.int .i64 1) ∧ w' = w := by
  go_enter Try.func19, Try.ntmps19
  go_wp2_with (refine (find_nil no w).mono ?_; rintro e w' ⟨rfl, rfl⟩)
  go_ret
  exact ⟨rfl, rfl⟩

set_option maxRecDepth 100000 in
set_option maxHeartbeats 1000000 in
theorem remove_arg (h : Disk base g own S s bf mf F w) {no : Int} (hno : I64 no) (hf : fileAt s.T no = none) :
    Calls Try.prog 19 #[.pointer (some ⟨g, 0, none⟩), .int .i64 no] w fun e w' => e = .returned (.int .i64 1) ∧ w' = w := by
  have HFI := Lib.hid (find_no h hno hf)
  clear h hno hf
  go_enter Try.func19, Try.ntmps19
  go_wp2_with (refine HFI.out.mono ?_; rintro e w' ⟨rfl, rfl⟩)
  go_ret
  exact ⟨rfl, rfl⟩

set_option maxRecDepth 100000 in
set_option maxHeartbeats 1000000 in
theorem remove_fail (h : Disk base g own S s bf mf F w) (hs : Small s) {no : Int} (hno : I64 no) {k : Nat} {t : List UInt8} (e1 : no = (k : Int) + 1) (hk : s.T[k]? = some (t, true)) (he : cntE S s ≠ 0) :
    Calls Try.prog 19 #[.pointer (some ⟨g, 0, none⟩), .int .i64 no] w fun e w' => e = .returned (.int .i64 (cntE S s)) ∧ Disk base g own S (cntS S s) bf mf F w' ∧ Frame (· = g) w w' := by
  subst e1
  obtain ⟨b, v, hF⟩ := h.row hk
  have HFI := Lib.hid (find_yes h hno hk hF)
  have HC := Lib.hid (count_any h hs.n)
  obtain ⟨no, hnn⟩ : ∃ no : Int, no = (k : Int) + 1 := ⟨_, rfl⟩
  rw [← hnn] at HFI ⊢
  obtain ⟨E, hE⟩ : ∃ E, E = cntE S s := ⟨_, rfl⟩
  rw [← hE] at HC he ⊢
  have g1 : (E != 0) = true := by simpa using he
  clear h hno hk hF hnn hE he hs
  go_enter Try.func19, Try.ntmps19
  go_wp2_with (first | (refine HFI.out.mono ?_; rintro e w' ⟨rfl, rfl⟩) | (refine HC.out.mono ?_; rintro e w1 ⟨rfl, hd, hf⟩; have HD := Lib.hid hd; have HFR := Lib.hid hf; clear hd hf))
  go_ret
  exact ⟨rfl, HD.out, HFR.out⟩

set_option maxRecDepth 100000 in
set_option maxHeartbeats 1000000 in
theorem remove_yes (h : Disk base g own S s bf mf F w) (hs : Small s) {no : Int} (hno : I64 no) {k : Nat} {t : List UInt8} (e1 : no = (k : Int) + 1) (hk : s.T[k]? = some (t, true)) (he : cntE S s = 0) :
    Calls Try.prog 19 #[.pointer (some ⟨g, 0, none⟩), .int .i64 no] w fun e w' => e = .returned (.int .i64 0) ∧ DiskLeft base g own S { cntS S s with T := s.T.set k (t, false) } w w' := by
  subst e1
  obtain ⟨b, v, hF⟩ := h.row hk
  have HFI := Lib.hid (find_yes h hno hk hF)
  have HC := Lib.hid (count_any h hs.n)
  cases mf with
  | none =>
    rw [h.none rfl] at hk
    simp at hk
  | some m =>
  have HK := Lib.hid hk
  have HH := Lib.hid h
  have HNO := Lib.hid hno
  obtain ⟨no, hnn⟩ : ∃ no : Int, no = (k : Int) + 1 := ⟨_, rfl⟩
  rw [← hnn] at HFI HNO ⊢
  have HNN := Lib.hid hnn
  rw [he] at HC
  clear h hno hk hF hnn he hs
  go_enter Try.func19, Try.ntmps19
  go_wp2_with (first | (refine HFI.out.mono ?_; rintro e w' ⟨rfl, rfl⟩) | (refine HC.out.mono ?_; rintro e w1 ⟨rfl, hd, hf⟩; have c0 := hd.c0; have HD := Lib.hid hd; have HFR := Lib.hid hf; clear hd hf) | (at_delete; refine wpList_del rfl (.tmp 24) (.tmp 25) 53 61 rfl (HD.out.files m rfl).1 Try.underlying53 HNO.out rfl rfl ?_; intro w2 hm2 hg2; have HM := Lib.hid hm2; have HG := Lib.hid hg2; clear hm2 hg2))
  go_ret
  have hm2 := HM.out
  rw [HNN.out] at hm2
  have hd2 := HD.out.removed HK.out hm2 HG.out
  refine ⟨rfl, own, ⟨_, _, _, hd2⟩, fun _ _ => rfl, (HFR.out.mono (fun x _ e => by have e' : x = g := e; subst e'; show own x ≠ 0; rw [HD.out.og]; omega)).grown HG.out (fun x _ e => by cases e; show own m ≠ 0; rw [(HD.out.files m rfl).2]; omega)⟩

/-- What Remove does, whatever comes. -/
theorem remove_any (h : DiskAt base g own S s w) (hs : Small s) {no : Int} (hno : I64 no) :
    Calls Try.prog 19 #[.pointer (some ⟨g, 0, none⟩), .int .i64 no] w fun e w' => e = .returned (.int .i64 (removeE S s no)) ∧ DiskLeft base g own S (removeS S s no) w w' := by
  obtain ⟨bf, mf, F, h⟩ := h
  unfold removeE removeS
  rcases fileAt_cases s.T no with ⟨k, t, e1, hk, hf⟩ | hf
  · rw [hf]
    simp only [Option.isNone_some, Bool.false_eq_true, if_false, Option.getD_some]
    by_cases he : cntE S s = 0
    · rw [if_pos he, he]
      have e2 : (no - 1).toNat = k := by omega
      rw [e2]
      exact remove_yes h hs hno e1 hk he
    · rw [if_neg he]
      refine (remove_fail h hs hno e1 hk he).mono ?_
      rintro e w' ⟨rfl, hd, hf⟩
      exact ⟨rfl, own, ⟨_, _, _, hd⟩, fun _ _ => rfl, hf.mono (fun x _ e => by have e' : x = g := e; subst e'; show own x ≠ 0; rw [h.og]; omega)⟩
  · rw [hf]
    simp only [Option.isNone_none, if_true]
    refine (remove_arg h hno hf).mono ?_
    rintro e w' ⟨rfl, rfl⟩
    exact ⟨rfl, h.left (Below.refl _ _)⟩

set_option maxRecDepth 100000 in
set_option maxHeartbeats 1000000 in
theorem calls_any (h : DiskAt base g own S s w) : Calls Try.prog 13 #[.pointer (some ⟨g, 0, none⟩)] w fun e w' => e = .returned (.int .i64 s.n) ∧ w' = w := by
  obtain ⟨bf, mf, F, h⟩ := h
  have c3 := h.c3
  clear h
  go_enter Try.func13, Try.ntmps13
  go_wp2_with fail
  go_ret
  exact ⟨rfl, rfl⟩
set_option maxRecDepth 100000 in
set_option maxHeartbeats 1000000 in
theorem raw_any (h : DiskAt base g own S s w) : Calls Try.prog 14 #[.pointer (some ⟨g, 0, none⟩)] w fun e w' => e = .returned (.int .i64 s.id) ∧ w' = w := by
  obtain ⟨bf, mf, F, h⟩ := h
  have c4 := h.c4
  clear h
  go_enter Try.func14, Try.ntmps14
  go_wp2_with fail
  go_ret
  exact ⟨rfl, rfl⟩
end
theorem calls_nil (w : World) : Calls Try.prog 13 #[.pointer none] w fun e w' => e = .returned (.int .i64 0) ∧ w' = w := by
  go_enter Try.func13, Try.ntmps13
  go_wp2_with fail
  go_ret
  exact ⟨rfl, rfl⟩
theorem raw_nil (w : World) : Calls Try.prog 14 #[.pointer none] w fun e w' => e = .returned (.int .i64 0) ∧ w' = w := by
  go_enter Try.func14, Try.ntmps14
  go_wp2_with fail
  go_ret
  exact ⟨rfl, rfl⟩
theorem live_nil (w : World) : Calls Try.prog 11 #[.pointer none] w fun e w' => e = .returned (.slice none 0 0) ∧ w' = w := by
  go_enter Try.func11, Try.ntmps11
  go_wp2_with fail
  go_ret
  exact ⟨rfl, rfl⟩

end Go.Proofs.Ytpengkkbmenkpaa
