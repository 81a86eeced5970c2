/- SpoolCloses's walk. -/
import Derived.Test.YtpgigpajpcianaaGreatDoorSpHolds
import Derived.Test.YtpgigpajpcianaaGreatDoorGcopy
namespace Go.Proofs.YtpgigpajpcianaaGreatDoor
open Go.RowKit

section
variable {F : Bool} {g : Nat} {f : Bool} {b : List UInt8} {o : Own78} {w : World}
set_option maxRecDepth 100000 in
set_option maxHeartbeats 4000000 in
/-- One that has no disk is closed. -/
theorem closeNone_any (h : RowAt78 F g f b o w) (hdv : o.dv = .pointer none) :
    Calls Tryz.prog 48 #[.pointer (some ⟨g, 0, none⟩)] w (OneOf fun n w' => n = 0 ∧ RowAt78 F g false [] (deadO o) w' ∧ Frame (· = g) w w') := by
  have c74 := h.c74
  rw [hdv] at c74
  have z74 := h.froz 74
  have h1 := h.set74 (.pointer none)
  have ho : ({ o with dv := .pointer none } : Own78) = o := by rw [← hdv]
  rw [ho] at h1
  have hf1 : Frame (· = g) w (w.setCell ⟨g, 74, none⟩ (.pointer none)) := Frame.cell w ⟨g, 74, none⟩ (.pointer none)
  have HS := Lib.hid (spStop_any h1)
  have HF1 := Lib.hid hf1
  clear h hdv h1 hf1 ho
  go_enter Tryz.func48, Tryz.ntmps48
  go_wp2_with fail
  refine HS.out.mono ?_
  rintro e w2 ⟨rfl, hr2, hf2⟩
  have HF2 := Lib.hid (HF1.out.trans hf2)
  have HR2 := Lib.hid hr2
  clear hr2 hf2 HS HF1 c74 z74
  go_wp2_with fail
  refine (live_nil _).mono ?_
  rintro e w3 ⟨rfl, rfl⟩
  go_wp2_with fail
  refine wp_loop_rounds 1 ?_
  rw [rounds_succ]
  go_wp2_with fail
  go_ret
  exact ⟨0, rfl, rfl, HR2.out, HF2.out⟩
end
/-- Where the law breaks an input off. -/
def brokeM (z : Int) (n : Nat) : Nat := (max z 0).toNat % (n + 1)
theorem brokeM_le (z : Int) (n : Nat) : brokeM z n ≤ n := by unfold brokeM; have := Nat.mod_lt (max z 0).toNat (show 0 < n + 1 by omega); omega
def brokeS (z : Int) (i : Strm) : Strm := ⟨i.bytes.take (brokeM z i.bytes.length), i.ended && decide (z.tmod 3 = 0), i.code, i.stage, i.id⟩

theorem removeS_len (S : Script) (d : DSt) (no : Int) : (removeS S d no).T.length = d.T.length := by
  unfold removeS
  split
  · rfl
  · split
    · show (d.T.set _ _).length = _
      rw [List.length_set]
    · rfl
theorem closeGo_len (S : Script) : ∀ (L : List Int) (d : DSt) (f : Int), (closeGo S d L f).1.T.length = d.T.length
  | [], _, _ => rfl
  | no :: r, d, f => by
    show (closeGo S (removeS S d no) r _).1.T.length = _
    rw [closeGo_len S r, removeS_len]
/-- A sorter that is closed. -/
theorem sortRep.closes {F : Bool} {S : Script} {base h g gd : Nat} {s : SpS} {own : Nat → Prop} {w : World} (hr : sortRep F S base h g gd s own w) : ∃ ownD o, SortAt h g w ∧ RowAt78 F g false s.b o w ∧ o.dv = ptrV gd ∧ DiskAt base gd ownD S s.x.d w ∧ ownD g = 0 ∧ SmallD 300100 17000 s.x.d ∧ ¬ (h = g ∨ ownD h ≠ 0) ∧ (∀ k, (k = g ∨ ownD k ≠ 0) → own k) := by
  obtain ⟨lab, ownD, Bs, o, h1, h2, h3, h4, h5, rfl⟩ := hr
  refine ⟨ownD, o, h2, h1.rep.row, h1.rep.dv, h1.rep.disk, h1.rep.own0 (by rw [h1.rep.glab]; decide), h5.small, ?_, fun k hk => .inl ?_⟩
  · rintro (e | e)
    · rw [e, h1.rep.glab] at h3; cases h3
    · rw [h1.rep.dlab h e] at h3; cases h3
  · rcases hk with e | e
    · rw [e, h1.rep.glab]; decide
    · rw [h1.rep.dlab k e]; decide
theorem strms_row {base gs lcap : Nat} {W : World} {bv : Value} {t : Strm} {cs : Array Value} (hrow : W.heap[gs]? = some (.cells (#[bv, .bool t.ended, .int .i64 t.code, .int .i64 t.stage, .int .i64 t.id] ++ cs) 59 (0, 0))) (hb : IsBytes (base ≤ ·) W bv t.bytes) (hgs : base ≤ gs) :
    IsStrms (base ≤ ·) W (.slice (some ⟨gs, 0, none⟩) 1 lcap) [t] := by
  refine ⟨_, lcap, rfl, fun j t' hj => ?_⟩
  match j, hj with
  | 0, hj =>
    simp at hj
    subst hj
    refine ⟨gs, 0, bv, rfl, hgs, ?_, ?_, ?_, ?_, ?_, hb⟩
    all_goals
      rw [cell_of_row _ _ _ _ _ _ hrow]
      first | rfl | simp [Array.getElem?_append]
  | j + 1, hj => simp at hj
theorem row_put0 {gs : Nat} {W : World} {b0 b1 b2 b3 b4 v : Value} {cs : Array Value} (hrow : W.heap[gs]? = some (.cells (#[b0, b1, b2, b3, b4] ++ cs) 59 (0, 0))) : (W.setCell ⟨gs, 0, none⟩ v).heap[gs]? = some (.cells (#[v, b1, b2, b3, b4] ++ cs) 59 (0, 0)) := by
  rw [setCell_row (o := 0) (v := v) hrow]
  congr 2
  apply Array.ext'
  simp
theorem row_put1 {gs : Nat} {W : World} {b0 b1 b2 b3 b4 v : Value} {cs : Array Value} (hrow : W.heap[gs]? = some (.cells (#[b0, b1, b2, b3, b4] ++ cs) 59 (0, 0))) : (W.setCell ⟨gs, 1, none⟩ v).heap[gs]? = some (.cells (#[b0, v, b2, b3, b4] ++ cs) 59 (0, 0)) := by
  rw [setCell_row (o := 1) (v := v) hrow]
  congr 2
  apply Array.ext'
  simp
set_option maxRecDepth 100000 in
set_option maxHeartbeats 16000000 in
theorem spClosesLaw_any (k n : Int) (hn : Pm.Fits n) (va vb iv sv cv : Value) (A B : List UInt8) (ins : List Strm) (S : Script) (cuts : List Int) (z : Int) (w : World) (hT : MaxTab w) (hA : Pm.IsBytes w va A) (hB : Pm.IsBytes w vb B) (hI : IsStrms (· < w.heap.size) w iv ins) (hS : IsScript (· < w.heap.size) w sv S) (h64 : Script64 S) (hC : IsInts (· < w.heap.size) w cv cuts) :
    Calls Tryz.prog 6 #[Pm.parV k n va vb, iv, sv, cv, .int .i64 z] w (Pm.Gives w (.bool true)) := by
  have HT := Lib.hid (show ∀ W, Below w.heap.size w W → MaxTab W from fun W hb => hT.below hb)
  have HA := Lib.hid (show ∀ W, Below w.heap.size w W → Pm.IsBytes W va A from fun W hb => hA.below hb)
  have HB := Lib.hid (show ∀ W, Below w.heap.size w W → Pm.IsBytes W vb B from fun W hb => hB.below hb)
  have HI := Lib.hid (show ∀ W, Below w.heap.size w W → IsStrms (· < w.heap.size) W iv ins from fun W hb => hI.below hb)
  have HS := Lib.hid (show ∀ W, Below w.heap.size w W → IsScript (· < w.heap.size) W sv S from fun W hb => hS.below hb)
  have H64 := Lib.hid h64
  have HC := Lib.hid (show ∀ W, Below w.heap.size w W → IsInts (· < w.heap.size) W cv cuts from fun W hb => hC.below hb)
  obtain ⟨H, hH⟩ : ∃ H, H = heavyS A B ins S [cuts] := ⟨_, rfl⟩
  obtain ⟨G, hG⟩ : ∃ G, G = fitS k n A B ins := ⟨_, rfl⟩
  have HH := Lib.hid hH
  have HG := Lib.hid hG
  obtain ⟨ai, ci, hiv, -⟩ := id hI
  obtain ⟨as', cs', hsv, -⟩ := id hS
  obtain ⟨ac, cc, hcv, -⟩ := id hC
  subst hiv hsv hcv
  clear hT hA hB hI hS h64 hC hH hG
  unfold Pm.parV
  go_enter Tryz.func6, Tryz.ntmps6
  go_wp2_with fail
  have hbox : Below w.heap.size w (w.alloc (.cells #[.int .i64 k, .int .i64 n, va, vb] 24)) := (Below.refl _ _).alloc (Nat.le_refl _) _
  have hbx2 : Below w.heap.size w ((w.alloc (.cells #[.int .i64 k, .int .i64 n, va, vb] 24)).alloc (.cells #[.slice ac cuts.length cc] 38)) := hbox.alloc (by simp) _
  have hcc := ints_list (w.alloc (.cells #[.int .i64 k, .int .i64 n, va, vb] 24)) (.slice ac cuts.length cc) cuts (fun _ => True) trivial ((HC.out _ hbox).mono (fun _ _ _ => trivial)) (0, 0)
  rw [World.size_alloc] at hcc
  have hheavy := heavySp_any k n va vb (.slice ai ins.length ci) (.slice as' S.length cs') _ A B ins S [cuts] _ (HA.out _ hbx2) (HB.out _ hbx2) (HI.out _ hbx2) (HS.out _ hbx2) hcc (by simp)
  unfold Pm.parV at hheavy
  refine hheavy.mono ?_
  clear hheavy hcc
  rintro e w1 ⟨rfl, hb1⟩
  obtain ⟨c0, c1, c2, c3⟩ := box_cells (((Below.refl _ _).alloc (Nat.le_refl _) _).trans (hb1.mono (by simp)))
  have hb := hbx2.trans (hb1.mono hbx2.size)
  have HW := Lib.hid hb
  clear hbox hbx2 hb1 hb
  rw [← HH.out]
  cases H with
  | true =>
    go_wp2_with fail
    refine (awakeSp_true _ (HT.out _ HW.out)).mono ?_
    rintro e w2 ⟨rfl, hb2⟩
    go_wp2_with fail
    go_ret
    exact ⟨rfl, HW.out.trans (hb2.mono HW.out.size)⟩
  | false =>
    obtain ⟨sA, sB, s8, sS, sI, sC⟩ := heavyS_no HH.out.symm
    have SI := Lib.hid sI
    have SC := Lib.hid sC
    have SS := Lib.hid sS
    have HBX := Lib.hid (show ∀ W, Below w1.heap.size w1 W → W.cell? ⟨w.heap.size, 0, none⟩ = some (.int .i64 k) ∧ W.cell? ⟨w.heap.size, 1, none⟩ = some (.int .i64 n) ∧ W.cell? ⟨w.heap.size, 2, none⟩ = some va ∧ W.cell? ⟨w.heap.size, 3, none⟩ = some vb from fun W hb => ⟨Pm.Below.cell hb c0, Pm.Below.cell hb c1, Pm.Below.cell hb c2, Pm.Below.cell hb c3⟩)
    clear sI sC sS
    go_wp2_with fail
    have hfit := fitSp_any k n hn va vb (.slice ai ins.length ci) A B ins w1 (HA.out _ HW.out) (HB.out _ HW.out) (HI.out _ HW.out) (by omega)
    unfold Pm.parV at hfit
    refine hfit.mono ?_
    clear hfit
    rintro e w2 ⟨rfl, hb2⟩
    have HW2 := Lib.hid (HW.out.trans (hb2.mono HW.out.size))
    have HB2 := Lib.hid hb2
    clear hb2 c0 c1 c2 c3
    rw [← HG.out]
    cases G with
    | false =>
      go_wp2_with fail
      refine (awakeSp_true _ (HT.out _ HW2.out)).mono ?_
      rintro e w3 ⟨rfl, hb3⟩
      go_wp2_with fail
      go_ret
      exact ⟨rfl, HW2.out.trans (hb3.mono HW2.out.size)⟩
    | true =>
      obtain ⟨rfl, F, hnF, htake, hbound, hcheck, i, rfl⟩ := fitS_yes HG.out.symm
      have HTk := Lib.hid htake
      have HBo := Lib.hid hbound
      have HCh := Lib.hid hcheck
      have hlen := SI.out i (by simp)
      have hcl := SC.out cuts (by simp)
      have HNF := Lib.hid hnF
      obtain ⟨c0, c1, c2, c3⟩ := HBX.out _ HB2.out
      have HNew := Lib.hid (show ∀ W, Below w.heap.size w W → Calls Tryz.prog 15 #[.slice as' S.length cs'] W fun e w' => ∃ g own, e = .returned (.pointer (some ⟨g, 0, none⟩)) ∧ DiskAt W.heap.size g own S dst0 w' ∧ Below W.heap.size W w' from fun W hb => new_any (.slice as' S.length cs') S W (HS.out _ hb) (by have := SS.out; omega) H64.out)
      have HSN := Lib.hid (show ∀ base gd ownD W, Below w.heap.size w W → w.heap.size ≤ base → base ≤ W.heap.size → DiskAt base gd ownD S dst0 W → Calls Tryz.prog 13 #[.agg #[.int .i64 11, .int .i64 n, va, vb], .pointer (some ⟨gd, 0, none⟩)] W (SorterMade F S base gd ownD dst0 W) from fun base gd ownD W hbw hb1 hb2 hd => by
        have := spoolNew_yes 11 F va vb A B W (HT.out _ hbw).1 (HT.out _ hbw).2 (HA.out _ hbw) (HB.out _ hbw) (by rw [← HNF.out]; exact HTk.out) hd (by have h1 := (HT.out _ (Below.refl _ _)).2.lt; exact Nat.lt_of_lt_of_le h1 hb1) hb2
        rw [← HNF.out] at this
        exact this)
      clear htake hbound hcheck hnF c0 c1 c2 c3
      go_wp2_with fail
      refine (copyOne_any (.slice ai 1 ci) i w2 (HI.out _ HW2.out) (by omega)).mono ?_
      rintro e w3 ⟨v, rfl, ⟨gs, cap, bv, cs, rfl, hgs, hrow, hbo, hnb⟩, hb3⟩
      have hw3 := HW2.out.trans (hb3.mono HW2.out.size)
      obtain ⟨ba, bc, rfl⟩ := owns_slice hbo
      have d0 : w3.cell? ⟨gs, 0, none⟩ = some (.slice ba i.bytes.length bc) := by rw [cell_of_row _ _ _ _ _ _ hrow, Array.getElem?_append_left (by simp)]; rfl
      have d1 : w3.cell? ⟨gs, 1, none⟩ = some (.bool i.ended) := by rw [cell_of_row _ _ _ _ _ _ hrow, Array.getElem?_append_left (by simp)]; rfl
      have z0 : ∀ k, w3.frozen? ⟨gs, k, none⟩ = false := fun k => by simp [World.frozen?, hrow]
      have z00 := z0 0
      have z01 := z0 1
      have hbcap : (i.bytes.length : Int) ≤ (bc : Int) := by
        rcases hbo.2 with ⟨e, h0⟩ | ⟨q, cap, cur, e, -, -, hn, -⟩
        · injection e with e1 e2 e3; omega
        · injection e with e1 e2 e3; omega
      obtain ⟨m, hm⟩ : ∃ m, m = brokeM z i.bytes.length := ⟨_, rfl⟩
      have hmle := brokeM_le z i.bytes.length
      rw [← hm] at hmle
      have hmI : max z 0 % ((i.bytes.length : Int) + 1) = (m : Int) := by
        rw [hm]
        unfold brokeM
        obtain ⟨y, hy⟩ : ∃ y : Nat, max z 0 = (y : Int) := ⟨(max z 0).toNat, by omega⟩
        rw [hy, Int.toNat_natCast]
        rfl
      have hmi1 : (m : Int) ≤ (i.bytes.length : Int) := by omega
      have hmi2 : (m : Int) ≤ (bc : Int) := by omega
      have HM := Lib.hid hm
      have HRow := Lib.hid hrow
      have HBo := Lib.hid hbo
      have HNb := Lib.hid hnb
      have HGs := Lib.hid hgs
      have HW3 := Lib.hid hw3
      have HB3 := Lib.hid hb3
      clear hw3 hb3 hrow hbo hnb hgs z0 hm
      go_wp2_with fail
      go_region
      have hr4 : ((w3.setCell ⟨gs, 0, none⟩ (.slice ba m bc)).drew).heap[gs]? = some (.cells (#[.slice ba m bc, .bool i.ended, .int .i64 i.code, .int .i64 i.stage, .int .i64 i.id] ++ cs) 59 (0, 0)) := row_put0 HRow.out
      have hf4 : Frame (· = gs) w3 (w3.setCell ⟨gs, 0, none⟩ (.slice ba m bc)).drew := (Frame.cell w3 ⟨gs, 0, none⟩ (.slice ba m bc)).drew
      clear d0 d1 z00 z01 hmI
      generalize (w3.setCell ⟨gs, 0, none⟩ (.slice ba m bc)).drew = W4 at hr4 hf4 ⊢
      have d1 : W4.cell? ⟨gs, 1, none⟩ = some (.bool i.ended) := by rw [cell_of_row _ _ _ _ _ _ hr4, Array.getElem?_append_left (by simp)]; rfl
      have z01 : W4.frozen? ⟨gs, 1, none⟩ = false := by simp [World.frozen?, hr4]
      have HR4 := Lib.hid hr4
      have HF4 := Lib.hid hf4
      clear hr4 hf4
      go_upto_region 5 with fail
      go_cut [63] (fun v W => v = .bool (i.ended && decide (z.tmod 3 = 0)) ∧ W = W4.setCell ⟨gs, 1, none⟩ (.bool (i.ended && decide (z.tmod 3 = 0))))
      case first =>
        cases he : i.ended with
        | false =>
          rw [he] at d1
          go_wp2_with fail
          go_meet
          case rel => exact ⟨by simp [he], by simp [he]⟩
        | true =>
          rw [he] at d1
          have g1 : (z.tmod 3 == 0) = decide (z.tmod 3 = 0) := rfl
          go_wp2_with fail
          go_meet
          case rel => exact ⟨by simp [he], by simp [he]⟩
      case rest =>
      obtain ⟨rfl, rfl⟩ := hcut
      obtain ⟨E, hE⟩ : ∃ E, E = (i.ended && decide (z.tmod 3 = 0)) := ⟨_, rfl⟩
      rw [← hE]
      have hr5 := row_put1 (v := .bool E) HR4.out
      have hf5 : Frame (· = gs) w3 (W4.setCell ⟨gs, 1, none⟩ (.bool E)) := HF4.out.trans (Frame.cell W4 ⟨gs, 1, none⟩ (.bool E))
      clear d1 z01
      generalize W4.setCell ⟨gs, 1, none⟩ (.bool E) = W5 at hr5 hf5 ⊢
      have hby := bytes_take (isBytes_of_owns (hf5.owns HBo.out (fun k hk e => HNb.out (by rw [hk]; have e' : k = gs := e; rw [e'])))) hmle
      have hst5 : IsStrms (w2.heap.size ≤ ·) W5 (.slice (some ⟨gs, 0, none⟩) 1 cap) [brokeS z i] := strms_row (t := brokeS z i) (by show W5.heap[gs]? = some (.cells (#[_, .bool (i.ended && decide (z.tmod 3 = 0)), _, _, _] ++ cs) _ _); rw [← hE]; exact hr5) (by show IsBytes _ _ _ (i.bytes.take (brokeM z i.bytes.length)); rw [← HM.out]; exact hby) HGs.out
      have hb35 := hf5.below (n := w2.heap.size) HB3.out.size (fun k e => by have e' : k = gs := e; rw [e']; exact HGs.out)
      have hb25 : Below w2.heap.size w2 W5 := HB3.out.trans hb35
      have hw5 := HW2.out.trans (hb25.mono HW2.out.size)
      have HB25 := Lib.hid hb25
      have HW5 := Lib.hid hw5
      have HStr := Lib.hid (hst5.mono (q := fun k => k < W5.heap.size) (fun k hk _ => hk))
      have hjl : (brokeS z i).bytes.length ≤ 4500 := by show (i.bytes.take _).length ≤ 4500; rw [List.length_take]; omega
      obtain ⟨j, hj⟩ : ∃ j, j = brokeS z i := ⟨_, rfl⟩
      rw [← hj] at HStr hjl
      clear hr5 hf5 hby hst5 hb35 hb25 hw5 hE hj HR4 HF4 HBo HNb HRow HM HB3 HW3
      go_wp2_with fail
      refine (HNew.out W5 HW5.out).mono ?_
      rintro e w6 ⟨gd, ownD, rfl, hd6, hb6⟩
      have hw6 := HW5.out.trans (hb6.mono HW5.out.size)
      have HW6 := Lib.hid hw6
      have HSN1 := Lib.hid (HSN.out W5.heap.size gd ownD w6 hw6 HW5.out.size hb6.size hd6)
      have HBd := Lib.hid hd6.bnd
      have HB6 := Lib.hid hb6
      obtain ⟨c0, c1, c2, c3⟩ := HBX.out _ (HB2.out.trans ((HB25.out.trans (hb6.mono HB25.out.size)).mono HB2.out.size))
      clear hd6 hb6 hw6 HNew HSN
      go_wp2_with fail
      refine HSN1.out.mono ?_
      rintro e w7 ⟨h, g, rfl, hs7, hst7, hg7, hh7, hne7, hb7⟩
      obtain ⟨hR, -, hq2, hq3⟩ := SorterMade.new (w0 := W5) hs7 hst7 hh7 hne7 HB6.out.size (Nat.le_refl _) hb7 HBd.out
      obtain ⟨own, hown⟩ : ∃ own, own = (fun k => deadLab g ownD k ≠ 0 ∨ k = h) := ⟨_, rfl⟩
      rw [← hown] at hR hq3
      have HR7 := Lib.hid hR
      have HOwn := Lib.hid hq3
      have HQ7 := Lib.hid hq2
      have HB57 := Lib.hid (HB6.out.trans (hb7.mono HB6.out.size))
      have HW7 := Lib.hid (HW6.out.trans (hb7.mono HW6.out.size))
      clear hs7 hst7 hg7 hh7 hne7 hb7 hR hq2 hq3 hown HSN1 c0 c1 c2 c3
      go_wp2_with fail
      have hsz5 := HW5.out.size
      refine (driveSp_any F S W5.heap.size h g gd (freshS dst0) own _ _ j cuts w7 HQ7.out HR7.out ((HStr.out.below HB57.out).mono (fun k _ h e => by have := HOwn.out k e; have h' : k < W5.heap.size := h; omega)) ((HC.out _ HW7.out).mono (fun k _ h e => by have := HOwn.out k e; omega)) (by omega) (by omega)).mono ?_
      rintro e w8 ⟨rfl, ⟨now, hR8, hnow⟩, hf8⟩
      generalize drive (spMach S F) [j] cuts 100000 0 (start (spMach S F) (freshS dst0)) = D at hR8 ⊢
      have hb8 : Below w.heap.size w w8 := Frame.belowO HW7.out (fun k e => Nat.le_trans hsz5 (HOwn.out k e)) HW7.out.size hf8
      obtain ⟨oD, o, hs8, hr8, hdv8, hd8, hg8, hsm8, hnh8, hno8⟩ := hR8.closes
      have hnowb : ∀ k, now k → w.heap.size ≤ k := fun k hk => by
        rcases hnow k hk with e | e
        · exact Nat.le_trans hsz5 (HOwn.out k e.1)
        · have := HW7.out.size; omega
      have HCa := Lib.hid (calls_any hd8)
      have HLi := Lib.hid (live_any hd8 hsm8.T)
      have HD8 := Lib.hid hd8
      have HS8 := Lib.hid hs8
      have HR8 := Lib.hid hr8
      have HG8 := Lib.hid hg8
      have HSm := Lib.hid hsm8
      have HNh := Lib.hid hnh8
      have HDv := Lib.hid hdv8
      have HNo := Lib.hid (show ∀ k, (k = g ∨ oD k ≠ 0) → w.heap.size ≤ k from fun k hk => hnowb k (hno8 k hk))
      have HW8 := Lib.hid hb8
      have hlive : (liveL D.s.x.d.T).length ≤ 64 := Nat.le_trans (live_len D.s.x.d.T 0) hsm8.T
      obtain ⟨c1, c2, c3⟩ := closeD_is S D.s.x.d
      have c4 : (closeD S D.s.x.d).1.T.length ≤ 64 := by unfold closeD; rw [closeGo_len]; exact hsm8.T
      have hn8 := hsm8.n
      obtain ⟨d, hdd⟩ : ∃ d, d = D.s.x.d := ⟨_, rfl⟩
      rw [← hdd] at HCa HLi HD8 HSm hlive c1 c2 c3 c4 hn8
      have HClose := Lib.hid (show ∀ W, Below w8.heap.size w8 W → Calls Tryz.prog 27 #[.pointer (some ⟨h, 0, none⟩)] W (OneOf (CloseEnd F S W5.heap.size g gd oD o d W)) from fun W hb =>
        sClose_any (HS8.out.frame (Below.toFrame hb fun _ => False) (fun h => h)) (close_any (HR8.out.frame (Below.toFrame hb fun _ => False) (fun h => h)) HDv.out (HD8.out.below hb) HG8.out HSm.out))
      obtain ⟨L, hL⟩ : ∃ L, L = (liveL d.T).length := ⟨_, rfl⟩
      obtain ⟨N, hN⟩ : ∃ N : Nat, N = d.n := ⟨_, rfl⟩
      obtain ⟨X, hX⟩ : ∃ X, X = closeD S d := ⟨_, rfl⟩
      rw [← hX] at c1 c2 c3 c4
      rw [← hL] at c1 hlive
      rw [← hN] at c1 hn8 HCa
      have HC1 := Lib.hid c1
      have HC2 := Lib.hid c2
      have HC3 := Lib.hid c3
      have HC4 := Lib.hid c4
      have HX := Lib.hid hX
      have HL := Lib.hid hL
      have v1 : IntKind.i64.wrap ((N : Int) + (L : Int)) = (N : Int) + (L : Int) := by rw [IntKind.wrap_i64]; omega
      clear hf8 hb8 hR8 hs8 hr8 hdv8 hd8 hg8 hsm8 hnh8 hno8 hnow hnowb c1 c2 c3 c4 hdd hX hL hN
      go_wp2_with fail
      refine HCa.out.mono ?_
      rintro e wx ⟨rfl, rfl⟩
      rename World => w8
      go_wp2_with fail
      refine HLi.out.mono ?_
      rintro e w9 ⟨v9, rfl, ho9, hb9⟩
      obtain ⟨l9, cp9, rfl⟩ := owns_slice ho9
      rw [← HL.out]
      have HB9 := Lib.hid hb9
      have HCl := Lib.hid (HClose.out w9 hb9)
      clear ho9 hb9 HClose HLi
      go_wp2_with fail
      refine HCl.out.mono ?_
      rintro e w10 ⟨f, rfl, hfe, hr10, oD', hd10, ho10, hf10⟩
      rw [← HX.out] at hfe hd10
      have hr10' := hr10
      have hs10 := (HS8.out.frame (Below.toFrame HB9.out fun _ => False) (fun h => h)).frame hf10 HNh.out
      have HFe := Lib.hid hfe
      have HR10 := Lib.hid hr10
      have HD10 := Lib.hid hd10
      have HS10 := Lib.hid hs10
      have HW9 := Lib.hid (HW8.out.trans (HB9.out.mono HW8.out.size))
      have HW10 := Lib.hid (HW9.out.trans (hf10.below (n := w.heap.size) HW9.out.size HNo.out))
      have HG10 := Lib.hid (show oD' g = 0 by rw [ho10 g (Nat.lt_of_lt_of_le HR8.out.lt HB9.out.size)]; exact HG8.out)
      have HLi2 := Lib.hid (live_any hd10 HC4.out)
      clear hfe hr10 hr10' hd10 hs10 ho10 hf10 HCl
      go_wp2_with fail
      refine HLi2.out.mono ?_
      rintro e w11 ⟨v11, rfl, ho11, hb11⟩
      obtain ⟨l11, cp11, rfl⟩ := owns_slice ho11
      have hr11 := HR10.out.frame (Below.toFrame hb11 fun _ => False) (fun h => h)
      have hs11 := HS10.out.frame (Below.toFrame hb11 fun _ => False) (fun h => h)
      have hd11 := HD10.out.below hb11
      have HR11 := Lib.hid hr11
      have HS11 := Lib.hid hs11
      have HD11 := Lib.hid hd11
      have HW11 := Lib.hid (HW10.out.trans (hb11.mono HW10.out.size))
      have HNd := Lib.hid (sNeed_any (Q := fun n w' => n = -1 ∧ w' = w11) hs11 ((need_any hr11.c0).mono (by rintro e w' ⟨rfl, rfl⟩; exact ⟨_, rfl, rfl, rfl⟩)))
      have hca11 := calls_any hd11
      rw [HC1.out] at hca11
      have hcc : ((N + L : Nat) : Int) = (N : Int) + (L : Int) := by omega
      rw [hcc] at hca11
      have HCa11 := Lib.hid hca11
      have HGz := Lib.hid (show oD' g = 0 from HG10.out)
      have HCl2 := Lib.hid (sClose_any hs11 (closeNone_any hr11 rfl))
      obtain ⟨M, hM⟩ : ∃ M, M = (liveL X.1.T).length := ⟨_, rfl⟩
      rw [← hM]
      have HMz := Lib.hid (show X.2 = 0 ↔ M = 0 from by rw [HC3.out, hM]; exact List.length_eq_zero_iff.symm)
      have hM64 : M ≤ 64 := by rw [hM]; exact Nat.le_trans (live_len X.1.T 0) HC4.out
      clear ho11 hb11 hr11 hs11 hd11 hca11 hcc hM HLi2
      go_wp2_with fail
      refine HNd.out.mono ?_
      rintro e wx ⟨nd, rfl, rfl, rfl⟩
      rename World => w11
      go_wp2_with fail
      refine HCa11.out.mono ?_
      rintro e wx ⟨rfl, rfl⟩
      rename World => w11
      have hkey : (f = 0 ∧ M = 0) ∨ (f = 25 ∧ M ≠ 0) := by
        rw [HFe.out]
        rcases HC2.out with e | e
        · exact .inl ⟨e, HMz.out.1 e⟩
        · exact .inr ⟨e, fun h => by rw [HMz.out.2 h] at e; cases e⟩
      have HKey := Lib.hid hkey
      clear hkey hM64
      have v2 : ((N : Int) + (L : Int) == (N : Int) + (L : Int)) = true := by simp
      have v3 : ((N : Int) + (L : Int) != (N : Int) + (L : Int)) = false := by simp
      rcases HKey.out with ⟨rfl, hM0⟩ | ⟨rfl, hM0⟩
      · have g1 : ((M : Int) == 0) = true := by simpa using hM0
        clear hM0
        go_wp2_with fail
        refine HCl2.out.mono ?_
        rintro e w12 ⟨n12, rfl, rfl, hr12, hf12⟩
        have HS12 := Lib.hid (HS11.out.frame hf12 (fun e => HNh.out (.inl e)))
        have HR12 := Lib.hid hr12
        have HW12 := Lib.hid (HW11.out.trans (hf12.below (n := w.heap.size) HW11.out.size (fun k e => HNo.out k (.inl e))))
        have HD12 := Lib.hid (HD11.out.frame hf12 (fun k e => by have e' : k = g := e; rw [e']; exact HGz.out))
        have kc1 := Lib.run_convert_bytes_const (P := Tryz.prog) w12 22 5 #[.int .u8 97] 1 1 Tryz.underlying22 Tryz.underlying5
        clear hr12 hf12 HCl2
        go_wp2_with fail
        have hba : Below w12.heap.size w12 (w12.alloc (.cells #[.int .u8 97] 5 (1, 1 + 1))) := (Below.refl _ _).alloc (Nat.le_refl _) _
        have hfd := sFeed_any (R := fun v n w' => v = .slice none 0 0 ∧ n = 4 ∧ w' = w12.alloc (.cells #[.int .u8 97] 5 (1, 1 + 1))) (HS12.out.frame (Below.toFrame hba fun _ => False) (fun h => h)) 0 (.slice (some ⟨w12.heap.size, 0, none⟩) 1 1) ((queuesFeed_no g (-1) 0 (some ⟨w12.heap.size, 0, none⟩) 1 1 _ (HR12.out.frame (Below.toFrame hba fun _ => False) (fun h => h)).c0 (by decide)).mono (by rintro e w' ⟨rfl, rfl⟩; exact ⟨_, _, rfl, rfl, rfl, rfl⟩))
        refine hfd.mono ?_
        clear hfd
        rintro e wx ⟨v, n13, rfl, rfl, rfl, rfl⟩
        have hca := calls_any (HD12.out.below hba)
        rw [HC1.out, show ((N + L : Nat) : Int) = (N : Int) + (L : Int) by omega] at hca
        have HCa13 := Lib.hid hca
        have HW13 := Lib.hid (HW12.out.trans (hba.mono HW12.out.size))
        clear hca hba kc1
        go_wp2_with fail
        refine HCa13.out.mono ?_
        rintro e wx ⟨rfl, rfl⟩
        go_wp2_with fail
        refine (awakeSp_true _ (HT.out _ HW13.out)).mono ?_
        rintro e w14 ⟨rfl, hb14⟩
        go_wp2_with fail
        go_ret
        exact ⟨rfl, HW13.out.trans (hb14.mono HW13.out.size)⟩
      · have g1 : ((M : Int) == 0) = false := by simpa using hM0
        clear hM0
        go_wp2_with fail
        refine HCl2.out.mono ?_
        rintro e w12 ⟨n12, rfl, rfl, hr12, hf12⟩
        have HS12 := Lib.hid (HS11.out.frame hf12 (fun e => HNh.out (.inl e)))
        have HR12 := Lib.hid hr12
        have HW12 := Lib.hid (HW11.out.trans (hf12.below (n := w.heap.size) HW11.out.size (fun k e => HNo.out k (.inl e))))
        have HD12 := Lib.hid (HD11.out.frame hf12 (fun k e => by have e' : k = g := e; rw [e']; exact HGz.out))
        have kc1 := Lib.run_convert_bytes_const (P := Tryz.prog) w12 22 5 #[.int .u8 97] 1 1 Tryz.underlying22 Tryz.underlying5
        clear hr12 hf12 HCl2
        go_wp2_with fail
        have hba : Below w12.heap.size w12 (w12.alloc (.cells #[.int .u8 97] 5 (1, 1 + 1))) := (Below.refl _ _).alloc (Nat.le_refl _) _
        have hfd := sFeed_any (R := fun v n w' => v = .slice none 0 0 ∧ n = 4 ∧ w' = w12.alloc (.cells #[.int .u8 97] 5 (1, 1 + 1))) (HS12.out.frame (Below.toFrame hba fun _ => False) (fun h => h)) 0 (.slice (some ⟨w12.heap.size, 0, none⟩) 1 1) ((queuesFeed_no g (-1) 0 (some ⟨w12.heap.size, 0, none⟩) 1 1 _ (HR12.out.frame (Below.toFrame hba fun _ => False) (fun h => h)).c0 (by decide)).mono (by rintro e w' ⟨rfl, rfl⟩; exact ⟨_, _, rfl, rfl, rfl, rfl⟩))
        refine hfd.mono ?_
        clear hfd
        rintro e wx ⟨v, n13, rfl, rfl, rfl, rfl⟩
        have hca := calls_any (HD12.out.below hba)
        rw [HC1.out, show ((N + L : Nat) : Int) = (N : Int) + (L : Int) by omega] at hca
        have HCa13 := Lib.hid hca
        have HW13 := Lib.hid (HW12.out.trans (hba.mono HW12.out.size))
        clear hca hba kc1
        go_wp2_with fail
        refine HCa13.out.mono ?_
        rintro e wx ⟨rfl, rfl⟩
        go_wp2_with fail
        refine (awakeSp_true _ (HT.out _ HW13.out)).mono ?_
        rintro e w14 ⟨rfl, hb14⟩
        go_wp2_with fail
        go_ret
        exact ⟨rfl, HW13.out.trans (hb14.mono HW13.out.size)⟩

end Go.Proofs.YtpgigpajpcianaaGreatDoor
