/- SpoolChunks's walk. -/
import Derived.Test.YtpgigpajpcianaaGreatDoorSpHolds
import Derived.Test.YtpgigpajpcianaaGreatDoorSpints
import Derived.Test.YtpgigpajpcianaaGreatDoorGchunks
namespace Go.Proofs.YtpgigpajpcianaaGreatDoor
open Go.RowKit

theorem deadLab_own {g h : Nat} {ownD : Nat → Nat} {k : Nat} (hk : deadLab g ownD k ≠ 0 ∨ k = h) : ownD k ≠ 0 ∨ k = g ∨ k = h := by
  rcases hk with hk | hk
  · unfold deadLab at hk
    by_cases e : k = g
    · exact .inr (.inl e)
    · rw [if_neg e] at hk
      by_cases e2 : ownD k ≠ 0
      · exact .inl e2
      · rw [if_neg e2] at hk; exact absurd rfl hk
  · exact .inr (.inr hk)
theorem sortRep.keep2 {F : Bool} {S : Script} {base h g gd : Nat} {s : SpS} {own p : Nat → Prop} {w w' : World} (hr : sortRep F S base h g gd s own w) (hf : Frame p w w') (hp : ∀ k, own k ∨ k = mxV → ¬ p k) : sortRep F S base h g gd s own w' := by
  obtain ⟨lab, ownD, Bs, o, h1, h2, h3, h4, h5, rfl⟩ := hr
  refine ⟨lab, ownD, Bs, o, h1.frame hf (fun k hk => ⟨?_, fun e => hp k (.inr e) hk⟩), h2.frame hf (fun e => hp h (.inl (.inr rfl)) e), h3, h4, h5, rfl⟩
  cases hz : lab k with
  | zero => rfl
  | succ m => exact absurd hk (hp k (.inl (.inl (by rw [hz]; exact Nat.succ_ne_zero _))))
theorem sortRep.small {F : Bool} {S : Script} {base h g gd : Nat} {s : SpS} {own : Nat → Prop} {w : World} (hr : sortRep F S base h g gd s own w) : SmallD 300100 17000 s.x.d := by
  obtain ⟨lab, ownD, Bs, o, h1, h2, h3, h4, h5, rfl⟩ := hr
  exact h5.small
theorem isInts_of_owns {base : Nat} {w : World} {v : Value} {L : List Int} (h : w.ownsRow base 3 1 v L.length (L.map (Value.int .i64))) : IsInts (fun _ => True) w v L := by
  rcases h.2 with ⟨e, h0⟩ | ⟨q, cap, cur, e, -⟩
  · have : L = [] := List.eq_nil_of_length_eq_zero h0
    subst this
    exact ⟨none, 0, e, fun j b hj => by simp at hj⟩
  · subst e
    refine ⟨_, cap, rfl, fun j x hj => ⟨q, 0, rfl, trivial, ?_⟩⟩
    have hlt := (List.getElem?_eq_some_iff.1 hj).1
    rw [Nat.zero_add, h.cellAt j (by omega)]
    simp [hj]

set_option maxRecDepth 100000 in
set_option maxHeartbeats 16000000 in
theorem spChunksLaw_any (k n : Int) (hn : Pm.Fits n) (va vb iv sv xv yv : Value) (A B : List UInt8) (ins : List Strm) (S : Script) (xs ys : List Int) (w : World) (hT : MaxTab w) (hA : Pm.IsBytes w va A) (hB : Pm.IsBytes w vb B) (hI : IsStrms (· < w.heap.size) w iv ins) (hS : IsScript (· < w.heap.size) w sv S) (h64 : Script64 S) (hX : IsInts (· < w.heap.size) w xv xs) (hY : IsInts (· < w.heap.size) w yv ys) :
    Calls Tryz.prog 8 #[Pm.parV k n va vb, iv, sv, xv, yv] w (Pm.Gives w (.bool true)) := by
  have HT := Lib.hid (show ∀ W, Below w.heap.size w W → MaxTab W from fun W hb => hT.below hb)
  have HA := Lib.hid (show ∀ W, Below w.heap.size w W → Pm.IsBytes W va A from fun W hb => hA.below hb)
  have HB := Lib.hid (show ∀ W, Below w.heap.size w W → Pm.IsBytes W vb B from fun W hb => hB.below hb)
  have HI := Lib.hid (show ∀ W, Below w.heap.size w W → IsStrms (· < w.heap.size) W iv ins from fun W hb => hI.below hb)
  have HS := Lib.hid (show ∀ W, Below w.heap.size w W → IsScript (· < w.heap.size) W sv S from fun W hb => hS.below hb)
  have H64 := Lib.hid h64
  have HX := Lib.hid (show ∀ W, Below w.heap.size w W → IsInts (· < w.heap.size) W xv xs from fun W hb => hX.below hb)
  have HY := Lib.hid (show ∀ W, Below w.heap.size w W → IsInts (· < w.heap.size) W yv ys from fun W hb => hY.below hb)
  obtain ⟨H, hH⟩ : ∃ H, H = heavyS A B ins S [xs, ys] := ⟨_, rfl⟩
  obtain ⟨G, hG⟩ : ∃ G, G = fitS k n A B ins := ⟨_, rfl⟩
  have HH := Lib.hid hH
  have HG := Lib.hid hG
  obtain ⟨ai, ci, hiv, -⟩ := id hI
  obtain ⟨as', cs', hsv, -⟩ := id hS
  obtain ⟨ax, cx, hxv, -⟩ := id hX
  obtain ⟨ay, cy, hyv, -⟩ := id hY
  subst hiv hsv hxv hyv
  clear hT hA hB hI hS h64 hX hY hH hG
  unfold Pm.parV
  go_enter Tryz.func8, Tryz.ntmps8
  go_wp2_with fail
  have hbox : Below w.heap.size w (w.alloc (.cells #[.int .i64 k, .int .i64 n, va, vb] 24)) := (Below.refl _ _).alloc (Nat.le_refl _) _
  have hbx2 : Below w.heap.size w ((w.alloc (.cells #[.int .i64 k, .int .i64 n, va, vb] 24)).alloc (.cells #[.slice ax xs.length cx, .slice ay ys.length cy] 38)) := hbox.alloc (by simp) _
  have hcc := ints_list2 (w.alloc (.cells #[.int .i64 k, .int .i64 n, va, vb] 24)) (.slice ax xs.length cx) (.slice ay ys.length cy) xs ys (fun _ => True) trivial ((HX.out _ hbox).mono (fun _ _ _ => trivial)) ((HY.out _ hbox).mono (fun _ _ _ => trivial)) (0, 0)
  rw [World.size_alloc] at hcc
  have hheavy := heavySp_any k n va vb (.slice ai ins.length ci) (.slice as' S.length cs') _ A B ins S [xs, ys] _ (HA.out _ hbx2) (HB.out _ hbx2) (HI.out _ hbx2) (HS.out _ hbx2) hcc (by simp)
  unfold Pm.parV at hheavy
  refine hheavy.mono ?_
  clear hheavy hcc
  rintro e w1 ⟨rfl, hb1⟩
  obtain ⟨c0, c1, c2, c3⟩ := box_cells (((Below.refl _ _).alloc (Nat.le_refl _) _).trans (hb1.mono (by simp)))
  have hb := hbx2.trans (hb1.mono hbx2.size)
  have HW := Lib.hid hb
  clear hbox hbx2 hb1 hb
  rw [← HH.out]
  cases H with
  | true =>
    go_wp2_with fail
    refine (awakeSp_true _ (HT.out _ HW.out)).mono ?_
    rintro e w2 ⟨rfl, hb2⟩
    go_wp2_with fail
    go_ret
    exact ⟨rfl, HW.out.trans (hb2.mono HW.out.size)⟩
  | false =>
    obtain ⟨sA, sB, s8, sS, sI, sC⟩ := heavyS_no HH.out.symm
    have SI := Lib.hid sI
    have SC := Lib.hid sC
    have SS := Lib.hid sS
    have HBX := Lib.hid (show ∀ W, Below w1.heap.size w1 W → W.cell? ⟨w.heap.size, 0, none⟩ = some (.int .i64 k) ∧ W.cell? ⟨w.heap.size, 1, none⟩ = some (.int .i64 n) ∧ W.cell? ⟨w.heap.size, 2, none⟩ = some va ∧ W.cell? ⟨w.heap.size, 3, none⟩ = some vb from fun W hb => ⟨Pm.Below.cell hb c0, Pm.Below.cell hb c1, Pm.Below.cell hb c2, Pm.Below.cell hb c3⟩)
    clear sI sC sS
    go_wp2_with fail
    have hfit := fitSp_any k n hn va vb (.slice ai ins.length ci) A B ins w1 (HA.out _ HW.out) (HB.out _ HW.out) (HI.out _ HW.out) (by omega)
    unfold Pm.parV at hfit
    refine hfit.mono ?_
    clear hfit
    rintro e w2 ⟨rfl, hb2⟩
    have HW2 := Lib.hid (HW.out.trans (hb2.mono HW.out.size))
    have HB2 := Lib.hid hb2
    clear hb2 c0 c1 c2 c3
    rw [← HG.out]
    cases G with
    | false =>
      go_wp2_with fail
      refine (awakeSp_true _ (HT.out _ HW2.out)).mono ?_
      rintro e w3 ⟨rfl, hb3⟩
      go_wp2_with fail
      go_ret
      exact ⟨rfl, HW2.out.trans (hb3.mono HW2.out.size)⟩
    | true =>
      obtain ⟨rfl, F, hnF, htake, hbound, hcheck, i, rfl⟩ := fitS_yes HG.out.symm
      have HTk := Lib.hid htake
      have HBo := Lib.hid hbound
      have HCh := Lib.hid hcheck
      have hlen := SI.out i (by simp)
      have hcx := SC.out xs (by simp)
      have hcy := SC.out ys (by simp)
      have HNF := Lib.hid hnF
      obtain ⟨c0, c1, c2, c3⟩ := HBX.out _ HB2.out
      have HNew := Lib.hid (show ∀ W, Below w.heap.size w W → Calls Tryz.prog 15 #[.slice as' S.length cs'] W fun e w' => ∃ g own, e = .returned (.pointer (some ⟨g, 0, none⟩)) ∧ DiskAt W.heap.size g own S dst0 w' ∧ Below W.heap.size W w' from fun W hb => new_any (.slice as' S.length cs') S W (HS.out _ hb) (by have := SS.out; omega) H64.out)
      have HSN := Lib.hid (show ∀ base gd ownD W, Below w.heap.size w W → w.heap.size ≤ base → base ≤ W.heap.size → DiskAt base gd ownD S dst0 W → Calls Tryz.prog 13 #[.agg #[.int .i64 11, .int .i64 n, va, vb], .pointer (some ⟨gd, 0, none⟩)] W (SorterMade F S base gd ownD dst0 W) from fun base gd ownD W hbw hb1 hb2 hd => by
        have := spoolNew_yes 11 F va vb A B W (HT.out _ hbw).1 (HT.out _ hbw).2 (HA.out _ hbw) (HB.out _ hbw) (by rw [← HNF.out]; exact HTk.out) hd (by have h1 := (HT.out _ (Below.refl _ _)).2.lt; exact Nat.lt_of_lt_of_le h1 hb1) hb2
        rw [← HNF.out] at this
        exact this)
      clear htake hbound hcheck hnF
      go_wp2_with fail
      refine (HNew.out w2 HW2.out).mono ?_
      rintro e w3 ⟨gc, ownC, rfl, hd3, hb3⟩
      have hw3 := HW2.out.trans (hb3.mono HW2.out.size)
      have HW3 := Lib.hid hw3
      have HD3 := Lib.hid hd3
      have HB3 := Lib.hid hb3
      clear hd3 hb3 hw3 c0 c1 c2 c3
      go_wp2_with fail
      refine (HNew.out w3 HW3.out).mono ?_
      rintro e w4 ⟨gd, ownD, rfl, hd4, hb4⟩
      have hw4 := HW3.out.trans (hb4.mono HW3.out.size)
      have HW4 := Lib.hid hw4
      have HD4 := Lib.hid hd4
      have HB4 := Lib.hid hb4
      have HC4 := Lib.hid (HD3.out.below hb4)
      have HSN1 := Lib.hid (HSN.out _ gc ownC w4 hw4 HW2.out.size (Nat.le_trans HB3.out.size hb4.size) HC4.out)
      obtain ⟨c0, c1, c2, c3⟩ := HBX.out _ (HB2.out.trans ((HB3.out.trans (hb4.mono HB3.out.size)).mono HB2.out.size))
      clear hd4 hb4 hw4 HNew
      go_wp2_with fail
      refine HSN1.out.mono ?_
      rintro e w5 ⟨h1, g1, rfl, hs5, hst5, hg5, hh5, hne5, hb5⟩
      have hw5 := HW4.out.trans (hb5.mono HW4.out.size)
      have hb35 : Below w2.heap.size w2 w5 := (HB3.out.trans (HB4.out.mono HB3.out.size)).trans (hb5.mono (Nat.le_trans HB3.out.size HB4.out.size))
      obtain ⟨c0, c1, c2, c3⟩ := HBX.out _ (HB2.out.trans (hb35.mono HB2.out.size))
      have HSN2 := Lib.hid (HSN.out _ gd ownD w5 hw5 (Nat.le_trans HW2.out.size HB3.out.size) (Nat.le_trans HB4.out.size hb5.size) (HD4.out.below hb5))
      have hbd1 := HD3.out.bnd
      obtain ⟨hR1, -, -, hq1⟩ := SorterMade.new (w0 := w2) hs5 hst5 hh5 hne5 (Nat.le_trans HB3.out.size HB4.out.size) (Nat.le_refl _) hb5 (fun k hk => ⟨(hbd1 k hk).1, Nat.lt_of_lt_of_le (hbd1 k hk).2 HB4.out.size⟩)
      have hown1 : ∀ k, (deadLab g1 ownC k ≠ 0 ∨ k = h1) → (w2.heap.size ≤ k ∧ k < w3.heap.size) ∨ (w4.heap.size ≤ k ∧ k < w5.heap.size) := fun k hk => by
        have hold := hR1.old k hk
        rcases deadLab_own hk with e | e | e
        · exact .inl (hbd1 k e)
        · subst e; exact .inr ⟨hg5, hold⟩
        · subst e; exact .inr ⟨hh5, hold⟩
      obtain ⟨own1, hown⟩ : ∃ own1, own1 = (fun k => deadLab g1 ownC k ≠ 0 ∨ k = h1) := ⟨_, rfl⟩
      rw [← hown] at hR1 hq1
      have HOwn1 := Lib.hid (show ∀ k, own1 k → (w2.heap.size ≤ k ∧ k < w3.heap.size) ∨ (w4.heap.size ≤ k ∧ k < w5.heap.size) from fun k hk => hown1 k (by rw [hown] at hk; exact hk))
      have HR1 := Lib.hid hR1
      have HW5 := Lib.hid hw5
      have HB5 := Lib.hid hb5
      clear hs5 hst5 hg5 hh5 hne5 hb5 hw5 hb35 hbd1 hR1 hq1 hown1 hown HSN1 HSN
      go_wp2_with fail
      refine HSN2.out.mono ?_
      rintro e w6 ⟨h2, g2, rfl, hs6, hst6, hg6, hh6, hne6, hb6⟩
      have hw6 := HW5.out.trans (hb6.mono HW5.out.size)
      have hbd2 := HD4.out.bnd
      obtain ⟨hR2, -, -, hq2⟩ := SorterMade.new (w0 := w2) hs6 hst6 hh6 hne6 (Nat.le_trans HB4.out.size HB5.out.size) HB3.out.size hb6 (fun k hk => ⟨(hbd2 k hk).1, Nat.lt_of_lt_of_le (hbd2 k hk).2 HB5.out.size⟩)
      have hown2 : ∀ k, (deadLab g2 ownD k ≠ 0 ∨ k = h2) → (w3.heap.size ≤ k ∧ k < w4.heap.size) ∨ (w5.heap.size ≤ k ∧ k < w6.heap.size) := fun k hk => by
        have hold := hR2.old k hk
        rcases deadLab_own hk with e | e | e
        · exact .inl (hbd2 k e)
        · subst e; exact .inr ⟨hg6, hold⟩
        · subst e; exact .inr ⟨hh6, hold⟩
      obtain ⟨own2, hown⟩ : ∃ own2, own2 = (fun k => deadLab g2 ownD k ≠ 0 ∨ k = h2) := ⟨_, rfl⟩
      rw [← hown] at hR2 hq2
      have HOwn2 := Lib.hid (show ∀ k, own2 k → (w3.heap.size ≤ k ∧ k < w4.heap.size) ∨ (w5.heap.size ≤ k ∧ k < w6.heap.size) from fun k hk => hown2 k (by rw [hown] at hk; exact hk))
      have HR2 := Lib.hid hR2
      have HW6 := Lib.hid hw6
      have HR1b := Lib.hid (HR1.out.below hb6)
      have HSz := Lib.hid (show w.heap.size ≤ w2.heap.size ∧ w2.heap.size ≤ w3.heap.size ∧ w3.heap.size ≤ w4.heap.size ∧ w4.heap.size ≤ w5.heap.size ∧ w5.heap.size ≤ w6.heap.size ∧ mxV < w.heap.size from ⟨HW2.out.size, HB3.out.size, HB4.out.size, HB5.out.size, hb6.size, (HT.out _ (Below.refl _ _)).2.lt⟩)
      clear hs6 hst6 hg6 hh6 hne6 hb6 hw6 hbd2 hR2 hq2 hown2 hown HSN2 HR1 c0 c1 c2 c3 HD3 HD4 HC4
      go_wp2_with fail
      have hsz := HSz.out
      refine (driveSp_any F S w2.heap.size h1 g1 gc (freshS dst0) own1 _ _ i xs w6 (by omega) HR1b.out ((HI.out _ HW6.out).mono (fun k _ h e => by have := HOwn1.out k e; omega)) ((HX.out _ HW6.out).mono (fun k _ h e => by have := HOwn1.out k e; omega)) (by omega) (by omega)).mono ?_
      rintro e w7 ⟨rfl, ⟨now1, hR7, hnow1⟩, hf7⟩
      have hb7 : Below w.heap.size w w7 := Frame.belowO HW6.out (fun k e => by have := HOwn1.out k e; omega) HW6.out.size hf7
      have HW7 := Lib.hid hb7
      have HR7 := Lib.hid hR7
      have HNow1 := Lib.hid hnow1
      have HR2b := Lib.hid (HR2.out.keep2 hf7 (fun k hk e => by
        rcases hk with hk | hk
        · have h3 := HOwn2.out k hk
          rcases e with e | e
          · have h4 := HOwn1.out k e; omega
          · have h5 := HR2.out.old k hk; omega
        · subst hk
          rcases e with e | e
          · have h4 := HOwn1.out mxV e; omega
          · omega))
      have HD1 := Lib.hid (sort_drive S F i xs (by omega))
      have HSz7 := Lib.hid hf7.size
      generalize drive (spMach S F) [i] xs 100000 0 (start (spMach S F) (freshS dst0)) = D1 at HD1 HR7 ⊢
      clear hR7 hnow1 hf7 hb7 hsz
      go_wp2_with fail
      have hsz := HSz.out
      have hsz7 := HSz7.out
      refine (driveSp_any F S w3.heap.size h2 g2 gd (freshS dst0) own2 _ _ i ys w7 (by omega) HR2b.out ((HI.out _ HW7.out).mono (fun k _ h e => by have := HOwn2.out k e; omega)) ((HY.out _ HW7.out).mono (fun k _ h e => by have := HOwn2.out k e; omega)) (by omega) (by omega)).mono ?_
      rintro e w8 ⟨rfl, ⟨now2, hR8, hnow2⟩, hf8⟩
      have hb8 : Below w.heap.size w w8 := Frame.belowO HW7.out (fun k e => by have := HOwn2.out k e; omega) HW7.out.size hf8
      have HW8 := Lib.hid hb8
      have HR1c := Lib.hid (HR7.out.keep2 hf8 (fun k hk e => by
        rcases hk with hk | hk
        · have h3 := HR7.out.old k hk
          rcases e with e | e
          · have h4 := HOwn2.out k e
            rcases HNow1.out k hk with h5 | h5
            · have h6 := HOwn1.out k h5.1; omega
            · omega
          · omega
        · subst hk
          rcases e with e | e
          · have h4 := HOwn2.out mxV e; omega
          · omega))
      have hd2 := sort_drive S F i ys (by omega)
      generalize drive (spMach S F) [i] ys 100000 0 (start (spMach S F) (freshS dst0)) = D2 at hd2 hR8 ⊢
      have hd1 := HD1.out
      have e2 : D2.got.outs 0 = D1.got.outs 0 ∧ D2.got.outs 1 = D1.got.outs 1 ∧ D2.got.outs 2 = D1.got.outs 2 ∧ D2.got.outs 3 = D1.got.outs 3 := ⟨by rw [hd1.out0, hd2.out0], by rw [hd1.out 1 (by decide), hd2.out 1 (by decide)], by rw [hd1.out 2 (by decide), hd2.out 2 (by decide)], by rw [hd1.out 3 (by decide), hd2.out 3 (by decide)]⟩
      have e3 : D2.got.need = D1.got.need := by rw [hd1.need, hd2.need]
      have e4 : D2.got.err = D1.got.err := by rw [hd1.err, hd2.err]
      have e5 : D2.s.x.d = D1.s.x.d := by rw [hd1.d, hd2.d]
      have e6 : D2.s.raw = D1.s.raw := by rw [hd1.raw, hd2.raw]
      have hsm := HR1c.out.small
      obtain ⟨S0, S1, S2, S3, f0, f1, f2, f3, hlit⟩ := got_lit D1.got
      have hlit' : gotA D2.got = #[.string S0, .string S1, .string S2, .string S3, .int .i64 D1.got.need, .int .i64 D1.got.err, .int .i64 D2.got.held, .int .i64 (D2.got.taken 0), .int .i64 (D2.got.taken 1), .int .i64 (D2.got.taken 2), .int .i64 (D2.got.taken 3), .bool false] := by
        rw [← f0, ← f1, ← f2, ← f3, ← e2.1, ← e2.2.1, ← e2.2.2.1, ← e2.2.2.2, ← e3, ← e4]
        rfl
      rw [hlit, hlit']
      obtain ⟨W9, hW9⟩ : ∃ W9, W9 = (w8.alloc (.cells #[.string S0, .string S1, .string S2, .string S3, .int .i64 D1.got.need, .int .i64 D1.got.err, .int .i64 D1.got.held, .int .i64 (D1.got.taken 0), .int .i64 (D1.got.taken 1), .int .i64 (D1.got.taken 2), .int .i64 (D1.got.taken 3), .bool false] 43)).alloc (.cells #[.string S0, .string S1, .string S2, .string S3, .int .i64 D1.got.need, .int .i64 D1.got.err, .int .i64 D2.got.held, .int .i64 (D2.got.taken 0), .int .i64 (D2.got.taken 1), .int .i64 (D2.got.taken 2), .int .i64 (D2.got.taken 3), .bool false] 43) := ⟨_, rfl⟩
      have hb89 : Below w8.heap.size w8 W9 := by rw [hW9]; exact ((Below.refl _ _).alloc (Nat.le_refl _) _).alloc (by simp) _
      have hr1 := HR1c.out.below hb89
      have hr2 := hR8.below hb89
      rw [hW9] at hr1 hr2
      obtain ⟨_, _, _, oA, -, s1A, -, dA, rA, rwA, -⟩ := hr1.at_
      obtain ⟨_, _, _, oB, -, s1B, -, dB, rB, rwB, -⟩ := hr2.at_
      rw [e5] at dB
      rw [e6] at rwB
      have HCA := Lib.hid (calls_any dA)
      have HCB := Lib.hid (calls_any dB)
      have HDA := Lib.hid dA
      have HDB := Lib.hid dB
      have HSA := Lib.hid s1A
      have HSB := Lib.hid s1B
      have HRA := Lib.hid rA
      have HRB := Lib.hid rB
      have HwA := Lib.hid rwA
      have HwB := Lib.hid rwB
      have HLA := Lib.hid (live_any dA hsm.T)
      have heq := eq_outs S0 S1 S2 S3
      have heq2 := eq_outs2 S0 S1 S2 S3
      have q1 : (D1.got.need == D1.got.need) = true := by simp
      have q2 : (D1.got.err == D1.got.err) = true := by simp
      have HW9 := Lib.hid (show Below w.heap.size w W9 from HW8.out.trans (hb89.mono HW8.out.size))
      rw [hW9] at HW9
      have HSm := Lib.hid hsm
      clear hlit hlit' hf8 hb8 hd1 hd2 e2 e3 e4 e5 e6 f0 f1 f2 f3 hr1 hr2 dA dB s1A s1B rA rB rwA rwB hR8 hnow2 hW9 hb89 hsm hsz hsz7 HD1
      go_wp2_with fail
      refine HCA.out.mono ?_
      rintro e wx ⟨rfl, rfl⟩
      go_wp2_with fail
      refine HCB.out.mono ?_
      rintro e wx ⟨rfl, rfl⟩
      go_wp2_with fail
      refine HLA.out.mono ?_
      rintro e w10 ⟨v1, rfl, ho1, hb10⟩
      have HB10 := Lib.hid hb10
      have HO1 := Lib.hid ho1
      have HW10 := Lib.hid (HW9.out.trans (hb10.mono HW9.out.size))
      have HLB := Lib.hid (live_any (HDB.out.below hb10) HSm.out.T)
      clear ho1 hb10
      go_wp2_with fail
      refine HLB.out.mono ?_
      rintro e w11 ⟨v2, rfl, ho2, hb11⟩
      have hi1 := (isInts_of_owns HO1.out).below hb11
      have hi2 := isInts_of_owns ho2
      have HInt := Lib.hid (intsSp_any v1 v2 (liveL D1.s.x.d.T) w11 hi1 hi2 (by have := live_len D1.s.x.d.T 0; have := HSm.out.T; show (liveFrom 0 D1.s.x.d.T).length ≤ 1000000; omega))
      have HB11 := Lib.hid (HB10.out.trans (hb11.mono HB10.out.size))
      have HW11 := Lib.hid (HW10.out.trans (hb11.mono HW10.out.size))
      clear ho2 hb11 hi1 hi2
      go_wp2_with fail
      refine HInt.out.mono ?_
      rintro e w12 ⟨rfl, hb12⟩
      have hb912 := HB11.out.trans (hb12.mono HB11.out.size)
      have HW12 := Lib.hid (HW11.out.trans (hb12.mono HW11.out.size))
      have hra := sRaw_any (HSA.out.frame (Below.toFrame hb912 fun _ => False) (fun h => h)) (HRA.out.frame (Below.toFrame hb912 fun _ => False) (fun h => h))
      have hrb := sRaw_any (HSB.out.frame (Below.toFrame hb912 fun _ => False) (fun h => h)) (HRB.out.frame (Below.toFrame hb912 fun _ => False) (fun h => h))
      rw [HwA.out] at hra
      rw [HwB.out] at hrb
      have HRaA := Lib.hid hra
      have HRaB := Lib.hid hrb
      clear hra hrb hb912 hb12
      go_wp2_with fail
      refine HRaA.out.mono ?_
      rintro e wx ⟨rfl, rfl⟩
      go_wp2_with fail
      refine HRaB.out.mono ?_
      rintro e wx ⟨rfl, rfl⟩
      have q3 : (D1.s.raw == D1.s.raw) = true := by simp
      go_wp2_with fail
      refine (awakeSp_true _ (HT.out _ HW12.out)).mono ?_
      rintro e w13 ⟨rfl, hb13⟩
      go_wp2_with fail
      go_ret
      exact ⟨rfl, HW12.out.trans (hb13.mono HW12.out.size)⟩

end Go.Proofs.YtpgigpajpcianaaGreatDoor
