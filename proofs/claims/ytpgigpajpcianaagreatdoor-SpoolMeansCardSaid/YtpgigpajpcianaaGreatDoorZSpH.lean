/- The chapter's first example holds: awake answers true. A disk and a sorter of one's own. -/
import Derived.Test.YtpgigpajpcianaaGreatDoorZSpF
import Derived.Test.YtpgigpajpcianaaGreatDoorZSpG
import Derived.Test.YtpgigpajpcianaaGreatDoorZDrive
import Derived.Test.YtpgigpajpcianaaGreatDoorZGlaws
import Derived.Test.YtpgigpajpcianaaGreatDoorZPD
import Derived.Test.YtpgigpajpcianaaGreatDoorZFsA
import Derived.Test.YtpgigpajpcianaaGreatDoorZGheavy
import Derived.Test.YtpgigpajpcianaaGreatDoorZIcheck
import Derived.Outline
namespace Go.Proofs.YtpgigpajpcianaaGreatDoor
open Go.RowKit

theorem driveSp_any (F : Bool) (S : Script) (base h g gd : Nat) (s : SpS) (own : Nat → Prop) (iv cv : Value) (i : Strm) (cuts : List Int) (w : World) (hbase : base ≤ w.heap.size) (hR : sortRep F S base h g gd s own w) (hI : IsStrms (fun k => ¬ own k) w iv [i]) (hC : IsInts (fun k => ¬ own k) w cv cuts) (hcl : cuts.length ≤ 1000000) (hl : i.bytes.length ≤ 1000000) :
    Calls Tryz.prog 17 #[.iface 29 (.pointer (some ⟨h, 0, none⟩)), iv, cv] w (DriveEnd own (sortRep F S base h g gd) w (drive (spMach S F) [i] cuts 100000 0 (start (spMach S F) s))) :=
  drive_any (spMach S F) base own (sortRep F S base h g gd) 29 (.pointer (some ⟨h, 0, none⟩)) _ _ _ _ _ _ _ _ _ _ (sort_driven F S base h g gd) s iv cv [i] cuts w hbase hR hI hC hcl
    (fun s own w hr => by
      obtain ⟨lab, ownD, Bs, o, h1, h2, h3, h4, h5, -⟩ := hr
      rcases h5.needs with e | e | e
      · exact .inl e
      · exact .inr (.inl e)
      · exact .inr (.inr ⟨by show 0 ≤ s.need; omega, by show s.need ≤ 3; omega, by show s.need < (([i].length : Nat) : Int); simp; omega⟩)) (fun t ht => by rw [List.mem_singleton.1 ht]; exact hl)
def SortNew (F : Bool) (S : Script) (w : World) (base h g gd : Nat) (own : Nat → Prop) (w' : World) : Prop := sortRep F S base h g gd (freshS dst0) own w' ∧ w.heap.size ≤ base ∧ base ≤ w'.heap.size ∧ ∀ k, own k → base ≤ k
theorem SorterMade.new {F : Bool} {S : Script} {base gd : Nat} {ownD : Nat → Nat} {w0 w : World} {h g : Nat} {w' : World} (hs : SortAt h g w') (hst : SpSt F S base g gd (deadLab g ownD) ownD (freshS dst0) [] [] (newO (ptrV gd)) w') (hh : w.heap.size ≤ h) (hne : h ≠ g) (hb : base ≤ w.heap.size) (hbw : w0.heap.size ≤ base) (hbl : Below w.heap.size w w') (hbd : ∀ k, ownD k ≠ 0 → base ≤ k ∧ k < w.heap.size) : SortNew F S w0 base h g gd (fun k => deadLab g ownD k ≠ 0 ∨ k = h) w' := by
  have hl : deadLab g ownD h = 0 := by
    unfold deadLab
    rw [if_neg hne, if_neg]
    intro e
    have := (hbd h e).2
    omega
  refine ⟨⟨_, ownD, [], _, hst, hs, hl, by omega, SpInv.fresh, rfl⟩, hbw, Nat.le_trans hb hbl.size, fun k hk => ?_⟩
  rcases hk with e | e
  · exact (hst.rep.bnd k e).1
  · omega
theorem sortRep.at_ {F : Bool} {S : Script} {base h g gd : Nat} {s : SpS} {own : Nat → Prop} {w : World} (hr : sortRep F S base h g gd s own w) : ∃ lab ownD Bs o, SpSt F S base g gd lab ownD s [] Bs o w ∧ SortAt h g w ∧ (∀ k, ownD k ≠ 0 → own k) ∧ DiskAt base gd ownD S s.x.d w ∧ RowAt78 F g false s.b o w ∧ o.raw = s.raw ∧ o.dv = ptrV gd ∧ o.nd = s.need ∧ ownD g = 0 ∧ SpInv F s ∧ own g ∧ own h := by
  obtain ⟨lab, ownD, Bs, o, h1, h2, h3, h4, h5, rfl⟩ := hr
  exact ⟨lab, ownD, Bs, o, h1, h2, fun k hk => .inl (by rw [h1.rep.dlab k hk]; decide), h1.rep.disk, h1.rep.row, h1.raw, h1.rep.dv, h1.nd, h1.rep.own0 (by rw [h1.rep.glab]; decide), h5, .inl (by rw [h1.rep.glab]; decide), .inr rfl⟩
theorem sortRep.keep {F : Bool} {S : Script} {base h g gd : Nat} {s : SpS} {own p : Nat → Prop} {w w' : World} (hr : sortRep F S base h g gd s own w) (hf : Frame p w w') (hp : ∀ k, own k ∨ k < base → ¬ p k) : sortRep F S base h g gd s own w' := (sort_driven F S base h g gd).keep _ _ _ _ _ hr hf hp
theorem sortRep.below {F : Bool} {S : Script} {base h g gd : Nat} {s : SpS} {own : Nat → Prop} {w w' : World} (hr : sortRep F S base h g gd s own w) (hb : Below w.heap.size w w') : sortRep F S base h g gd s own w' := hr.keep (Below.toFrame hb fun _ => False) (fun _ _ h => h)
theorem sortRep.old {F : Bool} {S : Script} {base h g gd : Nat} {s : SpS} {own : Nat → Prop} {w : World} (hr : sortRep F S base h g gd s own w) : ∀ k, own k → k < w.heap.size := (sort_driven F S base h g gd).old _ _ _ hr
theorem script_nil (w : World) : IsScript (fun _ => True) w (.slice none 0 0) [] := ⟨none, 0, rfl, fun j f h => by simp at h⟩
set_option maxRecDepth 100000 in
set_option maxHeartbeats 8000000 in
theorem awakeSp_true (w : World) (hT : MaxTab w) : Calls Tryz.prog 11 #[] w (Pm.Gives w (.bool true)) := by
  have HT := Lib.hid hT
  have hnew := new_any (.slice none 0 0) [] w (script_nil w) (by simp) (fun f hf => by cases hf)
  have HN := Lib.hid hnew
  clear hT hnew
  go_enter Tryz.func11, Tryz.ntmps11
  go_wp2_with fail
  refine HN.out.mono ?_
  rintro e w1 ⟨gd, ownD, rfl, hd, hb1⟩
  have hlow : mxV < w.heap.size := HT.out.2.lt
  have hbd := hd.bnd
  have hsn := spoolNew_yes 11 false (.slice none 0 0) (.slice none 0 0) [] [] w1 (HT.out.below hb1).1 (HT.out.below hb1).2 (pm_nil w1) (pm_nil w1) (by decide) hd hlow hb1.size
  simp only [Bool.false_eq_true, if_false] at hsn
  unfold Pm.parV ptrV at hsn
  have HSN := Lib.hid hsn
  have HB1 := Lib.hid hb1
  have HBd := Lib.hid hbd
  clear hsn hd hb1 hbd hlow HN
  go_wp2_with fail
  refine HSN.out.mono ?_
  rintro e w2 ⟨h, g, rfl, hs, hst, hg, hh, hne, hb2⟩
  obtain ⟨hR, hq1, hq2, hq3⟩ := SorterMade.new (w0 := w) hs hst hh hne HB1.out.size (Nat.le_refl _) hb2 HBd.out
  have hbw2 : Below w.heap.size w w2 := HB1.out.trans (hb2.mono HB1.out.size)
  have HB2 := Lib.hid hbw2
  obtain ⟨own, hown⟩ : ∃ own, own = (fun k => deadLab g ownD k ≠ 0 ∨ k = h) := ⟨_, rfl⟩
  rw [← hown] at hR hq3
  have hold := hR.old
  have HR := Lib.hid hR
  have HOld := Lib.hid hold
  have HG := Lib.hid hq3
  have hw2 := hbw2.size
  have kc1 := Lib.run_convert_bytes_const (P := Tryz.prog) w2 22 5 #[.int .u8 98, .int .u8 10, .int .u8 97, .int .u8 10, .int .u8 99, .int .u8 10, .int .u8 97] 7 7 Tryz.underlying22 Tryz.underlying5
  clear hs hst hg hh hne hb2 hR hq1 hq2 hq3 hold hown hbw2 HSN
  go_wp2_with fail
  have hb3 : ∀ o1 o2 o3, Below w2.heap.size w2 (((w2.alloc o1).alloc o2).alloc o3) := fun o1 o2 o3 => (((Below.refl _ _).alloc (Nat.le_refl _) _).alloc (by simp) _).alloc (by simp; omega) _
  have hRd := HR.out.below (hb3 (.cells #[.int .u8 98, .int .u8 10, .int .u8 97, .int .u8 10, .int .u8 99, .int .u8 10, .int .u8 97] 5 (7, 8)) (.cells #[.slice (some ⟨w2.heap.size, 0, none⟩) 7 7, .bool true, .int .i64 0, .int .i64 0, .int .i64 0] 59) (.cells #[.int .i64 3] 3))
  have hst := strms_new (w2.alloc (.cells #[.int .u8 98, .int .u8 10, .int .u8 97, .int .u8 10, .int .u8 99, .int .u8 10, .int .u8 97] 5 (7, 8))) (.slice (some ⟨w2.heap.size, 0, none⟩) 7 7) exSp (fun k => ¬ own k) (fun h => by have := HOld.out _ h; simp at this; omega) ((bytes_new w2 [98, 10, 97, 10, 99, 10, 97] (7, 8)).mono (fun k _ h e => by have := HOld.out _ e; omega)) (0, 0)
  have hst2 := hst.below (((Below.refl _ _).alloc (Nat.le_refl _) (.cells #[.int .i64 3] 3)))
  have hin := ints_new ((w2.alloc (.cells #[.int .u8 98, .int .u8 10, .int .u8 97, .int .u8 10, .int .u8 99, .int .u8 10, .int .u8 97] 5 (7, 8))).alloc (.cells #[.slice (some ⟨w2.heap.size, 0, none⟩) 7 7, .bool true, .int .i64 0, .int .i64 0, .int .i64 0] 59)) 3 (fun k => ¬ own k) (fun h => by have := HOld.out _ h; simp at this; omega) (0, 0)
  rw [World.size_alloc] at hst2
  rw [World.size_alloc, World.size_alloc] at hin
  refine (driveSp_any false [] w.heap.size h g gd (freshS dst0) own _ _ exSp [3] _ (by simp; omega) hRd hst2 hin (by simp) (by simp [exSp])).mono ?_
  rintro e w3 ⟨rfl, ⟨now, hR3, hnow⟩, hf3⟩
  have hb3' : Below w.heap.size w w3 := Frame.belowO (HB2.out.trans ((hb3 _ _ _).mono HB2.out.size)) HG.out (by simp; omega) hf3
  have hd := sort_drive [] false exSp [3] (by simp [exSp])
  obtain ⟨x0, x1, x2, x3⟩ := sort_ex
  generalize drive (spMach [] false) [exSp] [3] 100000 0 (start (spMach [] false) (freshS dst0)) = D at hd hR3 ⊢
  have hg : gotA D.got = #[.string ⟨#[97, 10, 97, 10, 98, 10, 99, 10]⟩, .string ByteArray.empty, .string ByteArray.empty, .string ByteArray.empty, .int .i64 (-1), .int .i64 0, .int .i64 D.got.held, .int .i64 (D.got.taken 0), .int .i64 (D.got.taken 1), .int .i64 (D.got.taken 2), .int .i64 (D.got.taken 3), .bool false] := by
    rw [gotA, gotL, hd.out0, hd.out 1 (by decide), hd.out 2 (by decide), hd.out 3 (by decide), hd.need, hd.err, x0, x1, x2]
    rfl
  rw [hg]
  have hR4 := hR3.below (w' := w3.alloc (.cells #[.string ⟨#[97, 10, 97, 10, 98, 10, 99, 10]⟩, .string ByteArray.empty, .string ByteArray.empty, .string ByteArray.empty, .int .i64 (-1), .int .i64 0, .int .i64 D.got.held, .int .i64 (D.got.taken 0), .int .i64 (D.got.taken 1), .int .i64 (D.got.taken 2), .int .i64 (D.got.taken 3), .bool false] 43)) ((Below.refl _ _).alloc (Nat.le_refl _) _)
  obtain ⟨lab4, own4, Bs4, o4, -, -, -, hdk, -⟩ := hR4.at_
  have hcl := calls_any hdk
  rw [hd.d, x3] at hcl
  have HCl := Lib.hid hcl
  have HB3 := Lib.hid hb3'
  have hsz := hb3'.size
  clear hRd hst hst2 hin hb3 hf3 hb3' hd hg kc1 x0 x1 x2 x3 hR3 hR4 hdk hcl hnow
  go_wp2_with fail
  refine HCl.out.mono ?_
  rintro e w4 ⟨rfl, rfl⟩
  go_wp2_with fail
  go_ret
  exact ⟨rfl, HB3.out.alloc hsz _⟩
end Go.Proofs.YtpgigpajpcianaaGreatDoor

namespace Go.Proofs.YtpgigpajpcianaaGreatDoor
open Go.RowKit

def heavyS (A B : List UInt8) (ins : List Strm) (S : Script) (cc : List (List Int)) : Bool :=
  decide (1000 < A.length) || decide (1000 < B.length) || decide (8 < ins.length) || decide (100 < S.length) || ins.any (fun t => decide (4500 < t.bytes.length)) || cc.any (fun c => decide (3000 < c.length))
theorem heavyS_no {A B : List UInt8} {ins : List Strm} {S : Script} {cc : List (List Int)} (h : heavyS A B ins S cc = false) : A.length ≤ 1000 ∧ B.length ≤ 1000 ∧ ins.length ≤ 8 ∧ S.length ≤ 100 ∧ (∀ t ∈ ins, t.bytes.length ≤ 4500) ∧ ∀ c ∈ cc, c.length ≤ 3000 := by
  simp only [heavyS, Bool.or_eq_false_iff, decide_eq_false_iff_not, List.any_eq_false, decide_eq_true_eq] at h
  obtain ⟨⟨⟨⟨⟨h1, h2⟩, h3⟩, h4⟩, h5⟩, h6⟩ := h
  exact ⟨by omega, by omega, by omega, by omega, fun t ht => by have := h5 t ht; omega, fun c hc => by have := h6 c hc; omega⟩
set_option maxRecDepth 100000 in
set_option maxHeartbeats 4000000 in
theorem heavySp_any {p q r : Nat → Prop} (k n : Int) (va vb iv sv cv : Value) (A B : List UInt8) (ins : List Strm) (S : Script) (cc : List (List Int)) (w : World) (hA : Pm.IsBytes w va A) (hB : Pm.IsBytes w vb B) (hI : IsStrms p w iv ins) (hS : IsScript r w sv S) (hC : IsIntss q w cv cc) (hcl : cc.length ≤ 1000000) :
    Calls Tryz.prog 10 #[Pm.parV k n va vb, iv, sv, cv] w (Pm.Gives w (.bool (heavyS A B ins S cc))) := by
  obtain ⟨a, ca, rfl, -, -⟩ := hA
  obtain ⟨b, cb, rfl, -, -⟩ := hB
  obtain ⟨E, hE⟩ : ∃ E, E = heavyS A B ins S cc := ⟨_, rfl⟩
  rw [← hE]
  have HE := Lib.hid hE
  clear hE
  have hb0 : Below w.heap.size w (w.alloc (.cells #[.int .i64 k, .int .i64 n, .slice a A.length ca, .slice b B.length cb] 24)) := (Below.refl _ _).alloc (Nat.le_refl _) _
  have HB0 := Lib.hid hb0
  have HI := Lib.hid (hI.below hb0)
  have HC := Lib.hid (hC.below hb0)
  obtain ⟨ai, ci, rfl, -⟩ := hI
  obtain ⟨sa, sc, rfl, -⟩ := hS
  obtain ⟨ac, cc', rfl, -⟩ := hC
  unfold Pm.parV
  clear hb0
  by_cases h1 : (1000 : Int) < (A.length : Int)
  · obtain rfl : E = true := by rw [HE.out, heavyS, decide_eq_true (show 1000 < A.length by omega)]; rfl
    go_enter Tryz.func10, Tryz.ntmps10
    go_wp2
    go_ret
    exact ⟨rfl, HB0.out⟩
  · by_cases h2 : (1000 : Int) < (B.length : Int)
    · obtain rfl : E = true := by rw [HE.out, heavyS, decide_eq_true (show 1000 < B.length by omega)]; simp
      go_enter Tryz.func10, Tryz.ntmps10
      go_wp2
      go_ret
      exact ⟨rfl, HB0.out⟩
    · by_cases h3 : (8 : Int) < (ins.length : Int)
      · obtain rfl : E = true := by rw [HE.out, heavyS, decide_eq_true (show 8 < ins.length by omega)]; simp
        go_enter Tryz.func10, Tryz.ntmps10
        go_wp2
        go_ret
        exact ⟨rfl, HB0.out⟩
      · by_cases h4 : (100 : Int) < (S.length : Int)
        · obtain rfl : E = true := by rw [HE.out, heavyS, decide_eq_true (show 100 < S.length by omega)]; simp
          go_enter Tryz.func10, Tryz.ntmps10
          go_wp2
          go_ret
          exact ⟨rfl, HB0.out⟩
        · have HE2 := Lib.hid (show E = (ins.any (fun t => decide (4500 < t.bytes.length)) || cc.any (fun c => decide (3000 < c.length))) by
            rw [HE.out, heavyS, decide_eq_false (show ¬ 1000 < A.length by omega), decide_eq_false (show ¬ 1000 < B.length by omega), decide_eq_false (show ¬ 8 < ins.length by omega), decide_eq_false (show ¬ 100 < S.length by omega)]
            simp)
          clear HE
          go_enter Tryz.func10, Tryz.ntmps10
          go_wp2
          have HB1 := HB0.out
          have HI1 := HI.out
          have HC1 := HC.out
          clear HB0 HI HC
          generalize w.alloc (.cells #[.int .i64 k, .int .i64 n, .slice a A.length ca, .slice b B.length cb] 24) = W at HB1 HI1 HC1 ⊢
          have HB0 := Lib.hid HB1
          have HI := Lib.hid HI1
          have HC := Lib.hid HC1
          clear HB1 HI1 HC1
          go_loop [9] (fun i => ∃ j : Nat, i = .int .i64 j ∧ j ≤ ins.length ∧ (ins.take j).any (fun t => decide (4500 < t.bytes.length)) = false) (fun i => ins.length - (intOf i).toNat)
          case atStart => exact ⟨0, rfl, Nat.zero_le _, by simp⟩
          case round =>
            obtain ⟨j, rfl, hj, hn⟩ := hrel
            have HN := Lib.hid hn
            clear hn
            by_cases hlt : j < ins.length
            · obtain ⟨t, ht⟩ : ∃ t, ins[j]? = some t := ⟨ins[j], by simp⟩
              obtain ⟨_, _, e, hc⟩ := HI.out
              cases e
              obtain ⟨gb, off, bv, rfl, _, c0, _, _, _, _, hbv⟩ := hc j t ht
              obtain ⟨ab, cb2, rfl, -, -⟩ := hbv
              have HT := Lib.hid ht
              have g1 : (0 : Int) ≤ (j : Int) := by omega
              have g2 : (j : Int) < (ins.length : Int) := by omega
              clear ht hc
              by_cases hh : (4500 : Int) < (t.bytes.length : Int)
              · obtain rfl : E = true := by rw [HE2.out, any_at (fun t : Strm => decide (4500 < t.bytes.length)) HT.out (by simp; omega)]; rfl
                go_wp2
                go_ret
                exact ⟨rfl, HB0.out⟩
              · go_wp2
                go_round
                case rel => exact ⟨j + 1, by go_num, by omega, any_take _ HT.out HN.out (by simp; omega)⟩
                case measure => simp [intOf]; omega
            · obtain rfl : j = ins.length := by omega
              have g2 : ¬ (ins.length : Int) < (ins.length : Int) := by omega
              have HE3 := Lib.hid (show E = cc.any (fun c => decide (3000 < c.length)) by
                have := HN.out
                rw [List.take_length] at this
                rw [HE2.out, this]
                rfl)
              clear HN HE2 hlt
              go_wp2
              go_loop [10] (fun i => ∃ j : Nat, i = .int .i64 j ∧ j ≤ cc.length ∧ (cc.take j).any (fun c => decide (3000 < c.length)) = false) (fun i => cc.length - (intOf i).toNat)
              case atStart => exact ⟨0, rfl, Nat.zero_le _, by simp⟩
              case round =>
                obtain ⟨j, rfl, hj, hn⟩ := hrel
                have HN := Lib.hid hn
                clear hn
                by_cases hlt : j < cc.length
                · obtain ⟨t, ht⟩ : ∃ t, cc[j]? = some t := ⟨cc[j], by simp⟩
                  obtain ⟨_, _, e, hc⟩ := HC.out
                  cases e
                  obtain ⟨gb, off, bv, rfl, _, c0, hbv⟩ := hc j t ht
                  obtain ⟨ab, cb2, rfl, -⟩ := hbv
                  have HT := Lib.hid ht
                  have g1 : (0 : Int) ≤ (j : Int) := by omega
                  have g3 : (j : Int) < (cc.length : Int) := by omega
                  clear ht hc
                  by_cases hh : (3000 : Int) < (t.length : Int)
                  · obtain rfl : E = true := by rw [HE3.out, any_at (fun c : List Int => decide (3000 < c.length)) HT.out (by simp; omega)]
                    go_wp2
                    go_ret
                    exact ⟨rfl, HB0.out⟩
                  · go_wp2
                    go_round
                    case rel => exact ⟨j + 1, by go_num, by omega, any_take _ HT.out HN.out (by simp; omega)⟩
                    case measure => simp [intOf]; omega
                · obtain rfl : j = cc.length := by omega
                  have g3 : ¬ (cc.length : Int) < (cc.length : Int) := by omega
                  have HE4 := Lib.hid (show E = false by
                    have := HN.out
                    rw [List.take_length] at this
                    rw [HE3.out, this])
                  clear HN HE3 hlt
                  go_wp2
                  go_ret
                  exact ⟨by rw [HE4.out]; rfl, HB0.out⟩
end Go.Proofs.YtpgigpajpcianaaGreatDoor

namespace Go.Proofs.YtpgigpajpcianaaGreatDoor
open Go.RowKit

def fitS (k n : Int) (A B : List UInt8) (ins : List Strm) : Bool := decide (Pm.checkE k n A B = 0) && decide (k = 11) && decide (ins.length = 1)
theorem sortPar {k n : Int} {A B : List UInt8} (h1 : Pm.checkE k n A B = 0) (hk : k = 11) : ∃ F : Bool, n = (if F then 1 else 0) ∧ takeE 11 k n A B = 0 ∧ Pm.boundE k n A B = 320 := by
  subst hk
  have hf : Pm.fits (Pm.kindOf 11) n A B = true := by
    have h1 := h1
    unfold Pm.checkE at h1
    rw [if_neg (by omega)] at h1
    by_cases hf : Pm.fits (Pm.kindOf 11) n A B = false
    · rw [show (11 : Int).toNat = 11 from rfl, if_pos hf] at h1
      cases h1
    · simpa using hf
  have hb : Pm.boundE 11 n A B = 320 := by rw [Pm.boundE, if_pos h1]; simp [Pm.kindOf, Pm.kinds]
  simp [Pm.fits, Pm.kindOf, Pm.kinds, Pm.mayBe] at hf
  refine ⟨decide (n = 1), ?_, by rw [takeE, if_neg (by rw [h1]; simp), if_neg (by simp)], hb⟩
  by_cases h : n = 1
  · simp [h]
  · rw [decide_eq_false h]
    simp only [Bool.false_eq_true, if_false]
    omega
theorem fitS_yes {k n : Int} {A B : List UInt8} {ins : List Strm} (h : fitS k n A B ins = true) : k = 11 ∧ ∃ F : Bool, n = (if F then 1 else 0) ∧ takeE 11 k n A B = 0 ∧ Pm.boundE k n A B = 320 ∧ Pm.checkE k n A B = 0 ∧ ∃ i, ins = [i] := by
  simp only [fitS, Bool.and_eq_true, decide_eq_true_eq] at h
  obtain ⟨⟨h1, hk⟩, h3⟩ := h
  obtain ⟨F, q1, q2, q3⟩ := sortPar h1 hk
  exact ⟨hk, F, q1, q2, q3, h1, List.length_eq_one_iff.1 h3⟩
set_option maxRecDepth 100000 in
set_option maxHeartbeats 2000000 in
theorem fitSp_any (k n : Int) (hn : Pm.Fits n) (va vb iv : Value) (A B : List UInt8) (ins : List Strm) {p : Nat → Prop} (w : World) (hA : Pm.IsBytes w va A) (hB : Pm.IsBytes w vb B) (hI : IsStrms p w iv ins) (sA : A.length ≤ 2000) :
    Calls Tryz.prog 16 #[Pm.parV k n va vb, iv] w (Pm.Gives w (.bool (fitS k n A B ins))) := by
  have HA := Lib.hid (show ∀ o1, Pm.IsBytes (w.alloc o1) va A from fun o1 => hA.below ((Below.refl _ _).alloc (Nat.le_refl _) _))
  have HB := Lib.hid (show ∀ o1, Pm.IsBytes (w.alloc o1) vb B from fun o1 => hB.below ((Below.refl _ _).alloc (Nat.le_refl _) _))
  have HB0 := Lib.hid (show ∀ o1, Below w.heap.size w (w.alloc o1) from fun o1 => (Below.refl _ _).alloc (Nat.le_refl _) _)
  obtain ⟨ai, ci, rfl, -⟩ := hI
  clear hA hB
  obtain ⟨E, hE⟩ : ∃ E : Int, E = Pm.checkE k n A B := ⟨_, rfl⟩
  have key : ∀ P : Bool, P = fitS k n A B ins → Calls Tryz.prog 16 #[Pm.parV k n va vb, .slice ai ins.length ci] w (Pm.Gives w (.bool P)) := by
    intro P hP
    rw [fitS, ← hE] at hP
    have HP := Lib.hid hP
    have HE := Lib.hid hE
    clear hP hE
    unfold Pm.parV
    by_cases h0 : E = 0
    · subst h0
      by_cases hk : k = 11
      · subst hk
        by_cases hl : ins.length = 1
        · obtain rfl : P = true := by rw [HP.out]; simp [hl]
          have g3 : ((ins.length : Int) == 1) = true := by simp; omega
          clear hl
          go_enter Tryz.func16, Tryz.ntmps16
          go_wp2_with fail
          refine (Pm.refCheck_any 11 n hn va vb A B _ (HA.out _) (HB.out _) sA).mono ?_
          rintro e w1 ⟨rfl, hb⟩
          rw [← HE.out]
          have q0 : w1.cell? ⟨w.heap.size, 0, none⟩ = some (.int .i64 11) := Pm.Below.cell hb (by simp)
          have HW := Lib.hid ((HB0.out _).trans (hb.mono (HB0.out _).size))
          clear hb
          go_wp2_with fail
          go_ret
          exact ⟨rfl, HW.out⟩
        · obtain rfl : P = false := by rw [HP.out]; simp [hl]
          have g3 : ((ins.length : Int) == 1) = false := by simp; omega
          clear hl
          go_enter Tryz.func16, Tryz.ntmps16
          go_wp2_with fail
          refine (Pm.refCheck_any 11 n hn va vb A B _ (HA.out _) (HB.out _) sA).mono ?_
          rintro e w1 ⟨rfl, hb⟩
          rw [← HE.out]
          have q0 : w1.cell? ⟨w.heap.size, 0, none⟩ = some (.int .i64 11) := Pm.Below.cell hb (by simp)
          have HW := Lib.hid ((HB0.out _).trans (hb.mono (HB0.out _).size))
          clear hb
          go_wp2_with fail
          go_ret
          exact ⟨rfl, HW.out⟩
      · obtain rfl : P = false := by rw [HP.out]; simp [hk]
        have g1 : (k == 11) = false := by simpa using hk
        clear hk
        go_enter Tryz.func16, Tryz.ntmps16
        go_wp2_with fail
        refine (Pm.refCheck_any k n hn va vb A B _ (HA.out _) (HB.out _) sA).mono ?_
        rintro e w1 ⟨rfl, hb⟩
        rw [← HE.out]
        have q0 : w1.cell? ⟨w.heap.size, 0, none⟩ = some (.int .i64 k) := Pm.Below.cell hb (by simp)
        have HW := Lib.hid ((HB0.out _).trans (hb.mono (HB0.out _).size))
        clear hb
        go_wp2_with fail
        go_ret
        exact ⟨rfl, HW.out⟩
    · obtain rfl : P = false := by rw [HP.out]; simp [h0]
      have g1 : (E == 0) = false := by simpa using h0
      clear h0
      go_enter Tryz.func16, Tryz.ntmps16
      go_wp2_with fail
      refine (Pm.refCheck_any k n hn va vb A B _ (HA.out _) (HB.out _) sA).mono ?_
      rintro e w1 ⟨rfl, hb⟩
      rw [← HE.out]
      have HW := Lib.hid ((HB0.out _).trans (hb.mono (HB0.out _).size))
      clear hb
      go_wp2_with fail
      go_ret
      exact ⟨rfl, HW.out⟩
  exact key _ rfl
end Go.Proofs.YtpgigpajpcianaaGreatDoor
