/- What FilesPlays does. -/
import Derived.Test.YtpengkkbmenkpaaFsboth
import Derived.Test.YtpengkkbmenkpaaFsown
import Derived.Test.YtpengkkbmenkpaaFslive
namespace Go.Proofs.Ytpengkkbmenkpaa
open Go.RowKit

theorem RAt.k3 {base r : Nat} {own : Nat → Nat} {S : Script} {s : DSt} {w : World} (h : RAt base r own S s w) : w.cell? ⟨r, 3, none⟩ = some (.int .i64 s.n) := by obtain ⟨_, _, _, hx⟩ := h; exact hx.c3
theorem RAt.k4 {base r : Nat} {own : Nat → Nat} {S : Script} {s : DSt} {w : World} (h : RAt base r own S s w) : w.cell? ⟨r, 4, none⟩ = some (.int .i64 s.id) := by obtain ⟨_, _, _, hx⟩ := h; exact hx.c4

/-- What holds ahead of each round. -/
structure PInv (w : World) (S : Script) (L : List FCall) (base g r k : Nat) (s : DSt) (ownD ownR : Nat → Nat) (W : World) : Prop where
  le : k ≤ L.length
  both : Both base g r ownD ownR S s s W
  did : Did (2 * k) (1024 * k) s
  lb : w.heap.size ≤ base
  bel : Below w.heap.size w W
theorem PInv.low {w : World} {S : Script} {L : List FCall} {base g r k : Nat} {s : DSt} {ownD ownR : Nat → Nat} {W : World} (h : PInv w S L base g r k s ownD ownR W) : base ≤ W.heap.size := by
  have := h.both.disk.bnd g (by rw [h.both.disk.atG]; omega)
  omega

/-- The document's disk as the law makes it. -/
theorem ref_made {base r : Nat} {S : Script} {sv : Value} {w : World} (hh : w.heap[r]? = some (.cells #[sv, .slice none 0 0, .slice none 0 0, .int .i64 0, .int .i64 0] 32 (0, 0))) (hs : IsScript (· < base) w sv S) (hb : base ≤ r) :
    RAt base r (fun k => if k = r then 1 else 0) S dst0 w :=
  ⟨sv, .slice none 0 0, .slice none 0 0, hh, hs, World.ownsRow_nil _ _ _ _, World.ownsRow_nil _ _ _ _, by simp, fun k e => by simp [Value.ownBlock] at e, fun k e => by simp [Value.ownBlock] at e, fun k hk => by
    by_cases e : k = r
    · subst e
      exact ⟨hb, (Array.getElem?_eq_some_iff.1 hh).1⟩
    · simp [e] at hk⟩

set_option maxRecDepth 100000 in
set_option maxHeartbeats 12000000 in
theorem plays_any (sv lv : Value) (S : Script) (L : List FCall) (w : World) (hS : IsScript (· < w.heap.size) w sv S) (hL : IsFCalls (· < w.heap.size) w lv L) (hS64 : Script64 S) (hL64 : Calls64 L) :
    Calls Try.prog 3 #[sv, lv] w fun e w' => e = .returned (.bool true) ∧ Below w.heap.size w w' := by
  have HS := Lib.hid hS
  have HL := Lib.hid hL
  have HS64 := Lib.hid hS64
  have HL64 := Lib.hid hL64
  obtain ⟨sa, sc, rfl, -⟩ := hS
  obtain ⟨la, lc, rfl, -⟩ := hL
  clear hS64 hL64
  go_enter Try.func3, Try.ntmps3
  go_wp2_with fail
  refine (heavy_any sa sc S _ L w HL.out).mono ?_
  rintro e w0 ⟨b, rfl, rfl, hlight⟩
  cases b with
  | true =>
    clear hlight
    go_wp2_with fail
    refine (awake_any _).mono ?_
    rintro e w1 ⟨rfl, hb⟩
    have HB := Lib.hid hb
    clear hb
    go_wp2_with fail
    go_ret
    exact ⟨rfl, HB.out⟩
  | false =>
    have hlt := hlight rfl
    have HLT := Lib.hid hlt
    clear hlight hlt
    go_upto_region 3 with fail
    have hown := World.ownsRow_made (base := w0.heap.size) (e := 51) (size := 2) w0 #[] 0 (Nat.le_refl _) (Nat.zero_le _) rfl
    have hb1 : Below w0.heap.size w0 (w0.alloc (.cells #[] 51)) := (Below.refl _ _).alloc (Nat.le_refl _) _
    have HOW := Lib.hid hown
    have HB1 := Lib.hid hb1
    have HS1 := Lib.hid (HS.out.below hb1)
    clear hown hb1
    go_upto_region 4 with (at_builtin; refine wpList_append_script rfl (.tmp 13) (.tmp 14) 22 rfl Try.underlying22 w0.heap.size _ _ S rfl HOW.out rfl HS1.out (by have := HLT.out.few; omega) (by simp) ?_; intro v2 W2 ho2 hg2)
    have hb2 : Below w0.heap.size w0 W2 := owns_below_of HOW.out HB1.out hg2
    have hs2 := isScript_of_owns ho2
    obtain ⟨va2, vc2, rfl⟩ := owns_slice ho2
    have HS2 := Lib.hid hs2
    have HB2 := Lib.hid hb2
    clear ho2 hg2 hs2 hb2 HOW HB1 HS1
    go_wp2_with fail
    refine (new_any _ S _ HS2.out (by have := HLT.out.few; omega) HS64.out).mono ?_
    rintro e W3 ⟨g, ownD, rfl, hd, hb⟩
    have HD := Lib.hid hd
    have HB3 := Lib.hid hb
    clear hd hb
    go_upto_region 6 with fail
    have hi0 : PInv w0 S L W2.heap.size g W3.heap.size 0 dst0 ownD (fun k => if k = W3.heap.size then 1 else 0) (W3.alloc (.cells #[.slice sa S.length sc, .slice none 0 0, .slice none 0 0, .int .i64 0, .int .i64 0] 32)) := by
      have hb4 : Below W3.heap.size W3 (W3.alloc (.cells #[.slice sa S.length sc, .slice none 0 0, .slice none 0 0, .int .i64 0, .int .i64 0] 32)) := (Below.refl _ _).alloc (Nat.le_refl _) _
      have hs := ((HS.out.below HB2.out).below HB3.out).below hb4
      have h2 := HB2.out.size
      refine ⟨Nat.zero_le _, ⟨HD.out.below hb4, ref_made (heap_alloc_last _ _) (hs.mono (fun k _ hk => Nat.lt_of_lt_of_le hk h2)) HB3.out.size, fun k hk => ?_⟩, did_0, h2, (HB2.out.trans (HB3.out.mono h2)).trans (hb4.mono (Nat.le_trans h2 HB3.out.size))⟩
      have := (HD.out.bnd k hk).2
      show (if k = W3.heap.size then 1 else 0) = 0
      rw [if_neg (by omega)]
    have HI0 := Lib.hid hi0
    clear hi0 HD HB2 HB3 HS2
    obtain ⟨base, hbase⟩ : ∃ base, base = W2.heap.size := ⟨_, rfl⟩
    obtain ⟨r, hr⟩ : ∃ r, r = W3.heap.size := ⟨_, rfl⟩
    rw [← hbase, ← hr] at HI0
    rw [← hr]
    generalize W3.alloc (.cells #[.slice sa S.length sc, .slice none 0 0, .slice none 0 0, .int .i64 0, .int .i64 0] 32) = W4 at HI0 ⊢
    clear hbase hr
    go_wp2_with fail
    go_loopw [8] (fun i wr => ∃ (k : Nat) (s : DSt) (ownD ownR : Nat → Nat), i = .int .i64 k ∧ PInv w0 S L base g r k s ownD ownR wr) (fun i _ => L.length - (intOf i).toNat)
    case atStart => exact ⟨0, _, _, _, rfl, HI0.out⟩
    case round =>
      clear HI0 ownD
      obtain ⟨k, s, ownD, ownR, rfl, hinv⟩ := hrel
      by_cases hkl : k < L.length
      · have q1 : (0 : Int) ≤ (k : Int) := by omega
        have q2 : (k : Int) < (L.length : Int) := by omega
        obtain ⟨c, hc⟩ : ∃ c, L[k]? = some c := ⟨L[k], by simp⟩
        obtain ⟨a', cap', e, hcs⟩ := HL.out.below hinv.bel
        obtain ⟨gb, off, bv, rfl, -, d0, d1, d2, d3, d4, hby⟩ := hcs k c hc
        cases e
        have hmem := List.mem_of_getElem? hc
        obtain ⟨i0, i1, i2, i3⟩ := HL64.out c hmem
        have hb3 := HLT.out.size c hmem
        have hlen := HLT.out.len
        have q3 : (k : Int) ≤ 300 := by omega
        clear hcs hc hmem
        have hdid := hinv.did
        have hbd : Below wr.heap.size wr wr.drew := Below.drew (Below.refl _ _)
        have hbt := hinv.both.below hbd
        have hsame := same_any hbt hdid (by omega) (by omega) (by have := HLT.out.few; omega) c bv ((hby.mono (fun x _ hx => Nat.lt_of_lt_of_le hx hinv.lb)).below hbd) (by omega) i1
        have hsm : (doS S s c).T.length ≤ 64 := ((hdid.does S c).small (by omega) (by omega)).T
        have hnx : Did (2 * (k + 1)) (1024 * (k + 1)) (doS S s c) := (hdid.does S c).mono (by omega) (by omega)
        have hlv : (liveL (doS S s c).T).length ≤ 1000000 := by have := live_small (doS S s c).T; omega
        have hbel1 : Below w0.heap.size w0 wr.drew := hinv.bel.trans (hbd.mono hinv.bel.size)
        obtain ⟨s', hs'⟩ : ∃ s', s' = doS S s c := ⟨_, rfl⟩
        rw [← hs'] at hsame hsm hnx hlv
        have HSAME := Lib.hid hsame
        have HSM := Lib.hid hsm
        have HNX := Lib.hid hnx
        have HLV := Lib.hid hlv
        have HBEL := Lib.hid hbel1
        have HLB := Lib.hid hinv.lb
        have HKL := Lib.hid hkl
        clear hinv i0 i1 i2 i3 hb3 hlen hdid hbd hbt hsame hsm hnx hlv hbel1 hs' hby hkl
        go_upto_region 9 with fail
        go_region_with (first | (go_at_call 9; refine HSAME.out.mono ?_; rintro e X1 ⟨rfl, oD, oR, hx1, hz1⟩; have HX1 := Lib.hid hx1; have HZ1 := Lib.hid (HBEL.out.trans (hz1.mono HLB.out)); clear hx1 hz1 HSAME HBEL) | (go_at_call 11; refine (live_any HX1.out.disk HSM.out).mono ?_; rintro e X2 ⟨v1, rfl, ho1, hb1⟩; have HX2 := Lib.hid (HX1.out.below hb1); have HI2 := Lib.hid (isInts_of_owns ho1); have HZ2 := Lib.hid (HZ1.out.trans (hb1.mono HZ1.out.size)); clear ho1 hb1 HX1 HZ1) | (go_at_call 12; refine (refLive_any HX2.out.ref HSM.out).mono ?_; rintro e X3 ⟨v2, rfl, ho2, hb2⟩; have HX3 := Lib.hid (HX2.out.below hb2); have HI3 := Lib.hid (HI2.out.below hb2); have HJ3 := Lib.hid (isInts_of_owns ho2); have HZ3 := Lib.hid (HZ2.out.trans (hb2.mono HZ2.out.size)); clear ho2 hb2 HX2 HZ2 HI2) | (go_at_call 10; refine (ints_any _ _ _ _ HI3.out HJ3.out HLV.out).mono ?_; rintro e X4 ⟨rfl, hb4⟩; have HX4 := Lib.hid (HX3.out.below hb4); have HZ4 := Lib.hid (HZ3.out.trans (hb4.mono HZ3.out.size)); have k3 := HX4.out.ref.k3; have k4 := HX4.out.ref.k4; clear hb4 HI3 HJ3 HX3 HZ3) | (go_at_call 13; refine (calls_any HX4.out.disk).mono ?_; rintro e X5 ⟨rfl, rfl⟩) | (go_at_call 14; refine (raw_any HX4.out.disk).mono ?_; rintro e X5 ⟨rfl, rfl⟩))
        all_goals ((go_wp2_with fail; exact ⟨⟨k + 1, s', _, _, by go_num, HKL.out, HX4.out, HNX.out, HLB.out, HZ4.out⟩, by have := HKL.out; simp [intOf]; omega⟩))
      · have q2 : ¬ (k : Int) < (L.length : Int) := by omega
        have HB := Lib.hid hinv.bel
        clear hinv hkl
        go_wp2_with fail
        refine (awake_any _).mono ?_
        rintro e w5 ⟨rfl, hb⟩
        have HB5 := Lib.hid (HB.out.trans (hb.mono HB.out.size))
        clear hb HB
        go_wp2_with fail
        go_ret
        exact ⟨rfl, HB5.out⟩

end Go.Proofs.Ytpengkkbmenkpaa
