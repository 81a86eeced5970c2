/- What Feed of a machine of lines does, where it is due. -/
import Derived.Test.YtfdgkjmdbcehiaaDoorIfeed
import Derived.Deep.RegionWith
import Derived.Outline
namespace Go.Proofs.YtfdgkjmdbcehiaaDoor
open Go.RowKit

def lenOf : Value → Nat
  | .slice _ n _ => n
  | _ => 0
structure FeedInv {U : Type} (M : LM U) (g : Nat) (s : LS U) (x : List UInt8) (w : World) (bv ov : Value) (r : List UInt8) (O : Outs) (s' : LS U) (wr : World) : Prop where
  bytes : IsBytes (fun k => k ≠ g ∧ k < w.heap.size) wr bv r
  rep : M.Rep g s' wr
  own : OwnOuts w.heap.size wr ov O
  fr : Frame (· = g) w wr
  eq : feedB M.tell x s = ((feedB M.tell r s').1, O ++ (feedB M.tell r s').2.1, (feedB M.tell r s').2.2)
  le : O.length + r.length * 40 ≤ 1280
def MoreInv {U : Type} (M : LM U) (g : Nat) (s : LS U) (x : List UInt8) (w : World) (bv ov : Value) (wr : World) : Prop := ∃ r O s', FeedInv M g s x w bv ov r O s' wr
theorem IsBytes.len {p : Nat → Prop} {w : World} {v : Value} {bs : List UInt8} (h : IsBytes p w v bs) : lenOf v = bs.length := by
  obtain ⟨a, cap, rfl, -⟩ := h
  rfl

theorem owns_slice {w : World} {base : Nat} {e : TypeId} {size : Nat} {v : Value} {n : Nat} {xs : List Value} (h : w.ownsRow base e size v n xs) : ∃ a c, v = .slice a n c := by
  rcases h.2 with ⟨rfl, rfl⟩ | ⟨g, cap, cur, rfl, _⟩
  · exact ⟨_, _, rfl⟩
  · exact ⟨_, _, rfl⟩

theorem owns_text {base : Nat} {W : World} {v : Value} {L : Lines} (h : W.ownsRow base 9 1 v L.length (L.map strV)) (h1 : 1 ≤ L.length) : ∃ g cap, v = .slice (some ⟨g, 0, none⟩) L.length cap ∧ ∀ j b, L[j]? = some b → W.cell? ⟨g, j, none⟩ = some (strV b) := by
  have h' := h
  rcases h.2 with ⟨_, h0⟩ | ⟨g, cap, cur, rfl, _⟩
  · omega
  · refine ⟨g, cap, rfl, fun j b hj => ?_⟩
    have := World.ownsRow.cells h' (g := g) rfl j (strV b) (by simp [hj])
    rwa [Addr.add_mid, Nat.zero_add] at this

set_option maxRecDepth 100000 in
set_option maxHeartbeats 8000000 in
theorem feed_yes {U : Type} (M : LM U) (g : Nat) (s : LS U) (v : Value) (x : List UInt8) (w : World) (h : M.Rep g s w) (hT : M.Tells g) (hF : Enters M.F) (hK : ∀ u y, (M.tell u y).2.1.length ≤ 40) (hl : s.live = true) (hB : IsBytes (· ≠ g) w v x) (h1 : 1 ≤ x.length) (h32 : x.length ≤ 32) :
    Calls Tryd.prog 68 #[.pointer (some ⟨g, 0, none⟩), .int .i64 0, v] w (M.Gives g w (feedB M.tell x s).2.1 (feedB M.tell x s).2.2 (feedB M.tell x s).1) := by
  have HN := Lib.hid h.need
  have HT := Lib.hid hT
  have HF := Lib.hid hF
  have HK := Lib.hid hK
  have HE := Lib.hid (show feedE (needOf s) 0 x.length = 0 by unfold feedE; rw [show endE (needOf s) 0 = 0 by simp [endE, needOf, hl], if_neg (by simp), if_neg (by omega)])
  have hI : MoreInv M g s x w v (.slice none 0 0) w := ⟨x, [], s, hB.mono (fun k hk h => ⟨h, hk⟩), h, OwnOuts.nil _ _, Frame.refl _ _, by simp, by simp; omega⟩
  have HI := Lib.hid hI
  have hlt := h.spl.lt
  obtain ⟨a, cap, rfl, -, -⟩ := hB
  clear h hT hF hK hl hI
  go_enter Tryd.func68, Tryd.ntmps68
  go_wp2_with fail
  refine (mayFeed_any 0 a x.length cap HN.out).mono ?_
  rintro e w' ⟨rfl, rfl⟩
  rw [HE.out]
  go_wp2
  go_loopw [2, 9] (fun bv ov wr => ∃ b' o', b' = bv ∧ o' = ov ∧ MoreInv M g s x w b' o' wr) (fun bv _ _ => lenOf bv)
  case atStart => exact ⟨_, _, rfl, rfl, HI.out⟩
  case round =>
    clear HI HN HE
    obtain ⟨bv, ov, rfl, rfl, r, O, s', hI⟩ := hrel
    have HI := Lib.hid hI
    obtain ⟨a', cap', rfl, hcap, -⟩ := hI.bytes
    have hle := hI.le
    clear hI
    by_cases hr : r = []
    · subst hr
      go_wp2
      go_ret2
      refine ⟨ov, ?_, ?_, ?_, HI.out.fr⟩
      · rw [HI.out.eq]; rfl
      · rw [HI.out.eq]; simpa [feedB] using HI.out.own
      · rw [HI.out.eq]; exact HI.out.rep
    · have hpos : 0 < (r.length : Int) := by have := List.length_pos_iff.2 hr; omega
      have HR := Lib.hid hr
      clear hr
      by_cases hl : s'.live = true
      · have HL := Lib.hid hl
        have HN := Lib.hid (show needOf s' = 0 by simp [needOf, hl])
        have HRo := Lib.hid (round_of M.tell r s' hl HI.out.rep.spl.le)
        have hth := through_le r
        have htp := through_pos HR.out
        clear hl
        obtain ⟨n, hn⟩ : ∃ n, n = through r := ⟨_, rfl⟩
        rw [← hn] at hth htp
        have HNN := Lib.hid hn
        clear hn
        obtain ⟨A, hA⟩ : ∃ A, A = if cap' = n then a' else a'.map fun x => x.add n := ⟨_, rfl⟩
        have HA := Lib.hid hA
        have hbt := bytes_take HI.out.bytes hth
        have HBT := Lib.hid hbt
        clear hbt hA
        have q1 : (0 : Int) ≤ (n : Int) := by omega
        have q2 : (n : Int) ≤ (r.length : Int) := by omega
        have q3 : (n : Int) ≤ (cap' : Int) := by omega
        go_wp2_with fail
        refine (need_any HI.out.rep.need).mono ?_
        rintro e w' ⟨rfl, rfl⟩
        rw [HN.out]
        go_wp2_with fail
        refine (through_any _ r _ (HI.out.bytes.mono (fun _ _ _ => trivial)) (by omega)).mono ?_
        rintro e w' ⟨rfl, rfl⟩
        rw [← HNN.out]
        have hfl := (HI.out.rep.live HL.out).1
        have hspl : Spl g 1 M.T [.int .i64 (needOf s')] (M.post g s'.u) false s'.b wr.drew := by
          have h := hfl ▸ HI.out.rep.spl
          exact ⟨h.heap, h.off, h.le, h.fail⟩
        have hcut := cut_any (.slice a' n cap') (r.take n) hspl ((HBT.out.mono (fun _ _ h => h.1)).below (Below.refl _ _).drew) (by simp; omega)
        have HRep := Lib.hid HI.out.rep
        rcases HRo.out with ⟨hc, hf⟩ | ⟨d, hc, hd, hf⟩ | ⟨l, hc, hl2, hf⟩
        · rw [← HNN.out] at hc
          rw [hc] at hcut
          have HC := Lib.hid hcut
          have HFe := Lib.hid hf
          have HFl := Lib.hid hfl
          clear hcut hc hf hfl hspl HRo
          go_wp2_with fail
          go_region_with (go_at_call 76; refine HC.out.mono ?_; rintro e w1 ⟨xv, rfl, ho, hs1, hf1⟩; obtain ⟨ax, cx, rfl⟩ := owns_slice ho; have HS1 := Lib.hid hs1; have HF1 := Lib.hid hf1; clear hs1 hf1 ho)
          have HF1 := Lib.hid ((Frame.refl (· = g) wr).drew.trans HF1.out)
          have hR1 : M.Rep g ⟨false, true, [], s'.u⟩ (w1.setCell ⟨g, 0, none⟩ (.int .i64 (-1))) := by
            refine ⟨⟨?_, rfl, by simp, fun _ => rfl⟩, fun h => by cases h⟩
            rw [setCell_row HS1.out.heap, rowA_need]
            rfl
          have hc0 : w1.cell? ⟨g, 0, none⟩ = some (.int .i64 (needOf s')) := by rw [cell_of_row _ _ _ _ _ _ HS1.out.heap]; rfl
          have hz0 : w1.frozen? ⟨g, 0, none⟩ = false := by simp [World.frozen?, HS1.out.heap]
          have HR1 := Lib.hid hR1
          have HC0 := Lib.hid hc0
          have HZ0 := Lib.hid hz0
          clear hR1 hc0 hz0
          go_wp2_with fail
          refine (stop_any HC0.out HZ0.out).mono ?_
          rintro e w2 ⟨rfl, rfl⟩
          go_wp2_with fail
          go_ret2
          have hfr := HF1.out.trans (Frame.cell w1 ⟨g, 0, none⟩ (.int .i64 (-1)))
          refine ⟨ov, ?_, ?_, ?_, HI.out.fr.trans hfr⟩
          · rw [HI.out.eq, HFe.out]; rfl
          · rw [HI.out.eq, HFe.out]; simpa using HI.out.own.frame hfr (fun k hk _ => by omega)
          · rw [HI.out.eq, HFe.out]; exact HR1.out
        · rw [← HNN.out] at hc hf
          rw [hc] at hcut
          have HC := Lib.hid hcut
          have HFe := Lib.hid hf
          have HFl := Lib.hid hfl
          have HA2 := Lib.hid (show ((if cap' = n then a' else a'.map fun x => x.add n) : Option Addr) = A from HA.out.symm)
          clear hcut hc hf hfl hspl HRo
          go_wp2_with fail
          go_region_with (go_at_call 76; refine HC.out.mono ?_; rintro e w1 ⟨xv, rfl, ho, hs1, hf1⟩; obtain ⟨ax, cx, rfl⟩ := owns_slice ho; have HS1 := Lib.hid hs1; have HF1 := Lib.hid hf1; clear hs1 hf1 ho)
          have HF1 := Lib.hid ((Frame.refl (· = g) wr).drew.trans HF1.out)
          have hR1 : M.Rep g ⟨true, s'.fail, d, s'.u⟩ w1 := by
            have h := HRep.out.with HS1.out (fun _ => rfl)
            rw [HL.out] at h
            rw [HFl.out]
            exact h
          have HR1 := Lib.hid hR1
          clear hR1
          go_wp2_with fail
          refine wp_loop_rounds 1 ?_
          rw [rounds_succ]
          go_wp2_with fail
          have hb1 := (bytes_drop HI.out.bytes hth HA.out).frame HF1.out (fun _ hk => hk.1)
          refine ⟨⟨_, _, rfl, rfl, r.drop n, O, _, ?_, HR1.out, HI.out.own.frame HF1.out (fun k hk _ => by omega), HI.out.fr.trans HF1.out, ?_, ?_⟩, ?_⟩
          · rw [HA2.out]; exact hb1
          · rw [HI.out.eq, HFe.out, HFl.out]
          · simp only [List.length_drop]; omega
          · simp only [lenOf]; omega
        · rw [← HNN.out] at hc hf
          rw [hc] at hcut
          have HC := Lib.hid hcut
          have HFe := Lib.hid hf
          have HFl := Lib.hid hfl
          have HA2 := Lib.hid (show ((if cap' = n then a' else a'.map fun x => x.add n) : Option Addr) = A from HA.out.symm)
          have hent := HF.out
          unfold Enters at hent
          have HEnt := Lib.hid hent
          clear hcut hc hf hfl hspl HRo hent
          go_wp2_with fail
          go_region_with (go_at_call 76; refine HC.out.mono ?_; rintro e w1 ⟨xv, rfl, ho, hs1, hf1⟩; obtain ⟨gx, cx, rfl, hx⟩ := owns_text ho (Nat.le_refl 1); have HX := Lib.hid hx; have HS1 := Lib.hid hs1; have HF1 := Lib.hid hf1; clear hs1 hf1 ho hx)
          have HF1 := Lib.hid ((Frame.refl (· = g) wr).drew.trans HF1.out)
          have hR1 : M.Rep g ⟨true, s'.fail, [], s'.u⟩ w1 := by
            have h := HRep.out.with HS1.out (fun _ => rfl)
            rw [HL.out] at h
            rw [HFl.out]
            exact h
          have hx0 : w1.cell? ⟨gx, 0, none⟩ = some (strV l) := HX.out 0 l rfl
          have heach := hR1.each
          have HR1 := Lib.hid hR1
          clear hR1
          obtain ⟨S, hS⟩ : ∃ S : ByteArray, strV l = .string S := ⟨_, rfl⟩
          rw [hS] at hx0
          have HSS := Lib.hid hS
          clear hS
          go_wp2_with fail
          refine wp_loop_rounds 2 ?_
          rw [rounds_succ]
          have hent := HEnt.out
          go_wp2_with fail
          clear hent
          have htell := HT.out _ l w1 HR1.out rfl rfl hl2
          rw [HSS.out] at htell
          refine htell.mono ?_
          clear htell
          rintro e w2 ⟨v2, rfl, ho2, hR2, hf2⟩
          have HR2 := Lib.hid hR2
          have HO2 := Lib.hid ho2
          have HF2 := Lib.hid hf2
          have hsz2 := hf2.size
          have hszw := HI.out.fr.size
          have hsz1 := HF1.out.size
          have hovl := HI.out.own.lt
          have HOV := Lib.hid hovl
          clear hR2 ho2 hf2 hx0 heach hovl
          have hk := HK.out s'.u l
          go_wp2_with (at_builtin; refine wpList_append_outs rfl (.tmp 60) (.tmp 66) rfl (base := w.heap.size) (base2 := w1.heap.size) (v := ov) (vs := v2) rfl (HI.out.own.frame (HF1.out.trans HF2.out) (fun k hk _ => by omega)) rfl HO2.out (by omega) (by omega) hsz2 (fun k e => by have := (HOV.out k e).2; omega) ?_; intro v3 w3 ho3 hg3; have HO3 := Lib.hid ho3; have HG3 := Lib.hid hg3; clear ho3 hg3)
          rw [rounds_succ]
          go_wp2_with fail
          have hg3 : Frame (fun k => w.heap.size ≤ k) w2 w3 := (Frame.refl _ w2).grown HG3.out (fun k _ e => (HOV.out k e).1)
          have hfr3 : Frame (fun k => k = g ∨ w.heap.size ≤ k) wr w3 := ((HF1.out.trans HF2.out).mono (fun _ _ h => .inl h)).trans (hg3.mono (fun _ _ h => .inr h))
          have hb1 := (bytes_drop HI.out.bytes hth HA.out).frame hfr3 (fun k hk h => by rcases h with h | h <;> omega)
          refine ⟨⟨_, _, rfl, rfl, r.drop n, O ++ (M.tell s'.u l).2.1, _, ?_, HR2.out.frame hg3 (by omega), HO3.out, (HI.out.fr.trans (HF1.out.trans HF2.out)).grown HG3.out (fun k hk e => by have := (HOV.out k e).1; omega), ?_, ?_⟩, ?_⟩
          · rw [HA2.out]; exact hb1
          · rw [HI.out.eq, HFe.out]; simp
          · simp only [List.length_drop, List.length_append]; omega
          · simp only [lenOf]; omega
      · have hd : s'.live = false := by simpa using hl
        have HN := Lib.hid (show needOf s' = -1 by simp [needOf, hd])
        have HX := Lib.hid (feedB_dead M.tell r s' hd)
        clear hl hd
        go_wp2_with fail
        refine (need_any HI.out.rep.need).mono ?_
        rintro e w' ⟨rfl, rfl⟩
        rw [HN.out]
        go_wp2_with fail
        go_ret2
        refine ⟨ov, ?_, ?_, ?_, HI.out.fr⟩
        · rw [HI.out.eq, HX.out]; rfl
        · rw [HI.out.eq, HX.out]; simpa using HI.out.own
        · rw [HI.out.eq, HX.out]; exact HI.out.rep

end Go.Proofs.YtfdgkjmdbcehiaaDoor
