/- What Feed of a machine of lines does, where it is due. -/
import Derived.Test.YtmmhpjhmobhdiaaDoorIfeed
import Derived.Deep.RegionWith
import Derived.Outline
namespace Go.Proofs.YtmmhpjhmobhdiaaDoor
open Go.RowKit

def lenOf : Value → Nat
  | .slice _ n _ => n
  | _ => 0
structure FeedInv {U : Type} (M : LM U) (g : Nat) (s : LS U) (X : Nat → Prop) (x : List UInt8) (w : World) (bv ov : Value) (r : List UInt8) (O : Outs) (s' : LS U) (X' : Nat → Prop) (wr : World) : Prop where
  bytes : IsBytes (fun k => ¬ M.own g X k ∧ k < w.heap.size) wr bv r
  rep : M.Rep g s' X' wr
  own : OwnOuts w.heap.size wr ov O
  sep : if M.quiet = true then ov = .slice none 0 0 ∧ O = [] else ∀ k, X' k → X k
  here : ∀ k, X' k → X k ∨ w.heap.size ≤ k
  fr : Frame (M.own g X) w wr
  eq : feedB M.tell x s = ((feedB M.tell r s').1, O ++ (feedB M.tell r s').2.1, (feedB M.tell r s').2.2)
  le : O.length + r.length * 40 ≤ 1280
def MoreInv {U : Type} (M : LM U) (g : Nat) (s : LS U) (X : Nat → Prop) (x : List UInt8) (w : World) (bv ov : Value) (wr : World) : Prop := ∃ r O s' X', FeedInv M g s X x w bv ov r O s' X' wr
/-- The answers stay, where the machine turns its own. -/
theorem FeedInv.outs {U : Type} {M : LM U} {g : Nat} {s : LS U} {X : Nat → Prop} {x : List UInt8} {w : World} {bv ov : Value} {r : List UInt8} {O : Outs} {s' : LS U} {X' : Nat → Prop} {wr wr' : World} (h : FeedInv M g s X x w bv ov r O s' X' wr)
    (hold : ∀ k, M.own g X k → k < w.heap.size) (hf : Frame (M.own g X') wr wr') : OwnOuts w.heap.size wr' ov O := by
  have hs := h.sep
  by_cases hq : M.quiet = true
  · rw [if_pos hq] at hs
    obtain ⟨rfl, rfl⟩ := hs
    exact OwnOuts.nil _ _
  · rw [if_neg hq] at hs
    refine h.own.frame hf (fun k hk _ e => ?_)
    rcases e with rfl | e
    · have := hold k (.inl rfl); omega
    · have := hold k (.inr (hs k e)); omega
theorem own_here {U : Type} {M : LM U} {g : Nat} {X X' : Nat → Prop} {n : Nat} (h : ∀ k, X' k → X k ∨ n ≤ k) : ∀ i, i < n → M.own g X' i → M.own g X i := by
  intro i hi e
  rcases e with rfl | e
  · exact .inl rfl
  · rcases h i e with e | e
    · exact .inr e
    · omega
theorem IsBytes.len {p : Nat → Prop} {w : World} {v : Value} {bs : List UInt8} (h : IsBytes p w v bs) : lenOf v = bs.length := by
  obtain ⟨a, cap, rfl, -⟩ := h
  rfl

theorem owns_text {base : Nat} {W : World} {v : Value} {L : Lines} (h : W.ownsRow base 9 1 v L.length (L.map strV)) (h1 : 1 ≤ L.length) : ∃ g cap, v = .slice (some ⟨g, 0, none⟩) L.length cap ∧ ∀ j b, L[j]? = some b → W.cell? ⟨g, j, none⟩ = some (strV b) := by
  have h' := h
  rcases h.2 with ⟨_, h0⟩ | ⟨g, cap, cur, rfl, _⟩
  · omega
  · refine ⟨g, cap, rfl, fun j b hj => ?_⟩
    have := World.ownsRow.cells h' (g := g) rfl j (strV b) (by simp [hj])
    rwa [Addr.add_mid, Nat.zero_add] at this

set_option maxRecDepth 100000 in
set_option maxHeartbeats 8000000 in
theorem feed_yes {U : Type} (M : LM U) (g : Nat) (s : LS U) (X : Nat → Prop) (v : Value) (x : List UInt8) (w : World) (h : M.Rep g s X w) (hT : M.Tells g) (hF : Enters M.F) (hK : ∀ u y, (M.tell u y).2.1.length ≤ 40) (hl : s.live = true) (hB : IsBytes (fun k => ¬ M.own g X k) w v x) (h1 : 1 ≤ x.length) (h32 : x.length ≤ 32) :
    Calls Tryd.prog 97 #[.pointer (some ⟨g, 0, none⟩), .int .i64 0, v] w (M.Gives g w (feedB M.tell x s).2.1 (feedB M.tell x s).2.2 (feedB M.tell x s).1 X) := by
  have HN := Lib.hid h.need
  have HT := Lib.hid hT
  have HF := Lib.hid hF
  have HK := Lib.hid hK
  have HE := Lib.hid (show feedE (needOf s) 0 x.length = 0 by unfold feedE; rw [show endE (needOf s) 0 = 0 by simp [endE, needOf, hl], if_neg (by simp), if_neg (by omega)])
  have hI : MoreInv M g s X x w v (.slice none 0 0) w := ⟨x, [], s, X, hB.mono (fun k hk h => ⟨h, hk⟩), h, OwnOuts.nil _ _, (by split; exact ⟨rfl, rfl⟩; exact fun _ h => h), fun _ h => .inl h, Frame.refl _ _, by simp, by simp; omega⟩
  have HI := Lib.hid hI
  have hlt := h.repN.lt
  have HOld := Lib.hid h.repN.old
  obtain ⟨a, cap, rfl, -, -⟩ := hB
  clear h hT hF hK hl hI
  go_enter Tryd.func97, Tryd.ntmps97
  go_wp2_with fail
  refine (mayFeed_any 0 a x.length cap HN.out).mono ?_
  rintro e w' ⟨rfl, rfl⟩
  rw [HE.out]
  go_wp2
  go_loopw [2, 9] (fun bv ov wr => ∃ b' o', b' = bv ∧ o' = ov ∧ MoreInv M g s X x w b' o' wr) (fun bv _ _ => lenOf bv)
  case atStart => exact ⟨_, _, rfl, rfl, HI.out⟩
  case round =>
    clear HI HN HE
    obtain ⟨bv, ov, rfl, rfl, r, O, s', X', hI⟩ := hrel
    have HI := Lib.hid hI
    obtain ⟨a', cap', rfl, hcap, -⟩ := hI.bytes
    have hle := hI.le
    clear hI
    by_cases hr : r = []
    · subst hr
      go_wp2
      go_ret2
      refine ⟨ov, X', ?_, ?_, ?_, HI.out.here, HI.out.fr⟩
      · rw [HI.out.eq]; rfl
      · rw [HI.out.eq]; simpa [feedB] using HI.out.own
      · rw [HI.out.eq]; exact HI.out.rep
    · have hpos : 0 < (r.length : Int) := by have := List.length_pos_iff.2 hr; omega
      have HR := Lib.hid hr
      clear hr
      by_cases hl : s'.live = true
      · have HL := Lib.hid hl
        have HN := Lib.hid (show needOf s' = 0 by simp [needOf, hl])
        have HRo := Lib.hid (round_of M.tell r s' hl HI.out.rep.repN.le)
        have hth := through_le r
        have htp := through_pos HR.out
        clear hl
        obtain ⟨n, hn⟩ : ∃ n, n = through r := ⟨_, rfl⟩
        rw [← hn] at hth htp
        have HNN := Lib.hid hn
        clear hn
        obtain ⟨A, hA⟩ : ∃ A, A = if cap' = n then a' else a'.map fun x => x.add n := ⟨_, rfl⟩
        have HA := Lib.hid hA
        have hbt := bytes_take HI.out.bytes hth
        have HBT := Lib.hid hbt
        clear hbt hA
        have q1 : (0 : Int) ≤ (n : Int) := by omega
        have q2 : (n : Int) ≤ (r.length : Int) := by omega
        have q3 : (n : Int) ≤ (cap' : Int) := by omega
        go_wp2_with fail
        refine (need_any HI.out.rep.need).mono ?_
        rintro e w' ⟨rfl, rfl⟩
        rw [HN.out]
        go_wp2_with fail
        refine (through_any _ r _ (HI.out.bytes.mono (fun _ _ _ => trivial)) (by omega)).mono ?_
        rintro e w' ⟨rfl, rfl⟩
        rw [← HNN.out]
        have hfl := (HI.out.rep.live HL.out).1
        obtain ⟨rest, hspl0, hext⟩ := HI.out.rep.repN
        have HEX := Lib.hid hext
        have hspl : Spl g 2 M.T [.int .i64 (needOf s'), M.piece g] (M.each g :: lastV M.last g :: rest) false s'.b wr.drew := by
          have h := hfl ▸ hspl0
          exact ⟨h.heap, h.off, h.le, h.fail⟩
        have hcut := cut_any (.slice a' n cap') (r.take n) hspl ((HBT.out.mono (fun _ _ h e => h.1 (.inl e))).below (Below.refl _ _).drew) (by simp; omega)
        have HRep := Lib.hid HI.out.rep
        rcases HRo.out with ⟨hc, hf⟩ | ⟨d, hc, hd, hf⟩ | ⟨l, hc, hl2, hf⟩
        · rw [← HNN.out] at hc
          rw [hc] at hcut
          have HC := Lib.hid hcut
          have HFe := Lib.hid hf
          have HFl := Lib.hid hfl
          clear hcut hc hf hfl hspl hspl0 hext HRo
          go_wp2_with fail
          go_region_with (go_at_call 103; refine HC.out.mono ?_; rintro e w1 ⟨xv, rfl, ho, hs1, hf1⟩; obtain ⟨ax, cx, rfl⟩ := owns_slice ho; have HS1 := Lib.hid hs1; have HF1 := Lib.hid hf1; clear hs1 hf1 ho)
          have HF1 := Lib.hid ((Frame.refl (· = g) wr).drew.trans HF1.out)
          have hR0 : M.RepN g (needOf s') true [] s'.u X' w1 := ⟨rest, HS1.out, LM.keepG HEX.out HF1.out⟩
          have hR1 : M.Rep g ⟨false, true, [], s'.u⟩ X' (w1.setCell ⟨g, 0, none⟩ (.int .i64 (-1))) := ⟨hR0.setNeed (-1), fun h => by cases h⟩
          have hc0 := hR0.need
          have hz0 := hR0.froz 0
          have HR1 := Lib.hid hR1
          have HC0 := Lib.hid hc0
          have HZ0 := Lib.hid hz0
          clear hR1 hc0 hz0 hR0
          go_wp2_with fail
          refine (stop_any HC0.out HZ0.out).mono ?_
          rintro e w2 ⟨rfl, rfl⟩
          go_wp2_with fail
          go_ret2
          have hfr := HF1.out.trans (Frame.cell w1 ⟨g, 0, none⟩ (.int .i64 (-1)))
          refine ⟨ov, X', ?_, ?_, ?_, HI.out.here, HI.out.fr.then hfr (fun _ _ e => .inl e)⟩
          · rw [HI.out.eq, HFe.out]; rfl
          · rw [HI.out.eq, HFe.out]; simpa using HI.out.own.frame hfr (fun k hk _ => by omega)
          · rw [HI.out.eq, HFe.out]; exact HR1.out
        · rw [← HNN.out] at hc hf
          rw [hc] at hcut
          have HC := Lib.hid hcut
          have HFe := Lib.hid hf
          have HFl := Lib.hid hfl
          have HA2 := Lib.hid (show ((if cap' = n then a' else a'.map fun x => x.add n) : Option Addr) = A from HA.out.symm)
          clear hcut hc hf hfl hspl hspl0 hext HRo
          go_wp2_with fail
          go_region_with (go_at_call 103; refine HC.out.mono ?_; rintro e w1 ⟨xv, rfl, ho, hs1, hf1⟩; obtain ⟨ax, cx, rfl⟩ := owns_slice ho; have HS1 := Lib.hid hs1; have HF1 := Lib.hid hf1; clear hs1 hf1 ho)
          have HF1 := Lib.hid ((Frame.refl (· = g) wr).drew.trans HF1.out)
          have hR1 : M.Rep g ⟨true, s'.fail, d, s'.u⟩ X' w1 := by
            have h := HRep.out.with HEX.out HF1.out HS1.out (fun _ => rfl)
            rw [HL.out] at h
            rw [HFl.out]
            exact h
          have HR1 := Lib.hid hR1
          clear hR1
          go_wp2_with fail
          refine wp_loop_rounds 1 ?_
          rw [rounds_succ]
          go_wp2_with fail
          have hb1 := (bytes_drop HI.out.bytes hth HA.out).frame HF1.out (fun _ hk e => hk.1 (.inl e))
          refine ⟨⟨_, _, rfl, rfl, r.drop n, O, _, X', ?_, HR1.out, HI.out.own.frame HF1.out (fun k hk _ => by omega), HI.out.sep, HI.out.here, HI.out.fr.then HF1.out (fun _ _ e => .inl e), ?_, ?_⟩, ?_⟩
          · rw [HA2.out]; exact hb1
          · rw [HI.out.eq, HFe.out, HFl.out]
          · simp only [List.length_drop]; omega
          · simp only [lenOf]; omega
        · rw [← HNN.out] at hc hf
          rw [hc] at hcut
          have HC := Lib.hid hcut
          have HFe := Lib.hid hf
          have HFl := Lib.hid hfl
          have HA2 := Lib.hid (show ((if cap' = n then a' else a'.map fun x => x.add n) : Option Addr) = A from HA.out.symm)
          have hent := HF.out
          unfold Enters at hent
          have HEnt := Lib.hid hent
          clear hcut hc hf hfl hspl hspl0 hext HRo hent
          go_wp2_with fail
          go_region_with (go_at_call 103; refine HC.out.mono ?_; rintro e w1 ⟨xv, rfl, ho, hs1, hf1⟩; obtain ⟨gx, cx, rfl, hx⟩ := owns_text ho (Nat.le_refl 1); have HX := Lib.hid hx; have HS1 := Lib.hid hs1; have HF1 := Lib.hid hf1; clear hs1 hf1 ho hx)
          have HF1 := Lib.hid ((Frame.refl (· = g) wr).drew.trans HF1.out)
          have hR1 : M.Rep g ⟨true, s'.fail, [], s'.u⟩ X' w1 := by
            have h := HRep.out.with HEX.out HF1.out HS1.out (fun _ => rfl)
            rw [HL.out] at h
            rw [HFl.out]
            exact h
          have hx0 : w1.cell? ⟨gx, 0, none⟩ = some (strV l) := HX.out 0 l rfl
          have heach := hR1.repN.eachC
          unfold LM.each at heach
          have HR1 := Lib.hid hR1
          clear hR1
          obtain ⟨S, hS⟩ : ∃ S : ByteArray, strV l = .string S := ⟨_, rfl⟩
          rw [hS] at hx0
          have HSS := Lib.hid hS
          clear hS
          go_wp2_with fail
          refine wp_loop_rounds 2 ?_
          rw [rounds_succ]
          have hent := HEnt.out
          go_wp2_with fail
          clear hent
          have htell := HT.out _ _ l w1 HR1.out rfl rfl hl2
          rw [HSS.out] at htell
          refine htell.mono ?_
          clear htell
          rintro e w2 ⟨v2, X2, rfl, ho2, hR2, hq2, hx2, hf2⟩
          have HR2 := Lib.hid hR2
          have HO2 := Lib.hid ho2
          have HF2 := Lib.hid hf2
          have HQ2 := Lib.hid hq2
          have HX2 := Lib.hid hx2
          have hfr2 : Frame (M.own g X') wr w2 := (HF1.out.mono (fun _ _ h => .inl h)).trans hf2
          have HFR2 := Lib.hid hfr2
          have HX3 := Lib.hid (show ∀ k, X2 k → X k ∨ w.heap.size ≤ k from fun k hk => by rcases hx2 k hk with h | h; exact HI.out.here k h; exact .inr (by have := HI.out.fr.size; have := HF1.out.size; omega))
          have hsz2 := hf2.size
          have hszw := HI.out.fr.size
          have hsz1 := HF1.out.size
          have hovl := HI.out.own.lt
          have HOV := Lib.hid hovl
          clear hR2 ho2 hf2 hx0 heach hovl hq2 hx2 hfr2
          have hk := HK.out s'.u l
          go_wp2_with (at_builtin; refine wpList_append_outs rfl (.tmp 60) (.tmp 66) rfl (base := w.heap.size) (base2 := w1.heap.size) (v := ov) (vs := v2) rfl (HI.out.outs HOld.out HFR2.out) rfl HO2.out (by omega) (by omega) hsz2 (fun k e => by have := (HOV.out k e).2; omega) ?_; intro v3 w3 ho3 hg3 hn3; have HO3 := Lib.hid ho3; have HG3 := Lib.hid hg3; have HN3 := Lib.hid hn3; clear ho3 hg3 hn3)
          rw [rounds_succ]
          go_wp2_with fail
          have hg3 : Frame (fun k => w.heap.size ≤ k) w2 w3 := (Frame.refl _ w2).grown HG3.out (fun k _ e => (HOV.out k e).1)
          have hfr3 : Frame (fun k => M.own g X' k ∨ w.heap.size ≤ k) wr w3 := (HFR2.out.mono (fun _ _ h => .inl h)).trans (hg3.mono (fun _ _ h => .inr h))
          have hb1 := (bytes_drop HI.out.bytes hth HA.out).frame hfr3 (fun k hk h => by rcases h with h | h; exact hk.1 (own_here HI.out.here k hk.2 h); have := hk.2; omega)
          have hfr4 : Frame (M.own g X) w w2 := HI.out.fr.then HFR2.out (own_here HI.out.here)
          have hsep : if M.quiet = true then v3 = .slice none 0 0 ∧ O ++ (M.tell s'.u l).2.1 = [] else ∀ k, X2 k → X k := by
            have hs := HI.out.sep
            have hq := HQ2.out
            by_cases hQ : M.quiet = true
            · rw [if_pos hQ] at hs hq ⊢
              obtain ⟨e1, e2⟩ := hs
              obtain ⟨e3, e4⟩ := hq
              rw [(HN3.out e3).1, e1, e2, e4]
              exact ⟨rfl, rfl⟩
            · rw [if_neg hQ] at hs hq ⊢
              exact fun k hk => hs k (hq k hk)
          have hR3 : M.Rep g ⟨!(M.tell s'.u l).2.2, s'.fail, [], (M.tell s'.u l).1⟩ X2 w3 := by
            have hq := HQ2.out
            by_cases hQ : M.quiet = true
            · rw [if_pos hQ] at hq
              rw [(HN3.out hq.1).2]
              exact HR2.out
            · rw [if_neg hQ] at hq
              refine HR2.out.frame hg3 (fun k hk e => ?_)
              rcases hk with (hk | hk) | hk
              · omega
              · have := HI.out.rep.repN.old k (.inr (hq k hk))
                rcases HI.out.here k (hq k hk) with h | h
                · have := HOld.out k (.inr h); omega
                · have hs := HI.out.sep
                  rw [if_neg hQ] at hs
                  have := HOld.out k (.inr (hs k (hq k hk))); omega
              · have := HOld.out g (.inl rfl)
                have := HR2.out.repN.base
                omega
          refine ⟨⟨_, _, rfl, rfl, r.drop n, O ++ (M.tell s'.u l).2.1, _, X2, ?_, hR3, HO3.out, hsep, HX3.out, hfr4.grown HG3.out (fun k hk e => by have := (HOV.out k e).1; omega), ?_, ?_⟩, ?_⟩
          · rw [HA2.out]; exact hb1
          · rw [HI.out.eq, HFe.out]; simp
          · simp only [List.length_drop, List.length_append]; omega
          · simp only [lenOf]; omega
      · have hd : s'.live = false := by simpa using hl
        have HN := Lib.hid (show needOf s' = -1 by simp [needOf, hd])
        have HX := Lib.hid (feedB_dead M.tell r s' hd)
        clear hl hd
        go_wp2_with fail
        refine (need_any HI.out.rep.need).mono ?_
        rintro e w' ⟨rfl, rfl⟩
        rw [HN.out]
        go_wp2_with fail
        go_ret2
        refine ⟨ov, X', ?_, ?_, ?_, HI.out.here, HI.out.fr⟩
        · rw [HI.out.eq, HX.out]; rfl
        · rw [HI.out.eq, HX.out]; simpa using HI.out.own
        · rw [HI.out.eq, HX.out]; exact HI.out.rep

end Go.Proofs.YtmmhpjhmobhdiaaDoor
