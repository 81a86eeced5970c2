/- What End of a machine of lines does that has something to tell behind all lines. -/
import Derived.Test.YtmmhpjhmobhdiaaDoorIfeed
import Derived.Test.YtmmhpjhmobhdiaaDoorLinesx
import Derived.Deep.RegionWith
namespace Go.Proofs.YtmmhpjhmobhdiaaDoor
open Go.RowKit

/-- What is told at the end. -/
def LM.Ends {U : Type} (M : LM U) (g : Nat) (F2 : FuncId) (fin : U → U × Outs) : Prop := ∀ (s : LS U) (X : Nat → Prop) (w : World), M.Rep g s X w → s.live = true → s.b = [] →
  Calls Tryd.prog F2 #[.pointer (some ⟨g, 0, none⟩)] w fun e w' => ∃ v X', e = .returned v ∧ OwnOuts w.heap.size w' v (fin s.u).2 ∧ M.Rep g ⟨true, s.fail, [], (fin s.u).1⟩ X' w' ∧ (∀ k, X' k → X k) ∧ Frame (M.own g X) w w'

set_option maxRecDepth 100000 in
set_option maxHeartbeats 4000000 in
theorem end_last {U : Type} (M : LM U) (g : Nat) (s : LS U) (X : Nat → Prop) (w : World) (F2 : FuncId) (fin : U → U × Outs) (h : M.Rep g s X w) (hT : M.Tells g) (hF : Enters M.F) (hl : s.live = true) (hN : M.last = some F2) (hE : M.Ends g F2 fin) (hF2 : Enters F2)
    (hq : M.quiet = false) (ht : ∀ u x, (M.tell u x).2.2 = false) (hK : ∀ u x, (M.tell u x).2.1.length ≤ 40) (hK2 : ∀ u, (fin u).2.length ≤ 40) :
    Calls Tryd.prog 89 #[.pointer (some ⟨g, 0, none⟩), .int .i64 0] w (M.Gives g w (endL M.tell fin s).2.1 (endL M.tell fin s).2.2 (endL M.tell fin s).1 X) := by
  have hn := h.need
  have HN := Lib.hid hn
  have HT := Lib.hid hT
  have HR := Lib.hid h
  have HEnd := Lib.hid hE
  have HE := Lib.hid (show endE (needOf s) 0 = 0 by simp [endE, needOf, hl])
  have HL := Lib.hid hl
  have HK := Lib.hid hK
  have HK2 := Lib.hid hK2
  have HEnt2 := Lib.hid hF2
  have HEnt := Lib.hid hF
  have HQ := Lib.hid hq
  have HStop := Lib.hid ht
  obtain ⟨rest, hspl, hext⟩ := h.repN
  have HS := Lib.hid hspl
  have HEX := Lib.hid hext
  have HNone := Lib.hid (show lastV M.last g = .func (.func F2) #[.pointer (some ⟨g, 0, none⟩)] #[] by rw [hN]; rfl)
  have hlt := h.repN.lt
  clear h hn hT hl hspl hext hN hE hK hK2 hF2 hF hq ht
  by_cases hb : s.b = []
  · have HB := Lib.hid (show (!s.b.isEmpty) = false by simp [hb])
    have HX := Lib.hid (show endL M.tell fin s = (⟨false, s.fail, [], (fin s.u).1⟩, (fin s.u).2, 0) by rw [endL, endB, if_pos hb]; rfl)
    clear hb
    go_enter Tryd.func89, Tryd.ntmps89
    go_wp2_with fail
    refine (mayEnd_any 0 HN.out).mono ?_
    rintro e w' ⟨rfl, rfl⟩
    rw [HE.out]
    go_wp2_with fail
    refine (rest_any HS.out).mono ?_
    rintro e w1 ⟨rfl, hs, hf⟩
    rw [HB.out]
    have hR1 := HR.out.with HEX.out hf hs (fun hl => (HR.out.live hl).1)
    have k69 := hR1.repN.lastC
    rw [HNone.out] at k69
    have HR1 := Lib.hid hR1
    have HF := Lib.hid hf
    have hsz1 := hf.size
    clear hR1 hs hf
    have hent := HEnt2.out
    unfold Enters at hent
    have qn := neq_func
    go_wp2_with fail
    clear hent
    have hlive := HL.out
    refine (HEnd.out _ X w1 HR1.out hlive rfl).mono ?_
    rintro e w2 ⟨v2, X2, rfl, ho2, hR2, hX2, hf2⟩
    have HR2 := Lib.hid hR2
    have HO2 := Lib.hid ho2
    have HF2 := Lib.hid hf2
    have HX2 := Lib.hid hX2
    have hk2 := HK2.out s.u
    have hsz2 := hf2.size
    clear hR2 ho2 hf2 hX2 k69 qn hlive
    go_wp2_with (at_builtin; refine wpList_append_outs rfl (.tmp 37) (.tmp 42) rfl (base := w.heap.size) (base2 := w1.heap.size) (v := .slice none 0 0) (vs := v2) (L := []) rfl (OwnOuts.nil _ _) rfl HO2.out (by simp; omega) hsz1 hsz2 (fun k e => by simp [Value.ownBlock] at e) ?_; intro v3 w3 ho3 hg3 hn3; have HO3 := Lib.hid ho3; have HG3 := Lib.hid hg3; have HN3 := Lib.hid hn3; clear ho3 hg3 hn3)
    have hg3 : Frame (fun k => w.heap.size ≤ k ∧ False) w2 w3 := (Frame.refl _ w2).grown HG3.out (fun k _ e => by simp [Value.ownBlock] at e)
    have hr3 : M.Rep g ⟨true, s.fail, [], (fin s.u).1⟩ X2 w3 := HR2.out.frame hg3 (fun k _ h => h.2)
    have HR3 := Lib.hid hr3
    have HGG := Lib.hid hg3
    clear hr3 hg3
    go_wp2_with fail
    refine (stop_any HR3.out.need HR3.out.froz).mono ?_
    rintro e w4 ⟨rfl, rfl⟩
    have HR4 := Lib.hid HR3.out.stop
    go_wp2_with fail
    go_ret2
    rw [HX.out]
    refine ⟨v3, X2, rfl, ?_, HR4.out, fun k hk => .inl (HX2.out k hk), ?_⟩
    · exact HO3.out.frame (Frame.cell _ ⟨g, 0, none⟩ _) (fun k hk _ => by simp; omega)
    · exact (((HF.out.mono (fun _ _ h => .inl h)).trans HF2.out).trans (HGG.out.mono (fun _ _ h => h.2.elim))).trans ((Frame.cell _ ⟨g, 0, none⟩ _).mono (fun _ _ h => .inl h))
  · have HB := Lib.hid (show (!s.b.isEmpty) = true by cases hq : s.b <;> simp_all)
    have HX := Lib.hid (show endL M.tell fin s = (⟨false, s.fail, [], (fin (M.tell s.u s.b).1).1⟩, (M.tell s.u s.b).2.1 ++ (fin (M.tell s.u s.b).1).2, 0) by rw [endL, endB, if_neg hb])
    clear hb
    go_enter Tryd.func89, Tryd.ntmps89
    go_wp2_with fail
    refine (mayEnd_any 0 HN.out).mono ?_
    rintro e w' ⟨rfl, rfl⟩
    rw [HE.out]
    go_wp2_with fail
    refine (rest_any HS.out).mono ?_
    rintro e w1 ⟨rfl, hs, hf⟩
    rw [HB.out]
    have hR1 := HR.out.with HEX.out hf hs (fun hl => (HR.out.live hl).1)
    have he := hR1.repN.eachC
    unfold LM.each at he
    have HR1 := Lib.hid hR1
    have HF := Lib.hid hf
    have hent := HEnt.out
    unfold Enters at hent
    have hsz1 := hf.size
    clear hR1 hs hf
    go_wp2_with fail
    clear hent
    refine (HT.out _ _ s.b w1 HR1.out HL.out rfl HS.out.le).mono ?_
    rintro e w2 ⟨v, X', rfl, ho, hR2, hQ, hX, hf2⟩
    rw [if_neg (by rw [HQ.out]; decide)] at hQ
    rw [HStop.out] at hR2
    have k69 := hR2.repN.lastC
    rw [HNone.out] at k69
    have HR2 := Lib.hid hR2
    have HO := Lib.hid ho
    have HF2 := Lib.hid hf2
    have HQQ := Lib.hid hQ
    have hsz2 := hf2.size
    have hk1 := HK.out s.u s.b
    obtain ⟨va, vc, hv⟩ := ho.slice
    have hent := HEnt2.out
    unfold Enters at hent
    have qn := neq_func
    clear hR2 ho hf2 he hX hQ
    subst hv
    go_wp2_with fail
    clear hent
    refine (HEnd.out _ X' w2 HR2.out rfl rfl).mono ?_
    rintro e w3 ⟨v3, X3, rfl, ho3, hR3, hX3, hf3⟩
    have HR3 := Lib.hid hR3
    have HO3 := Lib.hid ho3
    have HF3 := Lib.hid hf3
    have HX3 := Lib.hid hX3
    have hk2 := HK2.out (M.tell s.u s.b).1
    have hsz3 := hf3.size
    have ho1 : OwnOuts w.heap.size w3 (.slice va (M.tell s.u s.b).2.1.length vc) (M.tell s.u s.b).2.1 := (HO.out.mono hsz1).frame HF3.out (fun k hk _ e => by
      rcases e with e | e
      · omega
      · have := HR.out.repN.old k (.inr (HQQ.out k e)); omega)
    have HO1 := Lib.hid ho1
    have HOB := Lib.hid ho1.lt
    have HOlt := Lib.hid HO.out.lt
    clear hR3 ho3 hf3 hX3 k69 qn ho1
    go_wp2_with (at_builtin; refine wpList_append_outs rfl (.tmp 37) (.tmp 42) rfl (base := w.heap.size) (base2 := w2.heap.size) (v := .slice va (M.tell s.u s.b).2.1.length vc) (vs := v3) (L := (M.tell s.u s.b).2.1) rfl HO1.out rfl HO3.out (by omega) (by omega) hsz3 (fun k e => (HOlt.out k e).2) ?_; intro v4 w4 ho4 hg4 hn4; have HO4 := Lib.hid ho4; have HG4 := Lib.hid hg4; clear ho4 hg4 hn4)
    have hg4 : Frame (fun k => w.heap.size ≤ k) w3 w4 := (Frame.refl _ w3).grown HG4.out (fun k _ e => (HOB.out k e).1)
    have hr4 : M.Rep g ⟨true, s.fail, [], (fin (M.tell s.u s.b).1).1⟩ X3 w4 := HR3.out.frame hg4 (fun k hk e => by
      rcases hk with (rfl | hk) | hk
      · omega
      · have := HR.out.repN.old k (.inr (HQQ.out k (HX3.out k hk))); omega
      · have := HR.out.repN.base; omega)
    have HR4 := Lib.hid hr4
    have HGG := Lib.hid hg4
    clear hr4 hg4
    go_wp2_with fail
    refine (stop_any HR4.out.need HR4.out.froz).mono ?_
    rintro e w5 ⟨rfl, rfl⟩
    have HR5 := Lib.hid HR4.out.stop
    go_wp2_with fail
    go_ret2
    rw [HX.out]
    refine ⟨v4, X3, rfl, ?_, HR5.out, fun k hk => .inl (HQQ.out k (HX3.out k hk)), ?_⟩
    · exact HO4.out.frame (Frame.cell _ ⟨g, 0, none⟩ _) (fun k hk _ => by simp; omega)
    · have hA : Frame (M.own g X) w w2 := (HF.out.mono (fun _ _ h => .inl h)).trans HF2.out
      have hB : Frame (M.own g X) w w3 := hA.then HF3.out (fun k _ e => by rcases e with e | e; exact .inl e; exact .inr (HQQ.out k e))
      exact (hB.then HGG.out (fun k hk e => by omega)).then (Frame.cell _ ⟨g, 0, none⟩ _) (fun k _ e => .inl e)

end Go.Proofs.YtmmhpjhmobhdiaaDoor
