/- What uniq tells: tellNothing, tellCounted, tellFirst, tellBehind. -/
import Derived.Test.YtmmhpjhmobhdiaaDoorUniqCalls
import Derived.Test.YtmmhpjhmobhdiaaDoorItell
import Derived.Test.YtmmhpjhmobhdiaaDoorIfeedb
import Derived.Deep.RegionHeld3
namespace Go.Proofs.YtmmhpjhmobhdiaaDoor
open Go.RowKit

/-- The call answers these; what is kept is as told. -/
def UniqTold (c : Bool) (g : Nat) (nd : Int) (f : Bool) (b : List UInt8) (u : US) (X : Nat → Prop) (w : World) (o : Outs) (e : Ending) (w' : World) : Prop :=
  ∃ v, e = .returned v ∧ OwnOuts w.heap.size w' v o ∧ (uniqM c).RepN g nd f b u X w' ∧ Frame (· = g) w w'

theorem frame_two (w : World) (g : Nat) (v v' : Value) : Frame (· = g) w ((w.setCell ⟨g, 70, none⟩ v).setCell ⟨g, 71, none⟩ v') := (Frame.cell w ⟨g, 70, none⟩ v).trans (Frame.cell _ ⟨g, 71, none⟩ v')

set_option maxRecDepth 100000 in
set_option maxHeartbeats 1000000 in
theorem nothing_any (c : Bool) (g : Nat) (nd : Int) (f : Bool) (b : List UInt8) (u : US) (X : Nat → Prop) (w : World) (h : (uniqM c).RepN g nd f b u X w) :
    Calls Tryd.prog 30 #[.pointer (some ⟨g, 0, none⟩)] w (UniqTold c g nd f b (0, []) X w []) := by
  have H := Lib.hid h
  clear h
  go_enter Tryd.func30, Tryd.ntmps30
  go_wp2_with fail
  refine (giveUp_any g _ _ w (uniq_c70 H.out) (uniq_c71 H.out) H.out.froz).mono ?_
  rintro e w1 ⟨rfl, hw⟩
  have HW := Lib.hid hw
  clear hw
  go_wp2_with fail
  go_ret
  rw [HW.out]
  exact ⟨_, rfl, OwnOuts.nil _ _, uniq_put H.out [] 0, frame_two _ _ _ _⟩

set_option maxRecDepth 100000 in
set_option maxHeartbeats 4000000 in
theorem counted_any (c : Bool) (g : Nat) (nd : Int) (f : Bool) (b : List UInt8) (u : US) (X : Nat → Prop) (w : World) (h : (uniqM c).RepN g nd f b u X w) (hu : UOk u) :
    Calls Tryd.prog 32 #[.pointer (some ⟨g, 0, none⟩)] w (UniqTold c g nd f b (if u.1 = 0 then u else (0, [])) X w (cntO u)) := by
  have H := Lib.hid h
  obtain ⟨n, y⟩ := u
  simp only [UOk] at hu ⊢
  obtain ⟨hy, hn0, hn1⟩ := hu
  have c70 := uniq_c70 h
  have c71 := uniq_c71 h
  simp only at c70 c71
  have hm := (uniq_heap h).2.2.1
  clear h
  by_cases h0 : n = 0
  · subst h0
    rw [if_pos rfl, show cntO (0, y) = [] from rfl]
    clear c70 hm
    go_enter Tryd.func32, Tryd.ntmps32
    go_wp2
    go_ret
    exact ⟨_, rfl, OwnOuts.nil _ _, H.out, Frame.refl _ _⟩
  · have q0 : (n == 0) = false := by simpa using h0
    obtain ⟨t, ht⟩ : ∃ t, t = Lib.itoa n ++ 32 :: y := ⟨_, rfl⟩
    rw [if_neg h0, show cntO (n, y) = [(0, t ++ [10])] by rw [ht]; simp [cntO, h0]]
    have hil := Lib.itoa_length_le n hn0 hn1
    have hitoa := fun (W : World) (hW : TenAt W) => itoa_any n hn0 hn1 W hW
    obtain ⟨d, hd⟩ : ∃ d, d = Lib.itoa n := ⟨_, rfl⟩
    rw [← hd] at hitoa hil ht
    obtain ⟨Sy, hSy⟩ : ∃ S : ByteArray, strV y = .string S := ⟨_, rfl⟩
    obtain ⟨Sd, hSd⟩ : ∃ S : ByteArray, strV d = .string S := ⟨_, rfl⟩
    have zy := strV_size hSy
    have zd := strV_size hSd
    have hS1 := strV_add hSd (show strV [32] = .string { data := #[32] } from rfl)
    have hS2 := strV_add hS1 hSy
    have z1 := strV_size hS1
    rw [List.append_assoc, List.singleton_append, ← ht] at hS2
    rw [List.length_append] at z1
    have a1 : (9223372036854775807 < Sd.size + 1) = False := by simp; omega
    have a2 : (9223372036854775807 < Sd.size + 1 + Sy.size) = False := by simp; omega
    have hx : t.length ≤ 1000 := by rw [ht]; simp; omega
    rw [hSy] at c70
    rw [hSd] at hitoa
    obtain ⟨S, hS⟩ : ∃ S : ByteArray, S = Sd ++ { data := #[32] } ++ Sy := ⟨_, rfl⟩
    have HS := Lib.hid hS
    rw [← hS] at hS2
    have HS2 := Lib.hid hS2
    have HX := Lib.hid hx
    have HIt := Lib.hid hitoa
    have HTen := Lib.hid (show ∀ W, Below w.heap.size w W → TenAt W from fun W hb => hm.below hb)
    have HZ := Lib.hid (show ∀ W, Below w.heap.size w W → W.cell? ⟨g, 70, none⟩ = some (.string Sy) ∧ W.cell? ⟨g, 71, none⟩ = some (.int .i64 n) from fun W hb => ⟨Pm.Below.cell hb c70, Pm.Below.cell hb c71⟩)
    have hw : Below w.heap.size w w := Below.refl _ _
    clear hd hSy hSd zy zd hS1 hS2 hS ht hx hitoa hm h0 hil z1 hy
    go_enter Tryd.func32, Tryd.ntmps32
    go_upto_region 3 with fail
    have hw := hw.drew
    clear c70 c71
    go_region_held3 (fun W => W.cell? ⟨g, 70, none⟩ = some (.string Sy) ∧ W.cell? ⟨g, 71, none⟩ = some (.int .i64 n))
      (exact HZ.out _ hw)
      (first | (go_at_call 49; refine (HIt.out _ (HTen.out _ hw)).mono ?_; rintro e w6 ⟨rfl, hb1⟩; have hw := hw.trans (hb1.mono hw.size); clear hb1))
    all_goals
      have hr6 := H.out.frame (Below.toFrame hw fun _ => False) (fun _ _ h => h)
      have H6 := Lib.hid hr6
      rw [← HS.out]
      have HW6 := Lib.hid hw
      have hsz6 := hw.size
      clear hr6 hw
      go_wp2_with fail
      refine (giveUp_any g _ _ w6 (uniq_c70 H6.out) (uniq_c71 H6.out) H6.out.froz).mono ?_
      rintro e w7 ⟨rfl, hw7⟩
      have H7 := Lib.hid (hw7 ▸ uniq_put H6.out [] 0)
      have HF7 := Lib.hid (hw7 ▸ frame_two w6 g (strV []) (.int .i64 0) : Frame (· = g) w6 w7)
      have hsz7 := HF7.out.size
      clear hw7
      go_wp2_with fail
      refine (tellOut_wide 0 _ t _ (text_new w7 t S HS2.out (0, 0)) HX.out).mono ?_
      rintro e w8 ⟨v, rfl, ho, hb⟩
      have HO := Lib.hid ho
      have HB := Lib.hid hb
      clear ho hb
      go_wp2_with fail
      go_ret
      have hb8 : Below w7.heap.size w7 w8 := ((Below.refl w7.heap.size w7).alloc (Nat.le_refl _) _).trans (HB.out.mono (by simp))
      refine ⟨v, rfl, HO.out.mono (by simp; omega), H7.out.frame (Below.toFrame hb8 fun _ => False) (fun _ _ h => h), ?_⟩
      exact ((Below.toFrame HW6.out _).trans HF7.out).trans (Below.toFrame hb8 _)

theorem uniq_own (c : Bool) (g : Nat) (X : Nat → Prop) {w w' : World} (h : Frame (· = g) w w') : Frame ((uniqM c).own g X) w w' := h.mono (fun _ _ e => .inl e)

/-- What is told behind all lines. -/
theorem uniq_ends (c : Bool) (g : Nat) : (uniqM c).Ends g (uniqLast c) (uniqEnd c) := by
  intro s X w h hl hb
  obtain ⟨hf, hg⟩ := h.live hl
  have hn : needOf s = 0 := by rw [needOf, if_pos hl]
  have hR := h.repN
  rw [hn, hf, hb] at hR
  rw [hf]
  cases c with
  | false =>
    refine (nothing_any false g 0 false [] s.u X w hR).mono ?_
    rintro e w' ⟨v, rfl, ho, hr, hfr⟩
    exact ⟨v, X, rfl, ho, ⟨hr, fun _ => ⟨rfl, uOk_none⟩⟩, fun _ h => h, uniq_own _ _ _ hfr⟩
  | true =>
    refine (counted_any true g 0 false [] s.u X w hR hg).mono ?_
    rintro e w' ⟨v, rfl, ho, hr, hfr⟩
    exact ⟨v, X, rfl, ho, ⟨hr, fun _ => ⟨rfl, uOk_fin (c := true) hg⟩⟩, fun _ h => h, uniq_own _ _ _ hfr⟩

set_option maxRecDepth 100000 in
set_option maxHeartbeats 2000000 in
theorem first_any (g : Nat) (nd : Int) (f : Bool) (b : List UInt8) (u : US) (X : Nat → Prop) (x : List UInt8) (w : World) (h : (uniqM false).RepN g nd f b u X w) (hx : x.length ≤ 64) :
    Calls Tryd.prog 29 #[.pointer (some ⟨g, 0, none⟩), strV x] w (UniqTold false g nd f b (uniqT false u x).1 X w (uniqT false u x).2.1) := by
  have H := Lib.hid h
  have htk := takes_any g u x w (uniq_c70 h) (uniq_c71 h) h.froz
  simp only [uniqT]
  obtain ⟨S, hS⟩ : ∃ S : ByteArray, strV x = .string S := ⟨_, rfl⟩
  have hbg := fun (W : World) (c70 : W.cell? ⟨g, 70, none⟩ = some (strV u.2)) c71 hz => begin_any g x (strV u.2) (.int .i64 u.1) W c70 c71 hz
  rw [hS] at htk hbg ⊢
  have HS := Lib.hid hS
  have HBg := Lib.hid hbg
  have HX := Lib.hid hx
  have hlt := h.lt
  rw [← hS] at hbg
  cases ha : alike u x with
  | true =>
    rw [ha] at htk
    have HTk := Lib.hid htk
    rw [if_pos rfl, if_pos rfl]
    clear htk h hS ha hbg hx
    go_enter Tryd.func29, Tryd.ntmps29
    go_wp2_with fail
    refine HTk.out.mono ?_
    rintro e w1 ⟨rfl, hw⟩
    rw [if_pos trivial] at hw
    have HW := Lib.hid hw
    clear hw
    go_wp2_with fail
    go_ret
    rw [HW.out]
    exact ⟨_, rfl, OwnOuts.nil _ _, uniq_put1 H.out _, Frame.cell _ ⟨g, 71, none⟩ _⟩
  | false =>
    rw [ha] at htk
    have HTk := Lib.hid htk
    rw [if_neg (by decide), if_neg (by decide), if_neg (by decide)]
    clear htk h hS ha hbg hx
    go_enter Tryd.func29, Tryd.ntmps29
    go_wp2_with fail
    refine HTk.out.mono ?_
    rintro e w1 ⟨rfl, hw⟩
    rw [if_neg (by decide)] at hw
    subst hw
    go_wp2_with fail
    refine (HBg.out w1 (uniq_c70 H.out) (uniq_c71 H.out) H.out.froz).mono ?_
    rintro e w2 ⟨rfl, hw2⟩
    rw [← HS.out] at hw2
    have H2 := Lib.hid (hw2 ▸ uniq_put H.out x 1)
    have HF2 := Lib.hid (hw2 ▸ frame_two w1 g (strV x) (.int .i64 1) : Frame (· = g) w1 w2)
    have hsz2 := HF2.out.size
    clear hw2
    go_wp2_with fail
    refine (tellOut_any 0 _ x _ (text_new w2 x S HS.out (0, 0)) HX.out).mono ?_
    rintro e w3 ⟨v, rfl, ho, hb⟩
    have HO := Lib.hid ho
    have HB := Lib.hid hb
    clear ho hb
    go_wp2_with fail
    go_ret
    have hb3 : Below w2.heap.size w2 w3 := ((Below.refl w2.heap.size w2).alloc (Nat.le_refl _) _).trans (HB.out.mono (by simp))
    exact ⟨v, rfl, HO.out.mono (by simp; omega), H2.out.frame (Below.toFrame hb3 fun _ => False) (fun _ _ h => h), HF2.out.trans (Below.toFrame hb3 _)⟩

set_option maxRecDepth 100000 in
set_option maxHeartbeats 2000000 in
theorem behind_any (g : Nat) (nd : Int) (f : Bool) (b : List UInt8) (u : US) (X : Nat → Prop) (x : List UInt8) (w : World) (h : (uniqM true).RepN g nd f b u X w) (hu : UOk u) :
    Calls Tryd.prog 31 #[.pointer (some ⟨g, 0, none⟩), strV x] w (UniqTold true g nd f b (uniqT true u x).1 X w (uniqT true u x).2.1) := by
  have H := Lib.hid h
  have htk := takes_any g u x w (uniq_c70 h) (uniq_c71 h) h.froz
  simp only [uniqT]
  obtain ⟨S, hS⟩ : ∃ S : ByteArray, strV x = .string S := ⟨_, rfl⟩
  have hbg := fun (v70 v71 : Value) (W : World) (c70 : W.cell? ⟨g, 70, none⟩ = some v70) c71 hz => begin_any g x v70 v71 W c70 c71 hz
  rw [hS] at htk hbg ⊢
  have HS := Lib.hid hS
  have HBg := Lib.hid hbg
  have HU := Lib.hid hu
  have hlt := h.lt
  cases ha : alike u x with
  | true =>
    rw [ha] at htk
    have HTk := Lib.hid htk
    rw [if_pos rfl, if_pos rfl]
    clear htk h hS ha hbg hu
    go_enter Tryd.func31, Tryd.ntmps31
    go_wp2_with fail
    refine HTk.out.mono ?_
    rintro e w1 ⟨rfl, hw⟩
    rw [if_pos trivial] at hw
    have HW := Lib.hid hw
    clear hw
    go_wp2_with fail
    go_ret
    rw [HW.out]
    exact ⟨_, rfl, OwnOuts.nil _ _, uniq_put1 H.out _, Frame.cell _ ⟨g, 71, none⟩ _⟩
  | false =>
    rw [ha] at htk
    have HTk := Lib.hid htk
    rw [if_neg (by decide), if_neg (by decide), if_pos trivial]
    clear htk h hS ha hbg hu
    go_enter Tryd.func31, Tryd.ntmps31
    go_wp2_with fail
    refine HTk.out.mono ?_
    rintro e w1 ⟨rfl, hw⟩
    rw [if_neg (by decide)] at hw
    subst hw
    go_wp2_with fail
    refine (counted_any true g nd f b u X w1 H.out HU.out).mono ?_
    rintro e w2 ⟨v, rfl, ho, h2, hf2⟩
    have HO := Lib.hid ho
    have H2 := Lib.hid h2
    have HF2 := Lib.hid hf2
    clear ho h2 hf2
    go_wp2_with fail
    refine (HBg.out _ _ w2 (uniq_c70 H2.out) (uniq_c71 H2.out) H2.out.froz).mono ?_
    rintro e w3 ⟨rfl, hw3⟩
    rw [← HS.out] at hw3
    have H3 := Lib.hid (hw3 ▸ uniq_put H2.out x 1)
    have HF3 := Lib.hid (hw3 ▸ frame_two w2 g (strV x) (.int .i64 1) : Frame (· = g) w2 w3)
    clear hw3
    go_wp2_with fail
    go_ret
    exact ⟨v, rfl, HO.out.frame HF3.out (fun k hk _ e => by have e' : k = g := e; omega), H3.out, HF2.out.trans HF3.out⟩

theorem uniq_tells (c : Bool) (g : Nat) : (uniqM c).Tells g := by
  intro s X x w h hl hb hx
  obtain ⟨hf, hg⟩ := h.live hl
  have hn : needOf s = 0 := by rw [needOf, if_pos hl]
  have hR := h.repN
  rw [hn, hf, hb] at hR
  rw [hf, hb]
  cases c with
  | false =>
    refine (first_any g 0 false [] s.u X x w hR hx).mono ?_
    rintro e w' ⟨v, rfl, ho, hr, hfr⟩
    exact ⟨v, X, rfl, ho, ⟨hr, fun _ => ⟨rfl, uOk_tell (c := false) hg hx⟩⟩, fun _ h => h, fun _ h => .inl h, uniq_own _ _ _ hfr⟩
  | true =>
    refine (behind_any g 0 false [] s.u X x w hR hg).mono ?_
    rintro e w' ⟨v, rfl, ho, hr, hfr⟩
    exact ⟨v, X, rfl, ho, ⟨hr, fun _ => ⟨rfl, uOk_tell (c := true) hg hx⟩⟩, fun _ h => h, fun _ h => .inl h, uniq_own _ _ _ hfr⟩

end Go.Proofs.YtmmhpjhmobhdiaaDoor
