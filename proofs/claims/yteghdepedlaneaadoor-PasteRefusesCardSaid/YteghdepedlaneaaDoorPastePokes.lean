/- The poked machine is one that Drive may drive. -/
import Derived.Test.YteghdepedlaneaaDoorPastePoke
namespace Go.Proofs.YteghdepedlaneaaDoor
open Go.RowKit

def pokedR {S : Type} (gx : Nat) (T : TypeId) (rv : Value) (port : Int) (bv : Value) (b : List UInt8) (base : Nat) (Rep : S → (Nat → Prop) → World → Prop) (s : S) (own' : Nat → Prop) (w : World) : Prop :=
  ∃ own, Poked gx T rv port bv b base Rep s own w ∧ own' = fun k => k = gx ∨ own k
section
variable {S : Type} {M : Mach S} {Rep : S → (Nat → Prop) → World → Prop} {T : TypeId} {rv : Value} {fN fH fF fE fM : FuncId} {rN rH rF rE rM : Value} {gx : Nat} {port : Int} {bv : Value} {b : List UInt8} {base : Nat} {s : S} {own : Nat → Prop} {w : World}
/-- What the machine answers behind the calls that are not due. -/
theorem poked_answers {r : S × Outs × Int} {w1 w' : World} {e : Ending} (hP : Poked gx T rv port bv b base Rep s own w1) (hf1 : Frame (· = gx) w w1) (h : Answers own Rep r w1 e w') :
    Answers (fun k => k = gx ∨ own k) (pokedR gx T rv port bv b base Rep) r w e w' := by
  obtain ⟨v, he, ho, ⟨own', hr, hx⟩, hf, hok, hl⟩ := h
  have hs := hf1.size
  have hlt := hP.lt
  refine ⟨v, he, ho.mono (fun k _ h => by omega), ⟨_, ⟨own', ⟨hf.heap hP.row hP.apart, hr, fun e => ?_, fun k hk => ?_, hP.here, hP.deep, hP.bytes.frame hf (fun k hk e => ?_)⟩, rfl⟩, fun k hk => ?_⟩, (hf1.mono (fun _ _ e => .inl e)).trans (hf.mono (fun _ _ e => .inr e)), hok, hl⟩
  · rcases hx _ e with e | e
    · exact hP.apart e
    · omega
  · rcases hx _ hk with e | e
    · exact hP.far _ e
    · have := hP.here; omega
  · have := hP.far _ e
    omega
  · rcases hk with hk | hk
    · exact .inl (.inl hk)
    · rcases hx _ hk with e | e
      · exact .inl (.inr e)
      · exact .inr (by omega)

set_option maxRecDepth 100000 in
set_option maxHeartbeats 2000000 in
theorem pokeNeed_any (hD : Driven M pasteBase Rep T rv fN fH fF fE fM rN rH rF rE rM) (hP : Poked gx T rv port bv b base Rep s own w) :
    Calls Tryd.prog 86 #[.pointer (some ⟨gx, 0, none⟩)] w (Says w (.int .i64 (M.need s))) := by
  have c0 := hP.c0
  have goN := hD.goN
  have inN := hD.inN
  unfold Goes at goN
  unfold Enters at inN
  have HC := Lib.hid (hD.need s own w hP.rep)
  clear hD hP
  go_enter Tryd.func86, Tryd.ntmps86
  go_wp2_with fail
  refine HC.out.mono ?_
  rintro e w' ⟨rfl, rfl⟩
  go_wp2_with fail
  go_ret
  exact ⟨rfl, rfl⟩

set_option maxRecDepth 100000 in
set_option maxHeartbeats 2000000 in
theorem pokeHeld_any (hD : Driven M pasteBase Rep T rv fN fH fF fE fM rN rH rF rE rM) (hP : Poked gx T rv port bv b base Rep s own w) :
    Calls Tryd.prog 84 #[.pointer (some ⟨gx, 0, none⟩)] w (SaysN w (.int .i64 (M.held s))) := by
  have c0 := hP.c0
  have goH := hD.goH
  have inH := hD.inH
  unfold Goes at goH
  unfold Enters at inH
  have HC := Lib.hid (hD.held s own w hP.rep)
  clear hD hP
  go_enter Tryd.func84, Tryd.ntmps84
  go_wp2_with fail
  refine HC.out.mono ?_
  rintro e w' ⟨rfl, hb⟩
  have HB := Lib.hid hb
  clear hb
  go_wp2_with fail
  go_ret
  exact ⟨rfl, HB.out⟩

set_option maxRecDepth 100000 in
set_option maxHeartbeats 2000000 in
theorem pokeFeed_any (hD : Driven M pasteBase Rep T rv fN fH fF fE fM rN rH rF rE rM) (hR : Refusing M Rep fF fE fM rF rE rM) (hP : Poked gx T rv port bv b base Rep s own w) (hb : b.length ≤ 1000) {v : Value} {x : List UInt8} (hn : 0 ≤ M.need s) (hx : IsBytes (fun k => ¬ (k = gx ∨ own k)) w v x) (h1 : 1 ≤ x.length) (h32 : x.length ≤ 32) :
    Calls Tryd.prog 83 #[.pointer (some ⟨gx, 0, none⟩), .int .i64 (M.need s), v] w (Answers (fun k => k = gx ∨ own k) (pokedR gx T rv port bv b base Rep) (M.feed s x) w) := by
  have HPk := Lib.hid (poke_any M Rep T rv fN fH fF fE fM rN rH rF rE rM hD hR gx port bv b base s own w hP hb)
  have goF := hD.goF
  have inF := hD.inF
  unfold Goes at goF
  unfold Enters at inF
  have HD := Lib.hid hD
  have HX := Lib.hid hx
  obtain ⟨ax, cx, rfl, -, -⟩ := hx
  clear hD hR hP
  go_enter Tryd.func83, Tryd.ntmps83
  go_wp2_with fail
  refine HPk.out.mono ?_
  rintro e w1 ⟨rfl, hp1, hf1⟩
  have c0 := hp1.c0
  have HP1 := Lib.hid hp1
  have HF1 := Lib.hid hf1
  clear hp1 hf1
  go_wp2_with fail
  refine (HD.out.feed s own w1 (.slice ax x.length cx) x HP1.out.rep hn ((HX.out.frame HF1.out (fun k hk e => hk (.inl e))).mono (fun _ _ hk e => hk (.inr e))) h1 h32).mono ?_
  rintro e w2 h2
  have h3 := poked_answers HP1.out HF1.out h2
  obtain ⟨v2, rfl, hrest⟩ := h3
  have HRest := Lib.hid hrest
  clear h2 hrest c0
  go_wp2_with fail
  go_ret2
  exact ⟨v2, rfl, HRest.out⟩

set_option maxRecDepth 100000 in
set_option maxHeartbeats 2000000 in
theorem pokeEnd_any (hD : Driven M pasteBase Rep T rv fN fH fF fE fM rN rH rF rE rM) (hR : Refusing M Rep fF fE fM rF rE rM) (hP : Poked gx T rv port bv b base Rep s own w) (hb : b.length ≤ 1000) (hn : 0 ≤ M.need s) :
    Calls Tryd.prog 82 #[.pointer (some ⟨gx, 0, none⟩), .int .i64 (M.need s)] w (Answers (fun k => k = gx ∨ own k) (pokedR gx T rv port bv b base Rep) (M.fin s) w) := by
  have HPk := Lib.hid (poke_any M Rep T rv fN fH fF fE fM rN rH rF rE rM hD hR gx port bv b base s own w hP hb)
  have goE := hD.goE
  have inE := hD.inE
  unfold Goes at goE
  unfold Enters at inE
  have HD := Lib.hid hD
  clear hD hR hP
  go_enter Tryd.func82, Tryd.ntmps82
  go_wp2_with fail
  refine HPk.out.mono ?_
  rintro e w1 ⟨rfl, hp1, hf1⟩
  have c0 := hp1.c0
  have HP1 := Lib.hid hp1
  have HF1 := Lib.hid hf1
  clear hp1 hf1
  go_wp2_with fail
  refine (HD.out.fin s own w1 HP1.out.rep hn).mono ?_
  rintro e w2 h2
  have h3 := poked_answers HP1.out HF1.out h2
  obtain ⟨v2, rfl, hrest⟩ := h3
  have HRest := Lib.hid hrest
  clear h2 hrest c0
  go_wp2_with fail
  go_ret2
  exact ⟨v2, rfl, HRest.out⟩

set_option maxRecDepth 100000 in
set_option maxHeartbeats 2000000 in
theorem pokeMore_any (hD : Driven M pasteBase Rep T rv fN fH fF fE fM rN rH rF rE rM) (hR : Refusing M Rep fF fE fM rF rE rM) (hP : Poked gx T rv port bv b base Rep s own w) (hb : b.length ≤ 1000) (hn : M.need s = -2) :
    Calls Tryd.prog 85 #[.pointer (some ⟨gx, 0, none⟩)] w (Answers (fun k => k = gx ∨ own k) (pokedR gx T rv port bv b base Rep) (M.more s) w) := by
  have HPk := Lib.hid (poke_any M Rep T rv fN fH fF fE fM rN rH rF rE rM hD hR gx port bv b base s own w hP hb)
  have goM := hD.goM
  have inM := hD.inM
  unfold Goes at goM
  unfold Enters at inM
  have HD := Lib.hid hD
  clear hD hR hP
  go_enter Tryd.func85, Tryd.ntmps85
  go_wp2_with fail
  refine HPk.out.mono ?_
  rintro e w1 ⟨rfl, hp1, hf1⟩
  have c0 := hp1.c0
  have HP1 := Lib.hid hp1
  have HF1 := Lib.hid hf1
  clear hp1 hf1
  go_wp2_with fail
  refine (HD.out.more s own w1 HP1.out.rep hn).mono ?_
  rintro e w2 h2
  have h3 := poked_answers HP1.out HF1.out h2
  obtain ⟨v2, rfl, hrest⟩ := h3
  have HRest := Lib.hid hrest
  clear h2 hrest c0
  go_wp2_with fail
  go_ret2
  exact ⟨v2, rfl, HRest.out⟩

end

theorem poked_goes (gx : Nat) (w : World) :
    (method 257 50 (.pointer (some ⟨gx, 0, none⟩)) "Need").run Tryd.prog w = .ok (86, .pointer (some ⟨gx, 0, none⟩)) w ∧
    (method 257 50 (.pointer (some ⟨gx, 0, none⟩)) "Held").run Tryd.prog w = .ok (84, .pointer (some ⟨gx, 0, none⟩)) w ∧
    (method 257 50 (.pointer (some ⟨gx, 0, none⟩)) "Feed").run Tryd.prog w = .ok (83, .pointer (some ⟨gx, 0, none⟩)) w ∧
    (method 257 50 (.pointer (some ⟨gx, 0, none⟩)) "End").run Tryd.prog w = .ok (82, .pointer (some ⟨gx, 0, none⟩)) w ∧
    (method 257 50 (.pointer (some ⟨gx, 0, none⟩)) "More").run Tryd.prog w = .ok (85, .pointer (some ⟨gx, 0, none⟩)) w :=
  ⟨by kernel_rfl, by kernel_rfl, by kernel_rfl, by kernel_rfl, by kernel_rfl⟩

theorem poked_driven {S : Type} (M : Mach S) (Rep : S → (Nat → Prop) → World → Prop) (T : TypeId) (rv : Value) (fN fH fF fE fM : FuncId) (rN rH rF rE rM : Value) (hD : Driven M pasteBase Rep T rv fN fH fF fE fM rN rH rF rE rM) (hR : Refusing M Rep fF fE fM rF rE rM)
    (gx : Nat) (port : Int) (bv : Value) (b : List UInt8) (base : Nat) (hb : b.length ≤ 1000) :
    Driven M base (pokedR gx T rv port bv b base Rep) 50 (.pointer (some ⟨gx, 0, none⟩)) 86 84 83 82 85
      (.pointer (some ⟨gx, 0, none⟩)) (.pointer (some ⟨gx, 0, none⟩)) (.pointer (some ⟨gx, 0, none⟩)) (.pointer (some ⟨gx, 0, none⟩)) (.pointer (some ⟨gx, 0, none⟩)) where
  goN w := (poked_goes gx w).1
  goH w := (poked_goes gx w).2.1
  goF w := (poked_goes gx w).2.2.1
  goE w := (poked_goes gx w).2.2.2.1
  goM w := (poked_goes gx w).2.2.2.2
  inN := enters_of Tryd.func86 (by kernel_rfl) (by kernel_rfl)
  inH := enters_of Tryd.func84 (by kernel_rfl) (by kernel_rfl)
  inF := enters_of Tryd.func83 (by kernel_rfl) (by kernel_rfl)
  inE := enters_of Tryd.func82 (by kernel_rfl) (by kernel_rfl)
  inM := enters_of Tryd.func85 (by kernel_rfl) (by kernel_rfl)
  keep s own' w w' p h hf hp := by
    obtain ⟨own, h, rfl⟩ := h
    exact ⟨own, h.keep hD.keep hf (hp gx (.inl (.inl rfl))) (fun k hk => by rcases hk with hk | hk; exact hp k (.inl (.inr hk)); exact hp k (.inr hk)), rfl⟩
  old s own' w h k hk := by
    obtain ⟨own, h, rfl⟩ := h
    rcases hk with rfl | hk
    · exact h.lt
    · exact hD.old s own w h.rep k hk
  need s own' w h := by
    obtain ⟨own, h, rfl⟩ := h
    exact pokeNeed_any hD h
  held s own' w h := by
    obtain ⟨own, h, rfl⟩ := h
    exact pokeHeld_any hD h
  feed s own' w v x h hn hB h1 h32 := by
    obtain ⟨own, h, rfl⟩ := h
    exact pokeFeed_any hD hR h hb hn hB h1 h32
  fin s own' w h hn := by
    obtain ⟨own, h, rfl⟩ := h
    exact pokeEnd_any hD hR h hb hn
  more s own' w h hn := by
    obtain ⟨own, h, rfl⟩ := h
    exact pokeMore_any hD hR h hb hn
  heldB s own' w h := by
    obtain ⟨own, h, rfl⟩ := h
    exact hD.heldB s own w h.rep

end Go.Proofs.YteghdepedlaneaaDoor
