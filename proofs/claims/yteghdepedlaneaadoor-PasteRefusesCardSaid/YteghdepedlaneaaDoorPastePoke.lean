/- What the law's poked machine does: between all calls it makes those that are not due. -/
import Derived.Test.YteghdepedlaneaaDoorRC
import Derived.Test.YteghdepedlaneaaDoorPB
import Derived.Test.YteghdepedlaneaaDoorPsD
import Derived.Test.YteghdepedlaneaaDoorGheavy
import Derived.Outline
import Derived.Deep.RegionHeld3
namespace Go.Proofs.YteghdepedlaneaaDoor
open Go.RowKit

def pokeRow (T : TypeId) (rv : Value) (port : Int) (bv : Value) : Array Value := #[.iface T rv, .int .i64 port, bv, .bool false]
def PokeS (gx : Nat) (T : TypeId) (rv : Value) (port : Int) (bv : Value) (w W : World) : Prop := W.heap[gx]? = some (.cells (pokeRow T rv port bv) 52 (0, 0)) ∧ Below w.heap.size w W
structure Poked {S : Type} (gx : Nat) (T : TypeId) (rv : Value) (port : Int) (bv : Value) (b : List UInt8) (base : Nat) (Rep : S → (Nat → Prop) → World → Prop) (s : S) (own : Nat → Prop) (w : World) : Prop where
  row : w.heap[gx]? = some (.cells (pokeRow T rv port bv) 52 (0, 0))
  rep : Rep s own w
  apart : ¬ own gx
  far : ∀ k, own k → base ≤ k
  here : base ≤ gx
  deep : pasteBase ≤ base
  bytes : IsBytes (· < base) w bv b
section
variable {S : Type} {gx : Nat} {T : TypeId} {rv : Value} {port : Int} {bv : Value} {b : List UInt8} {base : Nat} {Rep : S → (Nat → Prop) → World → Prop} {s : S} {own : Nat → Prop} {w w' : World}
theorem Poked.lt (h : Poked gx T rv port bv b base Rep s own w) : gx < w.heap.size := (Array.getElem?_eq_some_iff.1 h.row).1
theorem Poked.c0 (h : Poked gx T rv port bv b base Rep s own w) : w.cell? ⟨gx, 0, none⟩ = some (.iface T rv) := by rw [cell_of_row _ _ _ _ _ _ h.row]; rfl
theorem Poked.c1 (h : Poked gx T rv port bv b base Rep s own w) : w.cell? ⟨gx, 1, none⟩ = some (.int .i64 port) := by rw [cell_of_row _ _ _ _ _ _ h.row]; rfl
theorem Poked.c2 (h : Poked gx T rv port bv b base Rep s own w) : w.cell? ⟨gx, 2, none⟩ = some bv := by rw [cell_of_row _ _ _ _ _ _ h.row]; rfl
theorem Poked.c3 (h : Poked gx T rv port bv b base Rep s own w) : w.cell? ⟨gx, 3, none⟩ = some (.bool false) := by rw [cell_of_row _ _ _ _ _ _ h.row]; rfl
theorem Poked.froz (h : Poked gx T rv port bv b base Rep s own w) (o : Nat) : w.frozen? ⟨gx, o, none⟩ = false := by simp [World.frozen?, h.row]
theorem Poked.keep (h : Poked gx T rv port bv b base Rep s own w) (hk : ∀ s own w w' p, Rep s own w → Frame p w w' → (∀ k, own k ∨ k < pasteBase → ¬ p k) → Rep s own w') {p : Nat → Prop} (hf : Frame p w w') (hg : ¬ p gx) (hp : ∀ k, own k ∨ k < base → ¬ p k) : Poked gx T rv port bv b base Rep s own w' :=
  ⟨hf.heap h.row hg, hk _ _ _ _ _ h.rep hf (fun k hk => by rcases hk with hk | hk; exact hp k (.inl hk); exact hp k (.inr (Nat.lt_of_lt_of_le hk h.deep))), h.apart, h.far, h.here, h.deep, h.bytes.frame hf (fun k hk => hp k (.inr hk))⟩
/-- x.bad is written, as it was. -/
theorem Poked.same (h : Poked gx T rv port bv b base Rep s own w) (hk : ∀ s own w w' p, Rep s own w → Frame p w w' → (∀ k, own k ∨ k < pasteBase → ¬ p k) → Rep s own w') : Poked gx T rv port bv b base Rep s own (w.setCell ⟨gx, 3, none⟩ (.bool false)) := by
  have hf := Frame.cell w ⟨gx, 3, none⟩ (.bool false)
  refine ⟨?_, hk _ _ _ _ _ h.rep hf (fun k hk e => ?_), h.apart, h.far, h.here, h.deep, h.bytes.frame hf (fun k hk e => ?_)⟩
  · rw [setCell_row h.row]
    rfl
  · have e' : k = gx := e
    rcases hk with hk | hk
    · exact h.apart (e' ▸ hk)
    · have := h.here
      have := h.deep
      omega
  · have e' : k = gx := e
    have := h.here
    omega
end

set_option maxRecDepth 100000 in
set_option maxHeartbeats 2000000 in
theorem refused_any (gx : Nat) (E : Int) (w : World) (h3 : w.cell? ⟨gx, 3, none⟩ = some (.bool false)) (hz : w.frozen? ⟨gx, 3, none⟩ = false) :
    Calls Tryd.prog 37 #[.pointer (some ⟨gx, 0, none⟩), .int .i64 E, .slice none 0 0, .int .i64 E] w fun e w' => e = .returned (.tuple #[]) ∧ w' = w.setCell ⟨gx, 3, none⟩ (.bool false) := by
  have q1 : (E != E) = false := by simp
  go_enter Tryd.func37, Tryd.ntmps37
  go_wp2_with fail
  go_returns
  exact ⟨rfl, rfl⟩

set_option maxRecDepth 100000 in
set_option maxHeartbeats 16000000 in
theorem poke_any {S : Type} (M : Mach S) (Rep : S → (Nat → Prop) → World → Prop) (T : TypeId) (rv : Value) (fN fH fF fE fM : FuncId) (rN rH rF rE rM : Value) (hD : Driven M pasteBase Rep T rv fN fH fF fE fM rN rH rF rE rM) (hR : Refusing M Rep fF fE fM rF rE rM)
    (gx : Nat) (port : Int) (bv : Value) (b : List UInt8) (base : Nat) (s : S) (own : Nat → Prop) (w : World) (hP : Poked gx T rv port bv b base Rep s own w) (hb : b.length ≤ 1000) :
    Calls Tryd.prog 21 #[.pointer (some ⟨gx, 0, none⟩)] w fun e w' => e = .returned (.tuple #[]) ∧ Poked gx T rv port bv b base Rep s own w' ∧ Frame (· = gx) w w' := by
  have HD := Lib.hid hD
  have HR := Lib.hid hR
  have HP := Lib.hid hP
  obtain ⟨ab, cb, rfl, -, -⟩ := id hP.bytes
  have goN := hD.goN
  have inN := hD.inN
  have goH := hD.goH
  have inH := hD.inH
  have goF := hD.goF
  have inF := hD.inF
  have goE := hD.goE
  have inE := hD.inE
  have goM := hD.goM
  have inM := hD.inM
  unfold Goes at goN goH goF goE goM
  unfold Enters at inN inH inF inE inM
  have c0 := hP.c0
  have c1 := hP.c1
  have c2 := hP.c2
  have c3 := hP.c3
  have z3 := hP.froz 3
  obtain ⟨n, hn⟩ : ∃ n, n = M.need s := ⟨_, rfl⟩
  obtain ⟨hh, hhh⟩ : ∃ hh, hh = M.held s := ⟨_, rfl⟩
  have HN := Lib.hid hn
  have HH := Lib.hid hhh
  have gnn : (n != n) = false := by simp
  have ghh : (hh != hh) = false := by simp
  clear hD hR hP hn hhh
  go_enter Tryd.func21, Tryd.ntmps21
  go_wp2_with fail
  refine (HD.out.need s own w HP.out.rep).mono ?_
  rintro e w' ⟨rfl, rfl⟩
  rw [← HN.out]
  go_wp2_with fail
  refine (HD.out.held s own w HP.out.rep).mono ?_
  rintro e w ⟨rfl, hb0⟩
  have hP0 := HP.out.keep HD.out.keep (p := fun _ => False) (Below.toFrame hb0 _) (fun h => h) (fun _ _ h => h)
  have HF00 := Lib.hid (Below.toFrame hb0 (· = gx))
  clear c0 c1 c2 c3 z3 HP hb0
  have HP := Lib.hid hP0
  have c0 := hP0.c0
  have c1 := hP0.c1
  have c2 := hP0.c2
  have c3 := hP0.c3
  have z3 := hP0.froz 3
  clear hP0
  rw [← HH.out]
  obtain ⟨E, hE⟩ : ∃ E, E = errN n := ⟨_, rfl⟩
  have HE := Lib.hid hE
  clear hE
  by_cases h1 : n = -1
  · obtain rfl : E = 4 := by rw [HE.out, errN, if_pos h1]
    subst h1
    have hne2 : (-1 : Int) ≠ -2 := by decide
    by_cases h2 : port = -1
    · have g2 : (port != -1) = false := by simpa using h2
      clear h2
      by_cases h3 : b.length = 0
      · have g3 : ((b.length : Int) == 0) = true := by simpa using h3
        have H3 := Lib.hid h3
        clear h3
        have HF0 := Lib.hid (Frame.refl (· = gx) w)
        go_upto_region 6 with fail
        refine wp_region_noPanic ?_
        refine wp_region_held (S := PokeS gx T rv port (.slice ab b.length cb) w) (by kernel_rfl) ?_
        change wpAnyH _ _ _ _ _ _ _ _ w.drew
        have hM : PokeS gx T rv port (.slice ab b.length cb) w w.drew := ⟨HP.out.row, (Below.refl _ _).drew⟩
        have kc0 : ∀ W : World, PokeS gx T rv port (.slice ab b.length cb) w W → W.cell? ⟨gx, 0, none⟩ = some (.iface T rv) ∧ W.cell? ⟨gx, 1, none⟩ = some (.int .i64 port) ∧ W.cell? ⟨gx, 2, none⟩ = some (.slice ab b.length cb) := fun W h => ⟨by rw [cell_of_row _ _ _ _ _ _ h.1]; rfl, by rw [cell_of_row _ _ _ _ _ _ h.1]; rfl, by rw [cell_of_row _ _ _ _ _ _ h.1]; rfl⟩
        have hfd : Frame (fun _ => False) w w.drew := (Frame.refl _ _).drew
        clear c0 c1 c2 c3 z3
        generalize w.drew = W2 at hM hfd ⊢
        refine Pm.take_at (i := 0) 46 (.pointer (some ⟨gx, 0, none⟩)) rfl rfl (by kernel_rfl) (by kernel_rfl) (by kernel_rfl) rfl (fun _ _ => by go_simp) hM ?_
        refine Pm.take_at (i := 1) 47 (.pointer (some ⟨gx, 0, none⟩)) rfl rfl (by kernel_rfl) (by kernel_rfl) (by kernel_rfl) rfl (fun _ _ => by go_simp) hM ?_
        refine Pm.take_at (i := 2) 48 (.pointer (some ⟨gx, 0, none⟩)) rfl rfl (by kernel_rfl) (by kernel_rfl) (by kernel_rfl) rfl (fun _ _ => by go_simp) hM ?_
        refine Pm.take_at (i := 3) 49 (.iface T rv) rfl rfl (by kernel_rfl) (by kernel_rfl) (by kernel_rfl) rfl (fun W h => by have hc := (kc0 W h).1; go_simp) hM ?_
        refine Pm.take_at (i := 4) 50 (.pointer (some ⟨gx, 0, none⟩)) rfl rfl (by kernel_rfl) (by kernel_rfl) (by kernel_rfl) rfl (fun _ _ => by go_simp) hM ?_
        refine Pm.take_at (i := 5) 51 (.pointer (some ⟨gx, 0, none⟩)) rfl rfl (by kernel_rfl) (by kernel_rfl) (by kernel_rfl) rfl (fun _ _ => by go_simp) hM ?_
        refine Pm.take_at (i := 6) 52 (.pointer (some ⟨gx, 1, none⟩)) rfl rfl (by kernel_rfl) (by kernel_rfl) (by kernel_rfl) rfl (fun _ _ => by go_simp) hM ?_
        refine Pm.take_at (i := 7) 53 (.int .i64 port) rfl rfl (by kernel_rfl) (by kernel_rfl) (by kernel_rfl) rfl (fun W h => by have hc := (kc0 W h).2.1; go_simp) hM ?_
        refine Pm.take_at (i := 9) 55 (.pointer (some ⟨gx, 0, none⟩)) rfl rfl (by kernel_rfl) (by kernel_rfl) (by kernel_rfl) rfl (fun _ _ => by go_simp) hM ?_
        refine Pm.take_at (i := 10) 56 (.pointer (some ⟨gx, 0, none⟩)) rfl rfl (by kernel_rfl) (by kernel_rfl) (by kernel_rfl) rfl (fun _ _ => by go_simp) hM ?_
        refine Pm.take_at (i := 11) 57 (.pointer (some ⟨gx, 2, none⟩)) rfl rfl (by kernel_rfl) (by kernel_rfl) (by kernel_rfl) rfl (fun _ _ => by go_simp) hM ?_
        refine Pm.take_at (i := 12) 58 (.slice ab b.length cb) rfl rfl (by kernel_rfl) (by kernel_rfl) (by kernel_rfl) rfl (fun W h => by have hc := (kc0 W h).2.2; go_simp) hM ?_
        refine Pm.take_at (i := 14) 60 (.iface T rv) rfl rfl (by kernel_rfl) (by kernel_rfl) (by kernel_rfl) rfl (fun _ _ => by go_simp) hM ?_
        refine Pm.take_at (i := 15) 61 (.iface T rv) rfl rfl (by kernel_rfl) (by kernel_rfl) (by kernel_rfl) rfl (fun _ _ => by go_simp) hM ?_
        have hal : Below W2.heap.size W2 (W2.alloc (.cells #[] 5)) := (Below.refl _ _).alloc (Nat.le_refl _) _
        have hlt2 := (Array.getElem?_eq_some_iff.1 hM.1).1
        have ho4 := World.ownsRow_made (base := W2.heap.size) (e := 5) (size := 1) W2 #[] 0 (Nat.le_refl _) (by decide) rfl
        have hM4 : PokeS gx T rv port (.slice ab b.length cb) w (W2.alloc (.cells #[] 5)) := ⟨(hal.block gx hlt2).trans hM.1, hM.2.trans (hal.mono hM.2.size)⟩
        refine Pm.one_now (i := 8) rfl (by kernel_rfl) rfl ?_
        go_wp2_with fail
        first
          | refine ⟨hM4, ?_⟩
          | skip
        refine Pm.one_now (i := 13) rfl (by kernel_rfl) rfl ?_
        refine Pm.wp_append_fresh (.tmp 54) (.tmp 58) rfl W2.heap.size (.slice (some ⟨W2.heap.size, 0, none⟩) 0 0) _ b rfl ho4 rfl ((HP.out.bytes.below hM4.2).toPm) (by omega) hal.size 59 rfl ?_
        intro v7 W7 ho7 hg7 at7
        clear at7
        have hb7 : Below W2.heap.size W2 W7 := hal.grown hg7 hal.size (fun j ej => (ho4.lt j ej).1)
        have hM7 : PokeS gx T rv port (.slice ab b.length cb) w W7 := ⟨(hb7.block gx hlt2).trans hM.1, hM.2.trans (hb7.mono hM.2.size)⟩
        obtain ⟨a7, c7, rfl⟩ := Pm.owns_slice ho7
        refine ⟨hM7, ?_⟩
        simp only [Act.put]
        have hp7 : Poked gx T rv port (.slice ab b.length cb) b base Rep s own W7 := HP.out.keep HD.out.keep (hfd.then (Below.toFrame hb7 fun _ => False) (fun _ _ h => h)) (fun h => h) (fun _ _ h => h)
        have hf7 : Frame (· = gx) w W7 := HF0.out.trans ((hfd.then (Below.toFrame hb7 fun _ => False) (fun _ _ h => h)).mono (fun _ _ h => h.elim))
        have HP7 := Lib.hid hp7
        have HF7 := Lib.hid hf7
        clear hp7 hf7 hfd hM4 hal ho4 hb7 hg7 ho7 hM kc0
        refine Pm.one_now (i := 16) rfl (by kernel_rfl) rfl ?_
        have hfeed := HR.out.feed s own W7 port a7 b.length c7 HP7.out.rep (by rw [← HN.out]; exact .inr (.inl H3.out))
        rw [← HN.out, ← HE.out] at hfeed
        go_wp2_with fail
        refine hfeed.mono ?_
        rintro e w' ⟨rfl, rfl⟩
        refine ⟨hM7, ?_⟩
        refine Pm.take_at (i := 17) 45 (.tuple #[.slice none 0 0, .int .i64 4]) rfl rfl (by kernel_rfl) (by kernel_rfl) (by kernel_rfl) rfl (fun _ _ => by go_simp) hM7 ?_
        refine Pm.take_at (i := 18) 63 (.slice none 0 0) rfl rfl (by kernel_rfl) (by kernel_rfl) (by kernel_rfl) rfl (fun _ _ => by go_simp) hM7 ?_
        refine Pm.take_at (i := 19) 64 (.int .i64 4) rfl rfl (by kernel_rfl) (by kernel_rfl) (by kernel_rfl) rfl (fun _ _ => by go_simp) hM7 ?_
        refine Pm.take_at (i := 20) 5 (.slice none 0 0) rfl rfl (by kernel_rfl) (by kernel_rfl) (by kernel_rfl) rfl (fun _ _ => by go_simp) hM7 ?_
        refine Pm.take_at (i := 21) 6 (.int .i64 4) rfl rfl (by kernel_rfl) (by kernel_rfl) (by kernel_rfl) rfl (fun _ _ => by go_simp) hM7 ?_
        refine wpAnyH_done (by kernel_rfl) (NoPanic.normal ?_) _
        clear hM7 hlt2
        have c0 := HP7.out.c0
        have c1 := HP7.out.c1
        have c2 := HP7.out.c2
        have c3 := HP7.out.c3
        have z3 := HP7.out.froz 3
        go_wp2_with fail
        refine (refused_any gx _ W7 c3 z3).mono ?_
        rintro e w' ⟨rfl, rfl⟩
        have hpWa := HP7.out.same HD.out.keep
        have hfWa := HF7.out.trans (Frame.cell W7 ⟨gx, 3, none⟩ (.bool false))
        clear c0 c1 c2 c3 z3
        generalize W7.setCell ⟨gx, 3, none⟩ (.bool false) = Wa at hpWa hfWa ⊢
        have HPWa := Lib.hid hpWa
        have HFWa := Lib.hid hfWa
        clear hpWa hfWa
        have c0 := HPWa.out.c0
        have c1 := HPWa.out.c1
        have c2 := HPWa.out.c2
        have c3 := HPWa.out.c3
        have z3 := HPWa.out.froz 3
        have hmore := HR.out.more s own Wa HPWa.out.rep (by rw [← HN.out]; exact hne2)
        rw [← HN.out, ← HE.out] at hmore
        go_wp2_with fail
        refine hmore.mono ?_
        rintro e w' ⟨rfl, rfl⟩
        go_wp2_with fail
        refine (refused_any gx _ Wa c3 z3).mono ?_
        rintro e w' ⟨rfl, rfl⟩
        have hpWc := HPWa.out.same HD.out.keep
        have hfWc := HFWa.out.trans (Frame.cell Wa ⟨gx, 3, none⟩ (.bool false))
        clear c0 c1 c2 c3 z3
        generalize Wa.setCell ⟨gx, 3, none⟩ (.bool false) = Wc at hpWc hfWc ⊢
        have HPWc := Lib.hid hpWc
        have HFWc := Lib.hid hfWc
        clear hpWc hfWc
        have c0 := HPWc.out.c0
        have c1 := HPWc.out.c1
        have c2 := HPWc.out.c2
        have c3 := HPWc.out.c3
        have z3 := HPWc.out.froz 3
        go_wp2_with fail
        refine (HD.out.need s own Wc HPWc.out.rep).mono ?_
        rintro e w' ⟨rfl, rfl⟩
        rw [← HN.out]
        go_wp2_with fail
        refine (HD.out.held s own Wc HPWc.out.rep).mono ?_
        rintro e w' ⟨rfl, hbq⟩
        have HFq := Lib.hid (Below.toFrame hbq (· = gx))
        have HPWc := Lib.hid (HPWc.out.keep HD.out.keep (p := fun _ => False) (Below.toFrame hbq _) (fun h => h) (fun _ _ h => h))
        clear hbq
        have cq3 := HPWc.out.c3
        have zq3 := HPWc.out.froz 3
        rw [← HH.out]
        go_wp2_with fail
        go_returns
        exact ⟨rfl, HPWc.out.same HD.out.keep, HF00.out.trans ((HFWc.out.trans HFq.out).trans (Frame.cell _ ⟨gx, 3, none⟩ (.bool false)))⟩
      · have g3 : ((b.length : Int) == 0) = false := by simpa using h3
        by_cases h4 : 32 < b.length
        · have g4 : (32 : Int) < (b.length : Int) := by omega
          have H4 := Lib.hid h4
          clear h4
          have HF0 := Lib.hid (Frame.refl (· = gx) w)
          go_upto_region 6 with fail
          refine wp_region_noPanic ?_
          refine wp_region_held (S := PokeS gx T rv port (.slice ab b.length cb) w) (by kernel_rfl) ?_
          change wpAnyH _ _ _ _ _ _ _ _ w.drew
          have hM : PokeS gx T rv port (.slice ab b.length cb) w w.drew := ⟨HP.out.row, (Below.refl _ _).drew⟩
          have kc0 : ∀ W : World, PokeS gx T rv port (.slice ab b.length cb) w W → W.cell? ⟨gx, 0, none⟩ = some (.iface T rv) ∧ W.cell? ⟨gx, 1, none⟩ = some (.int .i64 port) ∧ W.cell? ⟨gx, 2, none⟩ = some (.slice ab b.length cb) := fun W h => ⟨by rw [cell_of_row _ _ _ _ _ _ h.1]; rfl, by rw [cell_of_row _ _ _ _ _ _ h.1]; rfl, by rw [cell_of_row _ _ _ _ _ _ h.1]; rfl⟩
          have hfd : Frame (fun _ => False) w w.drew := (Frame.refl _ _).drew
          clear c0 c1 c2 c3 z3
          generalize w.drew = W2 at hM hfd ⊢
          refine Pm.take_at (i := 0) 46 (.pointer (some ⟨gx, 0, none⟩)) rfl rfl (by kernel_rfl) (by kernel_rfl) (by kernel_rfl) rfl (fun _ _ => by go_simp) hM ?_
          refine Pm.take_at (i := 1) 47 (.pointer (some ⟨gx, 0, none⟩)) rfl rfl (by kernel_rfl) (by kernel_rfl) (by kernel_rfl) rfl (fun _ _ => by go_simp) hM ?_
          refine Pm.take_at (i := 2) 48 (.pointer (some ⟨gx, 0, none⟩)) rfl rfl (by kernel_rfl) (by kernel_rfl) (by kernel_rfl) rfl (fun _ _ => by go_simp) hM ?_
          refine Pm.take_at (i := 3) 49 (.iface T rv) rfl rfl (by kernel_rfl) (by kernel_rfl) (by kernel_rfl) rfl (fun W h => by have hc := (kc0 W h).1; go_simp) hM ?_
          refine Pm.take_at (i := 4) 50 (.pointer (some ⟨gx, 0, none⟩)) rfl rfl (by kernel_rfl) (by kernel_rfl) (by kernel_rfl) rfl (fun _ _ => by go_simp) hM ?_
          refine Pm.take_at (i := 5) 51 (.pointer (some ⟨gx, 0, none⟩)) rfl rfl (by kernel_rfl) (by kernel_rfl) (by kernel_rfl) rfl (fun _ _ => by go_simp) hM ?_
          refine Pm.take_at (i := 6) 52 (.pointer (some ⟨gx, 1, none⟩)) rfl rfl (by kernel_rfl) (by kernel_rfl) (by kernel_rfl) rfl (fun _ _ => by go_simp) hM ?_
          refine Pm.take_at (i := 7) 53 (.int .i64 port) rfl rfl (by kernel_rfl) (by kernel_rfl) (by kernel_rfl) rfl (fun W h => by have hc := (kc0 W h).2.1; go_simp) hM ?_
          refine Pm.take_at (i := 9) 55 (.pointer (some ⟨gx, 0, none⟩)) rfl rfl (by kernel_rfl) (by kernel_rfl) (by kernel_rfl) rfl (fun _ _ => by go_simp) hM ?_
          refine Pm.take_at (i := 10) 56 (.pointer (some ⟨gx, 0, none⟩)) rfl rfl (by kernel_rfl) (by kernel_rfl) (by kernel_rfl) rfl (fun _ _ => by go_simp) hM ?_
          refine Pm.take_at (i := 11) 57 (.pointer (some ⟨gx, 2, none⟩)) rfl rfl (by kernel_rfl) (by kernel_rfl) (by kernel_rfl) rfl (fun _ _ => by go_simp) hM ?_
          refine Pm.take_at (i := 12) 58 (.slice ab b.length cb) rfl rfl (by kernel_rfl) (by kernel_rfl) (by kernel_rfl) rfl (fun W h => by have hc := (kc0 W h).2.2; go_simp) hM ?_
          refine Pm.take_at (i := 14) 60 (.iface T rv) rfl rfl (by kernel_rfl) (by kernel_rfl) (by kernel_rfl) rfl (fun _ _ => by go_simp) hM ?_
          refine Pm.take_at (i := 15) 61 (.iface T rv) rfl rfl (by kernel_rfl) (by kernel_rfl) (by kernel_rfl) rfl (fun _ _ => by go_simp) hM ?_
          have hal : Below W2.heap.size W2 (W2.alloc (.cells #[] 5)) := (Below.refl _ _).alloc (Nat.le_refl _) _
          have hlt2 := (Array.getElem?_eq_some_iff.1 hM.1).1
          have ho4 := World.ownsRow_made (base := W2.heap.size) (e := 5) (size := 1) W2 #[] 0 (Nat.le_refl _) (by decide) rfl
          have hM4 : PokeS gx T rv port (.slice ab b.length cb) w (W2.alloc (.cells #[] 5)) := ⟨(hal.block gx hlt2).trans hM.1, hM.2.trans (hal.mono hM.2.size)⟩
          refine Pm.one_now (i := 8) rfl (by kernel_rfl) rfl ?_
          go_wp2_with fail
          first
            | refine ⟨hM4, ?_⟩
            | skip
          refine Pm.one_now (i := 13) rfl (by kernel_rfl) rfl ?_
          refine Pm.wp_append_fresh (.tmp 54) (.tmp 58) rfl W2.heap.size (.slice (some ⟨W2.heap.size, 0, none⟩) 0 0) _ b rfl ho4 rfl ((HP.out.bytes.below hM4.2).toPm) (by omega) hal.size 59 rfl ?_
          intro v7 W7 ho7 hg7 at7
          clear at7
          have hb7 : Below W2.heap.size W2 W7 := hal.grown hg7 hal.size (fun j ej => (ho4.lt j ej).1)
          have hM7 : PokeS gx T rv port (.slice ab b.length cb) w W7 := ⟨(hb7.block gx hlt2).trans hM.1, hM.2.trans (hb7.mono hM.2.size)⟩
          obtain ⟨a7, c7, rfl⟩ := Pm.owns_slice ho7
          refine ⟨hM7, ?_⟩
          simp only [Act.put]
          have hp7 : Poked gx T rv port (.slice ab b.length cb) b base Rep s own W7 := HP.out.keep HD.out.keep (hfd.then (Below.toFrame hb7 fun _ => False) (fun _ _ h => h)) (fun h => h) (fun _ _ h => h)
          have hf7 : Frame (· = gx) w W7 := HF0.out.trans ((hfd.then (Below.toFrame hb7 fun _ => False) (fun _ _ h => h)).mono (fun _ _ h => h.elim))
          have HP7 := Lib.hid hp7
          have HF7 := Lib.hid hf7
          clear hp7 hf7 hfd hM4 hal ho4 hb7 hg7 ho7 hM kc0
          refine Pm.one_now (i := 16) rfl (by kernel_rfl) rfl ?_
          have hfeed := HR.out.feed s own W7 port a7 b.length c7 HP7.out.rep (by rw [← HN.out]; exact .inr (.inr H4.out))
          rw [← HN.out, ← HE.out] at hfeed
          go_wp2_with fail
          refine hfeed.mono ?_
          rintro e w' ⟨rfl, rfl⟩
          refine ⟨hM7, ?_⟩
          refine Pm.take_at (i := 17) 45 (.tuple #[.slice none 0 0, .int .i64 4]) rfl rfl (by kernel_rfl) (by kernel_rfl) (by kernel_rfl) rfl (fun _ _ => by go_simp) hM7 ?_
          refine Pm.take_at (i := 18) 63 (.slice none 0 0) rfl rfl (by kernel_rfl) (by kernel_rfl) (by kernel_rfl) rfl (fun _ _ => by go_simp) hM7 ?_
          refine Pm.take_at (i := 19) 64 (.int .i64 4) rfl rfl (by kernel_rfl) (by kernel_rfl) (by kernel_rfl) rfl (fun _ _ => by go_simp) hM7 ?_
          refine Pm.take_at (i := 20) 5 (.slice none 0 0) rfl rfl (by kernel_rfl) (by kernel_rfl) (by kernel_rfl) rfl (fun _ _ => by go_simp) hM7 ?_
          refine Pm.take_at (i := 21) 6 (.int .i64 4) rfl rfl (by kernel_rfl) (by kernel_rfl) (by kernel_rfl) rfl (fun _ _ => by go_simp) hM7 ?_
          refine wpAnyH_done (by kernel_rfl) (NoPanic.normal ?_) _
          clear hM7 hlt2
          have c0 := HP7.out.c0
          have c1 := HP7.out.c1
          have c2 := HP7.out.c2
          have c3 := HP7.out.c3
          have z3 := HP7.out.froz 3
          go_wp2_with fail
          refine (refused_any gx _ W7 c3 z3).mono ?_
          rintro e w' ⟨rfl, rfl⟩
          have hpWa := HP7.out.same HD.out.keep
          have hfWa := HF7.out.trans (Frame.cell W7 ⟨gx, 3, none⟩ (.bool false))
          clear c0 c1 c2 c3 z3
          generalize W7.setCell ⟨gx, 3, none⟩ (.bool false) = Wa at hpWa hfWa ⊢
          have HPWa := Lib.hid hpWa
          have HFWa := Lib.hid hfWa
          clear hpWa hfWa
          have c0 := HPWa.out.c0
          have c1 := HPWa.out.c1
          have c2 := HPWa.out.c2
          have c3 := HPWa.out.c3
          have z3 := HPWa.out.froz 3
          have hmore := HR.out.more s own Wa HPWa.out.rep (by rw [← HN.out]; exact hne2)
          rw [← HN.out, ← HE.out] at hmore
          go_wp2_with fail
          refine hmore.mono ?_
          rintro e w' ⟨rfl, rfl⟩
          go_wp2_with fail
          refine (refused_any gx _ Wa c3 z3).mono ?_
          rintro e w' ⟨rfl, rfl⟩
          have hpWc := HPWa.out.same HD.out.keep
          have hfWc := HFWa.out.trans (Frame.cell Wa ⟨gx, 3, none⟩ (.bool false))
          clear c0 c1 c2 c3 z3
          generalize Wa.setCell ⟨gx, 3, none⟩ (.bool false) = Wc at hpWc hfWc ⊢
          have HPWc := Lib.hid hpWc
          have HFWc := Lib.hid hfWc
          clear hpWc hfWc
          have c0 := HPWc.out.c0
          have c1 := HPWc.out.c1
          have c2 := HPWc.out.c2
          have c3 := HPWc.out.c3
          have z3 := HPWc.out.froz 3
          go_wp2_with fail
          refine (HD.out.need s own Wc HPWc.out.rep).mono ?_
          rintro e w' ⟨rfl, rfl⟩
          rw [← HN.out]
          go_wp2_with fail
          refine (HD.out.held s own Wc HPWc.out.rep).mono ?_
          rintro e w' ⟨rfl, hbq⟩
          have HFq := Lib.hid (Below.toFrame hbq (· = gx))
          have HPWc := Lib.hid (HPWc.out.keep HD.out.keep (p := fun _ => False) (Below.toFrame hbq _) (fun h => h) (fun _ _ h => h))
          clear hbq
          have cq3 := HPWc.out.c3
          have zq3 := HPWc.out.froz 3
          rw [← HH.out]
          go_wp2_with fail
          go_returns
          exact ⟨rfl, HPWc.out.same HD.out.keep, HF00.out.trans ((HFWc.out.trans HFq.out).trans (Frame.cell _ ⟨gx, 3, none⟩ (.bool false)))⟩
        · have g4 : ¬ (32 : Int) < (b.length : Int) := by omega
          have HF0 := Lib.hid (Frame.refl (· = gx) w)
          have hmore := HR.out.more s own w HP.out.rep (by rw [← HN.out]; exact hne2)
          rw [← HN.out, ← HE.out] at hmore
          go_wp2_with fail
          refine hmore.mono ?_
          rintro e w' ⟨rfl, rfl⟩
          go_wp2_with fail
          refine (refused_any gx _ w c3 z3).mono ?_
          rintro e w' ⟨rfl, rfl⟩
          have hpWc := HP.out.same HD.out.keep
          have hfWc := HF0.out.trans (Frame.cell w ⟨gx, 3, none⟩ (.bool false))
          clear c0 c1 c2 c3 z3
          generalize w.setCell ⟨gx, 3, none⟩ (.bool false) = Wc at hpWc hfWc ⊢
          have HPWc := Lib.hid hpWc
          have HFWc := Lib.hid hfWc
          clear hpWc hfWc
          have c0 := HPWc.out.c0
          have c1 := HPWc.out.c1
          have c2 := HPWc.out.c2
          have c3 := HPWc.out.c3
          have z3 := HPWc.out.froz 3
          go_wp2_with fail
          refine (HD.out.need s own Wc HPWc.out.rep).mono ?_
          rintro e w' ⟨rfl, rfl⟩
          rw [← HN.out]
          go_wp2_with fail
          refine (HD.out.held s own Wc HPWc.out.rep).mono ?_
          rintro e w' ⟨rfl, hbq⟩
          have HFq := Lib.hid (Below.toFrame hbq (· = gx))
          have HPWc := Lib.hid (HPWc.out.keep HD.out.keep (p := fun _ => False) (Below.toFrame hbq _) (fun h => h) (fun _ _ h => h))
          clear hbq
          have cq3 := HPWc.out.c3
          have zq3 := HPWc.out.froz 3
          rw [← HH.out]
          go_wp2_with fail
          go_returns
          exact ⟨rfl, HPWc.out.same HD.out.keep, HF00.out.trans ((HFWc.out.trans HFq.out).trans (Frame.cell _ ⟨gx, 3, none⟩ (.bool false)))⟩
    · have g2 : (port != -1) = true := by simpa using h2
      have H2 := Lib.hid h2
      clear h2
      have HF0 := Lib.hid (Frame.refl (· = gx) w)
      go_upto_region 6 with fail
      refine wp_region_noPanic ?_
      refine wp_region_held (S := PokeS gx T rv port (.slice ab b.length cb) w) (by kernel_rfl) ?_
      change wpAnyH _ _ _ _ _ _ _ _ w.drew
      have hM : PokeS gx T rv port (.slice ab b.length cb) w w.drew := ⟨HP.out.row, (Below.refl _ _).drew⟩
      have kc0 : ∀ W : World, PokeS gx T rv port (.slice ab b.length cb) w W → W.cell? ⟨gx, 0, none⟩ = some (.iface T rv) ∧ W.cell? ⟨gx, 1, none⟩ = some (.int .i64 port) ∧ W.cell? ⟨gx, 2, none⟩ = some (.slice ab b.length cb) := fun W h => ⟨by rw [cell_of_row _ _ _ _ _ _ h.1]; rfl, by rw [cell_of_row _ _ _ _ _ _ h.1]; rfl, by rw [cell_of_row _ _ _ _ _ _ h.1]; rfl⟩
      have hfd : Frame (fun _ => False) w w.drew := (Frame.refl _ _).drew
      clear c0 c1 c2 c3 z3
      generalize w.drew = W2 at hM hfd ⊢
      refine Pm.take_at (i := 0) 46 (.pointer (some ⟨gx, 0, none⟩)) rfl rfl (by kernel_rfl) (by kernel_rfl) (by kernel_rfl) rfl (fun _ _ => by go_simp) hM ?_
      refine Pm.take_at (i := 1) 47 (.pointer (some ⟨gx, 0, none⟩)) rfl rfl (by kernel_rfl) (by kernel_rfl) (by kernel_rfl) rfl (fun _ _ => by go_simp) hM ?_
      refine Pm.take_at (i := 2) 48 (.pointer (some ⟨gx, 0, none⟩)) rfl rfl (by kernel_rfl) (by kernel_rfl) (by kernel_rfl) rfl (fun _ _ => by go_simp) hM ?_
      refine Pm.take_at (i := 3) 49 (.iface T rv) rfl rfl (by kernel_rfl) (by kernel_rfl) (by kernel_rfl) rfl (fun W h => by have hc := (kc0 W h).1; go_simp) hM ?_
      refine Pm.take_at (i := 4) 50 (.pointer (some ⟨gx, 0, none⟩)) rfl rfl (by kernel_rfl) (by kernel_rfl) (by kernel_rfl) rfl (fun _ _ => by go_simp) hM ?_
      refine Pm.take_at (i := 5) 51 (.pointer (some ⟨gx, 0, none⟩)) rfl rfl (by kernel_rfl) (by kernel_rfl) (by kernel_rfl) rfl (fun _ _ => by go_simp) hM ?_
      refine Pm.take_at (i := 6) 52 (.pointer (some ⟨gx, 1, none⟩)) rfl rfl (by kernel_rfl) (by kernel_rfl) (by kernel_rfl) rfl (fun _ _ => by go_simp) hM ?_
      refine Pm.take_at (i := 7) 53 (.int .i64 port) rfl rfl (by kernel_rfl) (by kernel_rfl) (by kernel_rfl) rfl (fun W h => by have hc := (kc0 W h).2.1; go_simp) hM ?_
      refine Pm.take_at (i := 9) 55 (.pointer (some ⟨gx, 0, none⟩)) rfl rfl (by kernel_rfl) (by kernel_rfl) (by kernel_rfl) rfl (fun _ _ => by go_simp) hM ?_
      refine Pm.take_at (i := 10) 56 (.pointer (some ⟨gx, 0, none⟩)) rfl rfl (by kernel_rfl) (by kernel_rfl) (by kernel_rfl) rfl (fun _ _ => by go_simp) hM ?_
      refine Pm.take_at (i := 11) 57 (.pointer (some ⟨gx, 2, none⟩)) rfl rfl (by kernel_rfl) (by kernel_rfl) (by kernel_rfl) rfl (fun _ _ => by go_simp) hM ?_
      refine Pm.take_at (i := 12) 58 (.slice ab b.length cb) rfl rfl (by kernel_rfl) (by kernel_rfl) (by kernel_rfl) rfl (fun W h => by have hc := (kc0 W h).2.2; go_simp) hM ?_
      refine Pm.take_at (i := 14) 60 (.iface T rv) rfl rfl (by kernel_rfl) (by kernel_rfl) (by kernel_rfl) rfl (fun _ _ => by go_simp) hM ?_
      refine Pm.take_at (i := 15) 61 (.iface T rv) rfl rfl (by kernel_rfl) (by kernel_rfl) (by kernel_rfl) rfl (fun _ _ => by go_simp) hM ?_
      have hal : Below W2.heap.size W2 (W2.alloc (.cells #[] 5)) := (Below.refl _ _).alloc (Nat.le_refl _) _
      have hlt2 := (Array.getElem?_eq_some_iff.1 hM.1).1
      have ho4 := World.ownsRow_made (base := W2.heap.size) (e := 5) (size := 1) W2 #[] 0 (Nat.le_refl _) (by decide) rfl
      have hM4 : PokeS gx T rv port (.slice ab b.length cb) w (W2.alloc (.cells #[] 5)) := ⟨(hal.block gx hlt2).trans hM.1, hM.2.trans (hal.mono hM.2.size)⟩
      refine Pm.one_now (i := 8) rfl (by kernel_rfl) rfl ?_
      go_wp2_with fail
      first
        | refine ⟨hM4, ?_⟩
        | skip
      refine Pm.one_now (i := 13) rfl (by kernel_rfl) rfl ?_
      refine Pm.wp_append_fresh (.tmp 54) (.tmp 58) rfl W2.heap.size (.slice (some ⟨W2.heap.size, 0, none⟩) 0 0) _ b rfl ho4 rfl ((HP.out.bytes.below hM4.2).toPm) (by omega) hal.size 59 rfl ?_
      intro v7 W7 ho7 hg7 at7
      clear at7
      have hb7 : Below W2.heap.size W2 W7 := hal.grown hg7 hal.size (fun j ej => (ho4.lt j ej).1)
      have hM7 : PokeS gx T rv port (.slice ab b.length cb) w W7 := ⟨(hb7.block gx hlt2).trans hM.1, hM.2.trans (hb7.mono hM.2.size)⟩
      obtain ⟨a7, c7, rfl⟩ := Pm.owns_slice ho7
      refine ⟨hM7, ?_⟩
      simp only [Act.put]
      have hp7 : Poked gx T rv port (.slice ab b.length cb) b base Rep s own W7 := HP.out.keep HD.out.keep (hfd.then (Below.toFrame hb7 fun _ => False) (fun _ _ h => h)) (fun h => h) (fun _ _ h => h)
      have hf7 : Frame (· = gx) w W7 := HF0.out.trans ((hfd.then (Below.toFrame hb7 fun _ => False) (fun _ _ h => h)).mono (fun _ _ h => h.elim))
      have HP7 := Lib.hid hp7
      have HF7 := Lib.hid hf7
      clear hp7 hf7 hfd hM4 hal ho4 hb7 hg7 ho7 hM kc0
      refine Pm.one_now (i := 16) rfl (by kernel_rfl) rfl ?_
      have hfeed := HR.out.feed s own W7 port a7 b.length c7 HP7.out.rep (by rw [← HN.out]; exact .inl H2.out)
      rw [← HN.out, ← HE.out] at hfeed
      go_wp2_with fail
      refine hfeed.mono ?_
      rintro e w' ⟨rfl, rfl⟩
      refine ⟨hM7, ?_⟩
      refine Pm.take_at (i := 17) 45 (.tuple #[.slice none 0 0, .int .i64 4]) rfl rfl (by kernel_rfl) (by kernel_rfl) (by kernel_rfl) rfl (fun _ _ => by go_simp) hM7 ?_
      refine Pm.take_at (i := 18) 63 (.slice none 0 0) rfl rfl (by kernel_rfl) (by kernel_rfl) (by kernel_rfl) rfl (fun _ _ => by go_simp) hM7 ?_
      refine Pm.take_at (i := 19) 64 (.int .i64 4) rfl rfl (by kernel_rfl) (by kernel_rfl) (by kernel_rfl) rfl (fun _ _ => by go_simp) hM7 ?_
      refine Pm.take_at (i := 20) 5 (.slice none 0 0) rfl rfl (by kernel_rfl) (by kernel_rfl) (by kernel_rfl) rfl (fun _ _ => by go_simp) hM7 ?_
      refine Pm.take_at (i := 21) 6 (.int .i64 4) rfl rfl (by kernel_rfl) (by kernel_rfl) (by kernel_rfl) rfl (fun _ _ => by go_simp) hM7 ?_
      refine wpAnyH_done (by kernel_rfl) (NoPanic.normal ?_) _
      clear hM7 hlt2
      have c0 := HP7.out.c0
      have c1 := HP7.out.c1
      have c2 := HP7.out.c2
      have c3 := HP7.out.c3
      have z3 := HP7.out.froz 3
      go_wp2_with fail
      refine (refused_any gx _ W7 c3 z3).mono ?_
      rintro e w' ⟨rfl, rfl⟩
      have hpWa := HP7.out.same HD.out.keep
      have hfWa := HF7.out.trans (Frame.cell W7 ⟨gx, 3, none⟩ (.bool false))
      clear c0 c1 c2 c3 z3
      generalize W7.setCell ⟨gx, 3, none⟩ (.bool false) = Wa at hpWa hfWa ⊢
      have HPWa := Lib.hid hpWa
      have HFWa := Lib.hid hfWa
      clear hpWa hfWa
      have c0 := HPWa.out.c0
      have c1 := HPWa.out.c1
      have c2 := HPWa.out.c2
      have c3 := HPWa.out.c3
      have z3 := HPWa.out.froz 3
      go_upto_region 9 with fail
      refine wp_region_noPanic ?_
      refine wp_region_held (S := PokeS gx T rv port (.slice ab b.length cb) Wa) (by kernel_rfl) ?_
      change wpAnyH _ _ _ _ _ _ _ _ Wa.drew
      have hM : PokeS gx T rv port (.slice ab b.length cb) Wa Wa.drew := ⟨HPWa.out.row, (Below.refl _ _).drew⟩
      have kc0 : ∀ W : World, PokeS gx T rv port (.slice ab b.length cb) Wa W → W.cell? ⟨gx, 0, none⟩ = some (.iface T rv) ∧ W.cell? ⟨gx, 1, none⟩ = some (.int .i64 port) := fun W h => ⟨by rw [cell_of_row _ _ _ _ _ _ h.1]; rfl, by rw [cell_of_row _ _ _ _ _ _ h.1]; rfl⟩
      have hfd : Frame (fun _ => False) Wa Wa.drew := (Frame.refl _ _).drew
      have hp8 : Poked gx T rv port (.slice ab b.length cb) b base Rep s own Wa.drew := HPWa.out.keep HD.out.keep hfd (fun h => h) (fun _ _ h => h)
      have hf8 : Frame (· = gx) w Wa.drew := HFWa.out.trans (hfd.mono (fun _ _ h => h.elim))
      clear c0 c1 c2 c3 z3 hfd
      generalize Wa.drew = W8 at hM hp8 hf8 ⊢
      have HP8 := Lib.hid hp8
      have HF8 := Lib.hid hf8
      clear hp8 hf8
      refine Pm.take_at (i := 0) 77 (.pointer (some ⟨gx, 0, none⟩)) rfl rfl (by kernel_rfl) (by kernel_rfl) (by kernel_rfl) rfl (fun _ _ => by go_simp) hM ?_
      refine Pm.take_at (i := 1) 78 (.pointer (some ⟨gx, 0, none⟩)) rfl rfl (by kernel_rfl) (by kernel_rfl) (by kernel_rfl) rfl (fun _ _ => by go_simp) hM ?_
      refine Pm.take_at (i := 2) 79 (.pointer (some ⟨gx, 0, none⟩)) rfl rfl (by kernel_rfl) (by kernel_rfl) (by kernel_rfl) rfl (fun _ _ => by go_simp) hM ?_
      refine Pm.take_at (i := 3) 80 (.iface T rv) rfl rfl (by kernel_rfl) (by kernel_rfl) (by kernel_rfl) rfl (fun W h => by have hc := (kc0 W h).1; go_simp) hM ?_
      refine Pm.take_at (i := 4) 81 (.pointer (some ⟨gx, 0, none⟩)) rfl rfl (by kernel_rfl) (by kernel_rfl) (by kernel_rfl) rfl (fun _ _ => by go_simp) hM ?_
      refine Pm.take_at (i := 5) 82 (.pointer (some ⟨gx, 0, none⟩)) rfl rfl (by kernel_rfl) (by kernel_rfl) (by kernel_rfl) rfl (fun _ _ => by go_simp) hM ?_
      refine Pm.take_at (i := 6) 83 (.pointer (some ⟨gx, 1, none⟩)) rfl rfl (by kernel_rfl) (by kernel_rfl) (by kernel_rfl) rfl (fun _ _ => by go_simp) hM ?_
      refine Pm.take_at (i := 7) 84 (.int .i64 port) rfl rfl (by kernel_rfl) (by kernel_rfl) (by kernel_rfl) rfl (fun W h => by have hc := (kc0 W h).2; go_simp) hM ?_
      refine Pm.take_at (i := 8) 85 (.iface T rv) rfl rfl (by kernel_rfl) (by kernel_rfl) (by kernel_rfl) rfl (fun _ _ => by go_simp) hM ?_
      refine Pm.take_at (i := 9) 86 (.iface T rv) rfl rfl (by kernel_rfl) (by kernel_rfl) (by kernel_rfl) rfl (fun _ _ => by go_simp) hM ?_
      clear kc0
      refine Pm.one_now (i := 10) rfl (by kernel_rfl) rfl ?_
      have hend := HR.out.fin s own W8 port HP8.out.rep (by rw [← HN.out]; exact H2.out)
      rw [← HN.out, ← HE.out] at hend
      go_wp2_with fail
      refine hend.mono ?_
      rintro e w' ⟨rfl, rfl⟩
      refine ⟨hM, ?_⟩
      refine Pm.take_at (i := 11) 76 (.tuple #[.slice none 0 0, .int .i64 4]) rfl rfl (by kernel_rfl) (by kernel_rfl) (by kernel_rfl) rfl (fun _ _ => by go_simp) hM ?_
      refine Pm.take_at (i := 12) 88 (.slice none 0 0) rfl rfl (by kernel_rfl) (by kernel_rfl) (by kernel_rfl) rfl (fun _ _ => by go_simp) hM ?_
      refine Pm.take_at (i := 13) 89 (.int .i64 4) rfl rfl (by kernel_rfl) (by kernel_rfl) (by kernel_rfl) rfl (fun _ _ => by go_simp) hM ?_
      refine Pm.take_at (i := 14) 7 (.slice none 0 0) rfl rfl (by kernel_rfl) (by kernel_rfl) (by kernel_rfl) rfl (fun _ _ => by go_simp) hM ?_
      refine Pm.take_at (i := 15) 8 (.int .i64 4) rfl rfl (by kernel_rfl) (by kernel_rfl) (by kernel_rfl) rfl (fun _ _ => by go_simp) hM ?_
      refine wpAnyH_done (by kernel_rfl) (NoPanic.normal ?_) _
      clear hM
      have c0 := HP8.out.c0
      have c1 := HP8.out.c1
      have c2 := HP8.out.c2
      have c3 := HP8.out.c3
      have z3 := HP8.out.froz 3
      go_wp2_with fail
      refine (refused_any gx _ W8 c3 z3).mono ?_
      rintro e w' ⟨rfl, rfl⟩
      have hpWb := HP8.out.same HD.out.keep
      have hfWb := HF8.out.trans (Frame.cell W8 ⟨gx, 3, none⟩ (.bool false))
      clear c0 c1 c2 c3 z3
      generalize W8.setCell ⟨gx, 3, none⟩ (.bool false) = Wb at hpWb hfWb ⊢
      have HPWb := Lib.hid hpWb
      have HFWb := Lib.hid hfWb
      clear hpWb hfWb
      have c0 := HPWb.out.c0
      have c1 := HPWb.out.c1
      have c2 := HPWb.out.c2
      have c3 := HPWb.out.c3
      have z3 := HPWb.out.froz 3
      have hmore := HR.out.more s own Wb HPWb.out.rep (by rw [← HN.out]; exact hne2)
      rw [← HN.out, ← HE.out] at hmore
      go_wp2_with fail
      refine hmore.mono ?_
      rintro e w' ⟨rfl, rfl⟩
      go_wp2_with fail
      refine (refused_any gx _ Wb c3 z3).mono ?_
      rintro e w' ⟨rfl, rfl⟩
      have hpWc := HPWb.out.same HD.out.keep
      have hfWc := HFWb.out.trans (Frame.cell Wb ⟨gx, 3, none⟩ (.bool false))
      clear c0 c1 c2 c3 z3
      generalize Wb.setCell ⟨gx, 3, none⟩ (.bool false) = Wc at hpWc hfWc ⊢
      have HPWc := Lib.hid hpWc
      have HFWc := Lib.hid hfWc
      clear hpWc hfWc
      have c0 := HPWc.out.c0
      have c1 := HPWc.out.c1
      have c2 := HPWc.out.c2
      have c3 := HPWc.out.c3
      have z3 := HPWc.out.froz 3
      go_wp2_with fail
      refine (HD.out.need s own Wc HPWc.out.rep).mono ?_
      rintro e w' ⟨rfl, rfl⟩
      rw [← HN.out]
      go_wp2_with fail
      refine (HD.out.held s own Wc HPWc.out.rep).mono ?_
      rintro e w' ⟨rfl, hbq⟩
      have HFq := Lib.hid (Below.toFrame hbq (· = gx))
      have HPWc := Lib.hid (HPWc.out.keep HD.out.keep (p := fun _ => False) (Below.toFrame hbq _) (fun h => h) (fun _ _ h => h))
      clear hbq
      have cq3 := HPWc.out.c3
      have zq3 := HPWc.out.froz 3
      rw [← HH.out]
      go_wp2_with fail
      go_returns
      exact ⟨rfl, HPWc.out.same HD.out.keep, HF00.out.trans ((HFWc.out.trans HFq.out).trans (Frame.cell _ ⟨gx, 3, none⟩ (.bool false)))⟩
  · have g1 : (n == -1) = false := by simpa using h1
    obtain rfl : E = 1 := by rw [HE.out, errN, if_neg h1]
    by_cases h5 : n = -2
    · subst h5
      clear h1
      by_cases h2 : port = -2
      · have g2 : (port != -2) = false := by simpa using h2
        clear h2
        by_cases h3 : b.length = 0
        · have g3 : ((b.length : Int) == 0) = true := by simpa using h3
          have H3 := Lib.hid h3
          clear h3
          have HF0 := Lib.hid (Frame.refl (· = gx) w)
          go_upto_region 6 with fail
          refine wp_region_noPanic ?_
          refine wp_region_held (S := PokeS gx T rv port (.slice ab b.length cb) w) (by kernel_rfl) ?_
          change wpAnyH _ _ _ _ _ _ _ _ w.drew
          have hM : PokeS gx T rv port (.slice ab b.length cb) w w.drew := ⟨HP.out.row, (Below.refl _ _).drew⟩
          have kc0 : ∀ W : World, PokeS gx T rv port (.slice ab b.length cb) w W → W.cell? ⟨gx, 0, none⟩ = some (.iface T rv) ∧ W.cell? ⟨gx, 1, none⟩ = some (.int .i64 port) ∧ W.cell? ⟨gx, 2, none⟩ = some (.slice ab b.length cb) := fun W h => ⟨by rw [cell_of_row _ _ _ _ _ _ h.1]; rfl, by rw [cell_of_row _ _ _ _ _ _ h.1]; rfl, by rw [cell_of_row _ _ _ _ _ _ h.1]; rfl⟩
          have hfd : Frame (fun _ => False) w w.drew := (Frame.refl _ _).drew
          clear c0 c1 c2 c3 z3
          generalize w.drew = W2 at hM hfd ⊢
          refine Pm.take_at (i := 0) 46 (.pointer (some ⟨gx, 0, none⟩)) rfl rfl (by kernel_rfl) (by kernel_rfl) (by kernel_rfl) rfl (fun _ _ => by go_simp) hM ?_
          refine Pm.take_at (i := 1) 47 (.pointer (some ⟨gx, 0, none⟩)) rfl rfl (by kernel_rfl) (by kernel_rfl) (by kernel_rfl) rfl (fun _ _ => by go_simp) hM ?_
          refine Pm.take_at (i := 2) 48 (.pointer (some ⟨gx, 0, none⟩)) rfl rfl (by kernel_rfl) (by kernel_rfl) (by kernel_rfl) rfl (fun _ _ => by go_simp) hM ?_
          refine Pm.take_at (i := 3) 49 (.iface T rv) rfl rfl (by kernel_rfl) (by kernel_rfl) (by kernel_rfl) rfl (fun W h => by have hc := (kc0 W h).1; go_simp) hM ?_
          refine Pm.take_at (i := 4) 50 (.pointer (some ⟨gx, 0, none⟩)) rfl rfl (by kernel_rfl) (by kernel_rfl) (by kernel_rfl) rfl (fun _ _ => by go_simp) hM ?_
          refine Pm.take_at (i := 5) 51 (.pointer (some ⟨gx, 0, none⟩)) rfl rfl (by kernel_rfl) (by kernel_rfl) (by kernel_rfl) rfl (fun _ _ => by go_simp) hM ?_
          refine Pm.take_at (i := 6) 52 (.pointer (some ⟨gx, 1, none⟩)) rfl rfl (by kernel_rfl) (by kernel_rfl) (by kernel_rfl) rfl (fun _ _ => by go_simp) hM ?_
          refine Pm.take_at (i := 7) 53 (.int .i64 port) rfl rfl (by kernel_rfl) (by kernel_rfl) (by kernel_rfl) rfl (fun W h => by have hc := (kc0 W h).2.1; go_simp) hM ?_
          refine Pm.take_at (i := 9) 55 (.pointer (some ⟨gx, 0, none⟩)) rfl rfl (by kernel_rfl) (by kernel_rfl) (by kernel_rfl) rfl (fun _ _ => by go_simp) hM ?_
          refine Pm.take_at (i := 10) 56 (.pointer (some ⟨gx, 0, none⟩)) rfl rfl (by kernel_rfl) (by kernel_rfl) (by kernel_rfl) rfl (fun _ _ => by go_simp) hM ?_
          refine Pm.take_at (i := 11) 57 (.pointer (some ⟨gx, 2, none⟩)) rfl rfl (by kernel_rfl) (by kernel_rfl) (by kernel_rfl) rfl (fun _ _ => by go_simp) hM ?_
          refine Pm.take_at (i := 12) 58 (.slice ab b.length cb) rfl rfl (by kernel_rfl) (by kernel_rfl) (by kernel_rfl) rfl (fun W h => by have hc := (kc0 W h).2.2; go_simp) hM ?_
          refine Pm.take_at (i := 14) 60 (.iface T rv) rfl rfl (by kernel_rfl) (by kernel_rfl) (by kernel_rfl) rfl (fun _ _ => by go_simp) hM ?_
          refine Pm.take_at (i := 15) 61 (.iface T rv) rfl rfl (by kernel_rfl) (by kernel_rfl) (by kernel_rfl) rfl (fun _ _ => by go_simp) hM ?_
          have hal : Below W2.heap.size W2 (W2.alloc (.cells #[] 5)) := (Below.refl _ _).alloc (Nat.le_refl _) _
          have hlt2 := (Array.getElem?_eq_some_iff.1 hM.1).1
          have ho4 := World.ownsRow_made (base := W2.heap.size) (e := 5) (size := 1) W2 #[] 0 (Nat.le_refl _) (by decide) rfl
          have hM4 : PokeS gx T rv port (.slice ab b.length cb) w (W2.alloc (.cells #[] 5)) := ⟨(hal.block gx hlt2).trans hM.1, hM.2.trans (hal.mono hM.2.size)⟩
          refine Pm.one_now (i := 8) rfl (by kernel_rfl) rfl ?_
          go_wp2_with fail
          first
            | refine ⟨hM4, ?_⟩
            | skip
          refine Pm.one_now (i := 13) rfl (by kernel_rfl) rfl ?_
          refine Pm.wp_append_fresh (.tmp 54) (.tmp 58) rfl W2.heap.size (.slice (some ⟨W2.heap.size, 0, none⟩) 0 0) _ b rfl ho4 rfl ((HP.out.bytes.below hM4.2).toPm) (by omega) hal.size 59 rfl ?_
          intro v7 W7 ho7 hg7 at7
          clear at7
          have hb7 : Below W2.heap.size W2 W7 := hal.grown hg7 hal.size (fun j ej => (ho4.lt j ej).1)
          have hM7 : PokeS gx T rv port (.slice ab b.length cb) w W7 := ⟨(hb7.block gx hlt2).trans hM.1, hM.2.trans (hb7.mono hM.2.size)⟩
          obtain ⟨a7, c7, rfl⟩ := Pm.owns_slice ho7
          refine ⟨hM7, ?_⟩
          simp only [Act.put]
          have hp7 : Poked gx T rv port (.slice ab b.length cb) b base Rep s own W7 := HP.out.keep HD.out.keep (hfd.then (Below.toFrame hb7 fun _ => False) (fun _ _ h => h)) (fun h => h) (fun _ _ h => h)
          have hf7 : Frame (· = gx) w W7 := HF0.out.trans ((hfd.then (Below.toFrame hb7 fun _ => False) (fun _ _ h => h)).mono (fun _ _ h => h.elim))
          have HP7 := Lib.hid hp7
          have HF7 := Lib.hid hf7
          clear hp7 hf7 hfd hM4 hal ho4 hb7 hg7 ho7 hM kc0
          refine Pm.one_now (i := 16) rfl (by kernel_rfl) rfl ?_
          have hfeed := HR.out.feed s own W7 port a7 b.length c7 HP7.out.rep (by rw [← HN.out]; exact .inr (.inl H3.out))
          rw [← HN.out, ← HE.out] at hfeed
          go_wp2_with fail
          refine hfeed.mono ?_
          rintro e w' ⟨rfl, rfl⟩
          refine ⟨hM7, ?_⟩
          refine Pm.take_at (i := 17) 45 (.tuple #[.slice none 0 0, .int .i64 1]) rfl rfl (by kernel_rfl) (by kernel_rfl) (by kernel_rfl) rfl (fun _ _ => by go_simp) hM7 ?_
          refine Pm.take_at (i := 18) 63 (.slice none 0 0) rfl rfl (by kernel_rfl) (by kernel_rfl) (by kernel_rfl) rfl (fun _ _ => by go_simp) hM7 ?_
          refine Pm.take_at (i := 19) 64 (.int .i64 1) rfl rfl (by kernel_rfl) (by kernel_rfl) (by kernel_rfl) rfl (fun _ _ => by go_simp) hM7 ?_
          refine Pm.take_at (i := 20) 5 (.slice none 0 0) rfl rfl (by kernel_rfl) (by kernel_rfl) (by kernel_rfl) rfl (fun _ _ => by go_simp) hM7 ?_
          refine Pm.take_at (i := 21) 6 (.int .i64 1) rfl rfl (by kernel_rfl) (by kernel_rfl) (by kernel_rfl) rfl (fun _ _ => by go_simp) hM7 ?_
          refine wpAnyH_done (by kernel_rfl) (NoPanic.normal ?_) _
          clear hM7 hlt2
          have c0 := HP7.out.c0
          have c1 := HP7.out.c1
          have c2 := HP7.out.c2
          have c3 := HP7.out.c3
          have z3 := HP7.out.froz 3
          go_wp2_with fail
          refine (refused_any gx _ W7 c3 z3).mono ?_
          rintro e w' ⟨rfl, rfl⟩
          have hpWa := HP7.out.same HD.out.keep
          have hfWa := HF7.out.trans (Frame.cell W7 ⟨gx, 3, none⟩ (.bool false))
          clear c0 c1 c2 c3 z3
          generalize W7.setCell ⟨gx, 3, none⟩ (.bool false) = Wa at hpWa hfWa ⊢
          have HPWa := Lib.hid hpWa
          have HFWa := Lib.hid hfWa
          clear hpWa hfWa
          have c0 := HPWa.out.c0
          have c1 := HPWa.out.c1
          have c2 := HPWa.out.c2
          have c3 := HPWa.out.c3
          have z3 := HPWa.out.froz 3
          go_wp2_with fail
          refine (HD.out.need s own Wa HPWa.out.rep).mono ?_
          rintro e w' ⟨rfl, rfl⟩
          rw [← HN.out]
          go_wp2_with fail
          refine (HD.out.held s own Wa HPWa.out.rep).mono ?_
          rintro e w' ⟨rfl, hbq⟩
          have HFq := Lib.hid (Below.toFrame hbq (· = gx))
          have HPWa := Lib.hid (HPWa.out.keep HD.out.keep (p := fun _ => False) (Below.toFrame hbq _) (fun h => h) (fun _ _ h => h))
          clear hbq
          have cq3 := HPWa.out.c3
          have zq3 := HPWa.out.froz 3
          rw [← HH.out]
          go_wp2_with fail
          go_returns
          exact ⟨rfl, HPWa.out.same HD.out.keep, HF00.out.trans ((HFWa.out.trans HFq.out).trans (Frame.cell _ ⟨gx, 3, none⟩ (.bool false)))⟩
        · have g3 : ((b.length : Int) == 0) = false := by simpa using h3
          by_cases h4 : 32 < b.length
          · have g4 : (32 : Int) < (b.length : Int) := by omega
            have H4 := Lib.hid h4
            clear h4
            have HF0 := Lib.hid (Frame.refl (· = gx) w)
            go_upto_region 6 with fail
            refine wp_region_noPanic ?_
            refine wp_region_held (S := PokeS gx T rv port (.slice ab b.length cb) w) (by kernel_rfl) ?_
            change wpAnyH _ _ _ _ _ _ _ _ w.drew
            have hM : PokeS gx T rv port (.slice ab b.length cb) w w.drew := ⟨HP.out.row, (Below.refl _ _).drew⟩
            have kc0 : ∀ W : World, PokeS gx T rv port (.slice ab b.length cb) w W → W.cell? ⟨gx, 0, none⟩ = some (.iface T rv) ∧ W.cell? ⟨gx, 1, none⟩ = some (.int .i64 port) ∧ W.cell? ⟨gx, 2, none⟩ = some (.slice ab b.length cb) := fun W h => ⟨by rw [cell_of_row _ _ _ _ _ _ h.1]; rfl, by rw [cell_of_row _ _ _ _ _ _ h.1]; rfl, by rw [cell_of_row _ _ _ _ _ _ h.1]; rfl⟩
            have hfd : Frame (fun _ => False) w w.drew := (Frame.refl _ _).drew
            clear c0 c1 c2 c3 z3
            generalize w.drew = W2 at hM hfd ⊢
            refine Pm.take_at (i := 0) 46 (.pointer (some ⟨gx, 0, none⟩)) rfl rfl (by kernel_rfl) (by kernel_rfl) (by kernel_rfl) rfl (fun _ _ => by go_simp) hM ?_
            refine Pm.take_at (i := 1) 47 (.pointer (some ⟨gx, 0, none⟩)) rfl rfl (by kernel_rfl) (by kernel_rfl) (by kernel_rfl) rfl (fun _ _ => by go_simp) hM ?_
            refine Pm.take_at (i := 2) 48 (.pointer (some ⟨gx, 0, none⟩)) rfl rfl (by kernel_rfl) (by kernel_rfl) (by kernel_rfl) rfl (fun _ _ => by go_simp) hM ?_
            refine Pm.take_at (i := 3) 49 (.iface T rv) rfl rfl (by kernel_rfl) (by kernel_rfl) (by kernel_rfl) rfl (fun W h => by have hc := (kc0 W h).1; go_simp) hM ?_
            refine Pm.take_at (i := 4) 50 (.pointer (some ⟨gx, 0, none⟩)) rfl rfl (by kernel_rfl) (by kernel_rfl) (by kernel_rfl) rfl (fun _ _ => by go_simp) hM ?_
            refine Pm.take_at (i := 5) 51 (.pointer (some ⟨gx, 0, none⟩)) rfl rfl (by kernel_rfl) (by kernel_rfl) (by kernel_rfl) rfl (fun _ _ => by go_simp) hM ?_
            refine Pm.take_at (i := 6) 52 (.pointer (some ⟨gx, 1, none⟩)) rfl rfl (by kernel_rfl) (by kernel_rfl) (by kernel_rfl) rfl (fun _ _ => by go_simp) hM ?_
            refine Pm.take_at (i := 7) 53 (.int .i64 port) rfl rfl (by kernel_rfl) (by kernel_rfl) (by kernel_rfl) rfl (fun W h => by have hc := (kc0 W h).2.1; go_simp) hM ?_
            refine Pm.take_at (i := 9) 55 (.pointer (some ⟨gx, 0, none⟩)) rfl rfl (by kernel_rfl) (by kernel_rfl) (by kernel_rfl) rfl (fun _ _ => by go_simp) hM ?_
            refine Pm.take_at (i := 10) 56 (.pointer (some ⟨gx, 0, none⟩)) rfl rfl (by kernel_rfl) (by kernel_rfl) (by kernel_rfl) rfl (fun _ _ => by go_simp) hM ?_
            refine Pm.take_at (i := 11) 57 (.pointer (some ⟨gx, 2, none⟩)) rfl rfl (by kernel_rfl) (by kernel_rfl) (by kernel_rfl) rfl (fun _ _ => by go_simp) hM ?_
            refine Pm.take_at (i := 12) 58 (.slice ab b.length cb) rfl rfl (by kernel_rfl) (by kernel_rfl) (by kernel_rfl) rfl (fun W h => by have hc := (kc0 W h).2.2; go_simp) hM ?_
            refine Pm.take_at (i := 14) 60 (.iface T rv) rfl rfl (by kernel_rfl) (by kernel_rfl) (by kernel_rfl) rfl (fun _ _ => by go_simp) hM ?_
            refine Pm.take_at (i := 15) 61 (.iface T rv) rfl rfl (by kernel_rfl) (by kernel_rfl) (by kernel_rfl) rfl (fun _ _ => by go_simp) hM ?_
            have hal : Below W2.heap.size W2 (W2.alloc (.cells #[] 5)) := (Below.refl _ _).alloc (Nat.le_refl _) _
            have hlt2 := (Array.getElem?_eq_some_iff.1 hM.1).1
            have ho4 := World.ownsRow_made (base := W2.heap.size) (e := 5) (size := 1) W2 #[] 0 (Nat.le_refl _) (by decide) rfl
            have hM4 : PokeS gx T rv port (.slice ab b.length cb) w (W2.alloc (.cells #[] 5)) := ⟨(hal.block gx hlt2).trans hM.1, hM.2.trans (hal.mono hM.2.size)⟩
            refine Pm.one_now (i := 8) rfl (by kernel_rfl) rfl ?_
            go_wp2_with fail
            first
              | refine ⟨hM4, ?_⟩
              | skip
            refine Pm.one_now (i := 13) rfl (by kernel_rfl) rfl ?_
            refine Pm.wp_append_fresh (.tmp 54) (.tmp 58) rfl W2.heap.size (.slice (some ⟨W2.heap.size, 0, none⟩) 0 0) _ b rfl ho4 rfl ((HP.out.bytes.below hM4.2).toPm) (by omega) hal.size 59 rfl ?_
            intro v7 W7 ho7 hg7 at7
            clear at7
            have hb7 : Below W2.heap.size W2 W7 := hal.grown hg7 hal.size (fun j ej => (ho4.lt j ej).1)
            have hM7 : PokeS gx T rv port (.slice ab b.length cb) w W7 := ⟨(hb7.block gx hlt2).trans hM.1, hM.2.trans (hb7.mono hM.2.size)⟩
            obtain ⟨a7, c7, rfl⟩ := Pm.owns_slice ho7
            refine ⟨hM7, ?_⟩
            simp only [Act.put]
            have hp7 : Poked gx T rv port (.slice ab b.length cb) b base Rep s own W7 := HP.out.keep HD.out.keep (hfd.then (Below.toFrame hb7 fun _ => False) (fun _ _ h => h)) (fun h => h) (fun _ _ h => h)
            have hf7 : Frame (· = gx) w W7 := HF0.out.trans ((hfd.then (Below.toFrame hb7 fun _ => False) (fun _ _ h => h)).mono (fun _ _ h => h.elim))
            have HP7 := Lib.hid hp7
            have HF7 := Lib.hid hf7
            clear hp7 hf7 hfd hM4 hal ho4 hb7 hg7 ho7 hM kc0
            refine Pm.one_now (i := 16) rfl (by kernel_rfl) rfl ?_
            have hfeed := HR.out.feed s own W7 port a7 b.length c7 HP7.out.rep (by rw [← HN.out]; exact .inr (.inr H4.out))
            rw [← HN.out, ← HE.out] at hfeed
            go_wp2_with fail
            refine hfeed.mono ?_
            rintro e w' ⟨rfl, rfl⟩
            refine ⟨hM7, ?_⟩
            refine Pm.take_at (i := 17) 45 (.tuple #[.slice none 0 0, .int .i64 1]) rfl rfl (by kernel_rfl) (by kernel_rfl) (by kernel_rfl) rfl (fun _ _ => by go_simp) hM7 ?_
            refine Pm.take_at (i := 18) 63 (.slice none 0 0) rfl rfl (by kernel_rfl) (by kernel_rfl) (by kernel_rfl) rfl (fun _ _ => by go_simp) hM7 ?_
            refine Pm.take_at (i := 19) 64 (.int .i64 1) rfl rfl (by kernel_rfl) (by kernel_rfl) (by kernel_rfl) rfl (fun _ _ => by go_simp) hM7 ?_
            refine Pm.take_at (i := 20) 5 (.slice none 0 0) rfl rfl (by kernel_rfl) (by kernel_rfl) (by kernel_rfl) rfl (fun _ _ => by go_simp) hM7 ?_
            refine Pm.take_at (i := 21) 6 (.int .i64 1) rfl rfl (by kernel_rfl) (by kernel_rfl) (by kernel_rfl) rfl (fun _ _ => by go_simp) hM7 ?_
            refine wpAnyH_done (by kernel_rfl) (NoPanic.normal ?_) _
            clear hM7 hlt2
            have c0 := HP7.out.c0
            have c1 := HP7.out.c1
            have c2 := HP7.out.c2
            have c3 := HP7.out.c3
            have z3 := HP7.out.froz 3
            go_wp2_with fail
            refine (refused_any gx _ W7 c3 z3).mono ?_
            rintro e w' ⟨rfl, rfl⟩
            have hpWa := HP7.out.same HD.out.keep
            have hfWa := HF7.out.trans (Frame.cell W7 ⟨gx, 3, none⟩ (.bool false))
            clear c0 c1 c2 c3 z3
            generalize W7.setCell ⟨gx, 3, none⟩ (.bool false) = Wa at hpWa hfWa ⊢
            have HPWa := Lib.hid hpWa
            have HFWa := Lib.hid hfWa
            clear hpWa hfWa
            have c0 := HPWa.out.c0
            have c1 := HPWa.out.c1
            have c2 := HPWa.out.c2
            have c3 := HPWa.out.c3
            have z3 := HPWa.out.froz 3
            go_wp2_with fail
            refine (HD.out.need s own Wa HPWa.out.rep).mono ?_
            rintro e w' ⟨rfl, rfl⟩
            rw [← HN.out]
            go_wp2_with fail
            refine (HD.out.held s own Wa HPWa.out.rep).mono ?_
            rintro e w' ⟨rfl, hbq⟩
            have HFq := Lib.hid (Below.toFrame hbq (· = gx))
            have HPWa := Lib.hid (HPWa.out.keep HD.out.keep (p := fun _ => False) (Below.toFrame hbq _) (fun h => h) (fun _ _ h => h))
            clear hbq
            have cq3 := HPWa.out.c3
            have zq3 := HPWa.out.froz 3
            rw [← HH.out]
            go_wp2_with fail
            go_returns
            exact ⟨rfl, HPWa.out.same HD.out.keep, HF00.out.trans ((HFWa.out.trans HFq.out).trans (Frame.cell _ ⟨gx, 3, none⟩ (.bool false)))⟩
          · have g4 : ¬ (32 : Int) < (b.length : Int) := by omega
            have HF0 := Lib.hid (Frame.refl (· = gx) w)
            go_wp2_with fail
            refine (HD.out.need s own w HP.out.rep).mono ?_
            rintro e w' ⟨rfl, rfl⟩
            rw [← HN.out]
            go_wp2_with fail
            refine (HD.out.held s own w HP.out.rep).mono ?_
            rintro e w' ⟨rfl, hbq⟩
            have HFq := Lib.hid (Below.toFrame hbq (· = gx))
            have HP := Lib.hid (HP.out.keep HD.out.keep (p := fun _ => False) (Below.toFrame hbq _) (fun h => h) (fun _ _ h => h))
            clear hbq
            have cq3 := HP.out.c3
            have zq3 := HP.out.froz 3
            rw [← HH.out]
            go_wp2_with fail
            go_returns
            exact ⟨rfl, HP.out.same HD.out.keep, HF00.out.trans ((HF0.out.trans HFq.out).trans (Frame.cell _ ⟨gx, 3, none⟩ (.bool false)))⟩
      · have g2 : (port != -2) = true := by simpa using h2
        have H2 := Lib.hid h2
        clear h2
        have HF0 := Lib.hid (Frame.refl (· = gx) w)
        go_upto_region 6 with fail
        refine wp_region_noPanic ?_
        refine wp_region_held (S := PokeS gx T rv port (.slice ab b.length cb) w) (by kernel_rfl) ?_
        change wpAnyH _ _ _ _ _ _ _ _ w.drew
        have hM : PokeS gx T rv port (.slice ab b.length cb) w w.drew := ⟨HP.out.row, (Below.refl _ _).drew⟩
        have kc0 : ∀ W : World, PokeS gx T rv port (.slice ab b.length cb) w W → W.cell? ⟨gx, 0, none⟩ = some (.iface T rv) ∧ W.cell? ⟨gx, 1, none⟩ = some (.int .i64 port) ∧ W.cell? ⟨gx, 2, none⟩ = some (.slice ab b.length cb) := fun W h => ⟨by rw [cell_of_row _ _ _ _ _ _ h.1]; rfl, by rw [cell_of_row _ _ _ _ _ _ h.1]; rfl, by rw [cell_of_row _ _ _ _ _ _ h.1]; rfl⟩
        have hfd : Frame (fun _ => False) w w.drew := (Frame.refl _ _).drew
        clear c0 c1 c2 c3 z3
        generalize w.drew = W2 at hM hfd ⊢
        refine Pm.take_at (i := 0) 46 (.pointer (some ⟨gx, 0, none⟩)) rfl rfl (by kernel_rfl) (by kernel_rfl) (by kernel_rfl) rfl (fun _ _ => by go_simp) hM ?_
        refine Pm.take_at (i := 1) 47 (.pointer (some ⟨gx, 0, none⟩)) rfl rfl (by kernel_rfl) (by kernel_rfl) (by kernel_rfl) rfl (fun _ _ => by go_simp) hM ?_
        refine Pm.take_at (i := 2) 48 (.pointer (some ⟨gx, 0, none⟩)) rfl rfl (by kernel_rfl) (by kernel_rfl) (by kernel_rfl) rfl (fun _ _ => by go_simp) hM ?_
        refine Pm.take_at (i := 3) 49 (.iface T rv) rfl rfl (by kernel_rfl) (by kernel_rfl) (by kernel_rfl) rfl (fun W h => by have hc := (kc0 W h).1; go_simp) hM ?_
        refine Pm.take_at (i := 4) 50 (.pointer (some ⟨gx, 0, none⟩)) rfl rfl (by kernel_rfl) (by kernel_rfl) (by kernel_rfl) rfl (fun _ _ => by go_simp) hM ?_
        refine Pm.take_at (i := 5) 51 (.pointer (some ⟨gx, 0, none⟩)) rfl rfl (by kernel_rfl) (by kernel_rfl) (by kernel_rfl) rfl (fun _ _ => by go_simp) hM ?_
        refine Pm.take_at (i := 6) 52 (.pointer (some ⟨gx, 1, none⟩)) rfl rfl (by kernel_rfl) (by kernel_rfl) (by kernel_rfl) rfl (fun _ _ => by go_simp) hM ?_
        refine Pm.take_at (i := 7) 53 (.int .i64 port) rfl rfl (by kernel_rfl) (by kernel_rfl) (by kernel_rfl) rfl (fun W h => by have hc := (kc0 W h).2.1; go_simp) hM ?_
        refine Pm.take_at (i := 9) 55 (.pointer (some ⟨gx, 0, none⟩)) rfl rfl (by kernel_rfl) (by kernel_rfl) (by kernel_rfl) rfl (fun _ _ => by go_simp) hM ?_
        refine Pm.take_at (i := 10) 56 (.pointer (some ⟨gx, 0, none⟩)) rfl rfl (by kernel_rfl) (by kernel_rfl) (by kernel_rfl) rfl (fun _ _ => by go_simp) hM ?_
        refine Pm.take_at (i := 11) 57 (.pointer (some ⟨gx, 2, none⟩)) rfl rfl (by kernel_rfl) (by kernel_rfl) (by kernel_rfl) rfl (fun _ _ => by go_simp) hM ?_
        refine Pm.take_at (i := 12) 58 (.slice ab b.length cb) rfl rfl (by kernel_rfl) (by kernel_rfl) (by kernel_rfl) rfl (fun W h => by have hc := (kc0 W h).2.2; go_simp) hM ?_
        refine Pm.take_at (i := 14) 60 (.iface T rv) rfl rfl (by kernel_rfl) (by kernel_rfl) (by kernel_rfl) rfl (fun _ _ => by go_simp) hM ?_
        refine Pm.take_at (i := 15) 61 (.iface T rv) rfl rfl (by kernel_rfl) (by kernel_rfl) (by kernel_rfl) rfl (fun _ _ => by go_simp) hM ?_
        have hal : Below W2.heap.size W2 (W2.alloc (.cells #[] 5)) := (Below.refl _ _).alloc (Nat.le_refl _) _
        have hlt2 := (Array.getElem?_eq_some_iff.1 hM.1).1
        have ho4 := World.ownsRow_made (base := W2.heap.size) (e := 5) (size := 1) W2 #[] 0 (Nat.le_refl _) (by decide) rfl
        have hM4 : PokeS gx T rv port (.slice ab b.length cb) w (W2.alloc (.cells #[] 5)) := ⟨(hal.block gx hlt2).trans hM.1, hM.2.trans (hal.mono hM.2.size)⟩
        refine Pm.one_now (i := 8) rfl (by kernel_rfl) rfl ?_
        go_wp2_with fail
        first
          | refine ⟨hM4, ?_⟩
          | skip
        refine Pm.one_now (i := 13) rfl (by kernel_rfl) rfl ?_
        refine Pm.wp_append_fresh (.tmp 54) (.tmp 58) rfl W2.heap.size (.slice (some ⟨W2.heap.size, 0, none⟩) 0 0) _ b rfl ho4 rfl ((HP.out.bytes.below hM4.2).toPm) (by omega) hal.size 59 rfl ?_
        intro v7 W7 ho7 hg7 at7
        clear at7
        have hb7 : Below W2.heap.size W2 W7 := hal.grown hg7 hal.size (fun j ej => (ho4.lt j ej).1)
        have hM7 : PokeS gx T rv port (.slice ab b.length cb) w W7 := ⟨(hb7.block gx hlt2).trans hM.1, hM.2.trans (hb7.mono hM.2.size)⟩
        obtain ⟨a7, c7, rfl⟩ := Pm.owns_slice ho7
        refine ⟨hM7, ?_⟩
        simp only [Act.put]
        have hp7 : Poked gx T rv port (.slice ab b.length cb) b base Rep s own W7 := HP.out.keep HD.out.keep (hfd.then (Below.toFrame hb7 fun _ => False) (fun _ _ h => h)) (fun h => h) (fun _ _ h => h)
        have hf7 : Frame (· = gx) w W7 := HF0.out.trans ((hfd.then (Below.toFrame hb7 fun _ => False) (fun _ _ h => h)).mono (fun _ _ h => h.elim))
        have HP7 := Lib.hid hp7
        have HF7 := Lib.hid hf7
        clear hp7 hf7 hfd hM4 hal ho4 hb7 hg7 ho7 hM kc0
        refine Pm.one_now (i := 16) rfl (by kernel_rfl) rfl ?_
        have hfeed := HR.out.feed s own W7 port a7 b.length c7 HP7.out.rep (by rw [← HN.out]; exact .inl H2.out)
        rw [← HN.out, ← HE.out] at hfeed
        go_wp2_with fail
        refine hfeed.mono ?_
        rintro e w' ⟨rfl, rfl⟩
        refine ⟨hM7, ?_⟩
        refine Pm.take_at (i := 17) 45 (.tuple #[.slice none 0 0, .int .i64 1]) rfl rfl (by kernel_rfl) (by kernel_rfl) (by kernel_rfl) rfl (fun _ _ => by go_simp) hM7 ?_
        refine Pm.take_at (i := 18) 63 (.slice none 0 0) rfl rfl (by kernel_rfl) (by kernel_rfl) (by kernel_rfl) rfl (fun _ _ => by go_simp) hM7 ?_
        refine Pm.take_at (i := 19) 64 (.int .i64 1) rfl rfl (by kernel_rfl) (by kernel_rfl) (by kernel_rfl) rfl (fun _ _ => by go_simp) hM7 ?_
        refine Pm.take_at (i := 20) 5 (.slice none 0 0) rfl rfl (by kernel_rfl) (by kernel_rfl) (by kernel_rfl) rfl (fun _ _ => by go_simp) hM7 ?_
        refine Pm.take_at (i := 21) 6 (.int .i64 1) rfl rfl (by kernel_rfl) (by kernel_rfl) (by kernel_rfl) rfl (fun _ _ => by go_simp) hM7 ?_
        refine wpAnyH_done (by kernel_rfl) (NoPanic.normal ?_) _
        clear hM7 hlt2
        have c0 := HP7.out.c0
        have c1 := HP7.out.c1
        have c2 := HP7.out.c2
        have c3 := HP7.out.c3
        have z3 := HP7.out.froz 3
        go_wp2_with fail
        refine (refused_any gx _ W7 c3 z3).mono ?_
        rintro e w' ⟨rfl, rfl⟩
        have hpWa := HP7.out.same HD.out.keep
        have hfWa := HF7.out.trans (Frame.cell W7 ⟨gx, 3, none⟩ (.bool false))
        clear c0 c1 c2 c3 z3
        generalize W7.setCell ⟨gx, 3, none⟩ (.bool false) = Wa at hpWa hfWa ⊢
        have HPWa := Lib.hid hpWa
        have HFWa := Lib.hid hfWa
        clear hpWa hfWa
        have c0 := HPWa.out.c0
        have c1 := HPWa.out.c1
        have c2 := HPWa.out.c2
        have c3 := HPWa.out.c3
        have z3 := HPWa.out.froz 3
        go_upto_region 9 with fail
        refine wp_region_noPanic ?_
        refine wp_region_held (S := PokeS gx T rv port (.slice ab b.length cb) Wa) (by kernel_rfl) ?_
        change wpAnyH _ _ _ _ _ _ _ _ Wa.drew
        have hM : PokeS gx T rv port (.slice ab b.length cb) Wa Wa.drew := ⟨HPWa.out.row, (Below.refl _ _).drew⟩
        have kc0 : ∀ W : World, PokeS gx T rv port (.slice ab b.length cb) Wa W → W.cell? ⟨gx, 0, none⟩ = some (.iface T rv) ∧ W.cell? ⟨gx, 1, none⟩ = some (.int .i64 port) := fun W h => ⟨by rw [cell_of_row _ _ _ _ _ _ h.1]; rfl, by rw [cell_of_row _ _ _ _ _ _ h.1]; rfl⟩
        have hfd : Frame (fun _ => False) Wa Wa.drew := (Frame.refl _ _).drew
        have hp8 : Poked gx T rv port (.slice ab b.length cb) b base Rep s own Wa.drew := HPWa.out.keep HD.out.keep hfd (fun h => h) (fun _ _ h => h)
        have hf8 : Frame (· = gx) w Wa.drew := HFWa.out.trans (hfd.mono (fun _ _ h => h.elim))
        clear c0 c1 c2 c3 z3 hfd
        generalize Wa.drew = W8 at hM hp8 hf8 ⊢
        have HP8 := Lib.hid hp8
        have HF8 := Lib.hid hf8
        clear hp8 hf8
        refine Pm.take_at (i := 0) 77 (.pointer (some ⟨gx, 0, none⟩)) rfl rfl (by kernel_rfl) (by kernel_rfl) (by kernel_rfl) rfl (fun _ _ => by go_simp) hM ?_
        refine Pm.take_at (i := 1) 78 (.pointer (some ⟨gx, 0, none⟩)) rfl rfl (by kernel_rfl) (by kernel_rfl) (by kernel_rfl) rfl (fun _ _ => by go_simp) hM ?_
        refine Pm.take_at (i := 2) 79 (.pointer (some ⟨gx, 0, none⟩)) rfl rfl (by kernel_rfl) (by kernel_rfl) (by kernel_rfl) rfl (fun _ _ => by go_simp) hM ?_
        refine Pm.take_at (i := 3) 80 (.iface T rv) rfl rfl (by kernel_rfl) (by kernel_rfl) (by kernel_rfl) rfl (fun W h => by have hc := (kc0 W h).1; go_simp) hM ?_
        refine Pm.take_at (i := 4) 81 (.pointer (some ⟨gx, 0, none⟩)) rfl rfl (by kernel_rfl) (by kernel_rfl) (by kernel_rfl) rfl (fun _ _ => by go_simp) hM ?_
        refine Pm.take_at (i := 5) 82 (.pointer (some ⟨gx, 0, none⟩)) rfl rfl (by kernel_rfl) (by kernel_rfl) (by kernel_rfl) rfl (fun _ _ => by go_simp) hM ?_
        refine Pm.take_at (i := 6) 83 (.pointer (some ⟨gx, 1, none⟩)) rfl rfl (by kernel_rfl) (by kernel_rfl) (by kernel_rfl) rfl (fun _ _ => by go_simp) hM ?_
        refine Pm.take_at (i := 7) 84 (.int .i64 port) rfl rfl (by kernel_rfl) (by kernel_rfl) (by kernel_rfl) rfl (fun W h => by have hc := (kc0 W h).2; go_simp) hM ?_
        refine Pm.take_at (i := 8) 85 (.iface T rv) rfl rfl (by kernel_rfl) (by kernel_rfl) (by kernel_rfl) rfl (fun _ _ => by go_simp) hM ?_
        refine Pm.take_at (i := 9) 86 (.iface T rv) rfl rfl (by kernel_rfl) (by kernel_rfl) (by kernel_rfl) rfl (fun _ _ => by go_simp) hM ?_
        clear kc0
        refine Pm.one_now (i := 10) rfl (by kernel_rfl) rfl ?_
        have hend := HR.out.fin s own W8 port HP8.out.rep (by rw [← HN.out]; exact H2.out)
        rw [← HN.out, ← HE.out] at hend
        go_wp2_with fail
        refine hend.mono ?_
        rintro e w' ⟨rfl, rfl⟩
        refine ⟨hM, ?_⟩
        refine Pm.take_at (i := 11) 76 (.tuple #[.slice none 0 0, .int .i64 1]) rfl rfl (by kernel_rfl) (by kernel_rfl) (by kernel_rfl) rfl (fun _ _ => by go_simp) hM ?_
        refine Pm.take_at (i := 12) 88 (.slice none 0 0) rfl rfl (by kernel_rfl) (by kernel_rfl) (by kernel_rfl) rfl (fun _ _ => by go_simp) hM ?_
        refine Pm.take_at (i := 13) 89 (.int .i64 1) rfl rfl (by kernel_rfl) (by kernel_rfl) (by kernel_rfl) rfl (fun _ _ => by go_simp) hM ?_
        refine Pm.take_at (i := 14) 7 (.slice none 0 0) rfl rfl (by kernel_rfl) (by kernel_rfl) (by kernel_rfl) rfl (fun _ _ => by go_simp) hM ?_
        refine Pm.take_at (i := 15) 8 (.int .i64 1) rfl rfl (by kernel_rfl) (by kernel_rfl) (by kernel_rfl) rfl (fun _ _ => by go_simp) hM ?_
        refine wpAnyH_done (by kernel_rfl) (NoPanic.normal ?_) _
        clear hM
        have c0 := HP8.out.c0
        have c1 := HP8.out.c1
        have c2 := HP8.out.c2
        have c3 := HP8.out.c3
        have z3 := HP8.out.froz 3
        go_wp2_with fail
        refine (refused_any gx _ W8 c3 z3).mono ?_
        rintro e w' ⟨rfl, rfl⟩
        have hpWb := HP8.out.same HD.out.keep
        have hfWb := HF8.out.trans (Frame.cell W8 ⟨gx, 3, none⟩ (.bool false))
        clear c0 c1 c2 c3 z3
        generalize W8.setCell ⟨gx, 3, none⟩ (.bool false) = Wb at hpWb hfWb ⊢
        have HPWb := Lib.hid hpWb
        have HFWb := Lib.hid hfWb
        clear hpWb hfWb
        have c0 := HPWb.out.c0
        have c1 := HPWb.out.c1
        have c2 := HPWb.out.c2
        have c3 := HPWb.out.c3
        have z3 := HPWb.out.froz 3
        go_wp2_with fail
        refine (HD.out.need s own Wb HPWb.out.rep).mono ?_
        rintro e w' ⟨rfl, rfl⟩
        rw [← HN.out]
        go_wp2_with fail
        refine (HD.out.held s own Wb HPWb.out.rep).mono ?_
        rintro e w' ⟨rfl, hbq⟩
        have HFq := Lib.hid (Below.toFrame hbq (· = gx))
        have HPWb := Lib.hid (HPWb.out.keep HD.out.keep (p := fun _ => False) (Below.toFrame hbq _) (fun h => h) (fun _ _ h => h))
        clear hbq
        have cq3 := HPWb.out.c3
        have zq3 := HPWb.out.froz 3
        rw [← HH.out]
        go_wp2_with fail
        go_returns
        exact ⟨rfl, HPWb.out.same HD.out.keep, HF00.out.trans ((HFWb.out.trans HFq.out).trans (Frame.cell _ ⟨gx, 3, none⟩ (.bool false)))⟩
    · have g5 : (n != -2) = true := by simpa using h5
      by_cases h2 : port = n
      · have g2 : (port != n) = false := by simpa using h2
        clear h2
        by_cases h3 : b.length = 0
        · have g3 : ((b.length : Int) == 0) = true := by simpa using h3
          have H3 := Lib.hid h3
          clear h3
          have HF0 := Lib.hid (Frame.refl (· = gx) w)
          go_upto_region 6 with fail
          refine wp_region_noPanic ?_
          refine wp_region_held (S := PokeS gx T rv port (.slice ab b.length cb) w) (by kernel_rfl) ?_
          change wpAnyH _ _ _ _ _ _ _ _ w.drew
          have hM : PokeS gx T rv port (.slice ab b.length cb) w w.drew := ⟨HP.out.row, (Below.refl _ _).drew⟩
          have kc0 : ∀ W : World, PokeS gx T rv port (.slice ab b.length cb) w W → W.cell? ⟨gx, 0, none⟩ = some (.iface T rv) ∧ W.cell? ⟨gx, 1, none⟩ = some (.int .i64 port) ∧ W.cell? ⟨gx, 2, none⟩ = some (.slice ab b.length cb) := fun W h => ⟨by rw [cell_of_row _ _ _ _ _ _ h.1]; rfl, by rw [cell_of_row _ _ _ _ _ _ h.1]; rfl, by rw [cell_of_row _ _ _ _ _ _ h.1]; rfl⟩
          have hfd : Frame (fun _ => False) w w.drew := (Frame.refl _ _).drew
          clear c0 c1 c2 c3 z3
          generalize w.drew = W2 at hM hfd ⊢
          refine Pm.take_at (i := 0) 46 (.pointer (some ⟨gx, 0, none⟩)) rfl rfl (by kernel_rfl) (by kernel_rfl) (by kernel_rfl) rfl (fun _ _ => by go_simp) hM ?_
          refine Pm.take_at (i := 1) 47 (.pointer (some ⟨gx, 0, none⟩)) rfl rfl (by kernel_rfl) (by kernel_rfl) (by kernel_rfl) rfl (fun _ _ => by go_simp) hM ?_
          refine Pm.take_at (i := 2) 48 (.pointer (some ⟨gx, 0, none⟩)) rfl rfl (by kernel_rfl) (by kernel_rfl) (by kernel_rfl) rfl (fun _ _ => by go_simp) hM ?_
          refine Pm.take_at (i := 3) 49 (.iface T rv) rfl rfl (by kernel_rfl) (by kernel_rfl) (by kernel_rfl) rfl (fun W h => by have hc := (kc0 W h).1; go_simp) hM ?_
          refine Pm.take_at (i := 4) 50 (.pointer (some ⟨gx, 0, none⟩)) rfl rfl (by kernel_rfl) (by kernel_rfl) (by kernel_rfl) rfl (fun _ _ => by go_simp) hM ?_
          refine Pm.take_at (i := 5) 51 (.pointer (some ⟨gx, 0, none⟩)) rfl rfl (by kernel_rfl) (by kernel_rfl) (by kernel_rfl) rfl (fun _ _ => by go_simp) hM ?_
          refine Pm.take_at (i := 6) 52 (.pointer (some ⟨gx, 1, none⟩)) rfl rfl (by kernel_rfl) (by kernel_rfl) (by kernel_rfl) rfl (fun _ _ => by go_simp) hM ?_
          refine Pm.take_at (i := 7) 53 (.int .i64 port) rfl rfl (by kernel_rfl) (by kernel_rfl) (by kernel_rfl) rfl (fun W h => by have hc := (kc0 W h).2.1; go_simp) hM ?_
          refine Pm.take_at (i := 9) 55 (.pointer (some ⟨gx, 0, none⟩)) rfl rfl (by kernel_rfl) (by kernel_rfl) (by kernel_rfl) rfl (fun _ _ => by go_simp) hM ?_
          refine Pm.take_at (i := 10) 56 (.pointer (some ⟨gx, 0, none⟩)) rfl rfl (by kernel_rfl) (by kernel_rfl) (by kernel_rfl) rfl (fun _ _ => by go_simp) hM ?_
          refine Pm.take_at (i := 11) 57 (.pointer (some ⟨gx, 2, none⟩)) rfl rfl (by kernel_rfl) (by kernel_rfl) (by kernel_rfl) rfl (fun _ _ => by go_simp) hM ?_
          refine Pm.take_at (i := 12) 58 (.slice ab b.length cb) rfl rfl (by kernel_rfl) (by kernel_rfl) (by kernel_rfl) rfl (fun W h => by have hc := (kc0 W h).2.2; go_simp) hM ?_
          refine Pm.take_at (i := 14) 60 (.iface T rv) rfl rfl (by kernel_rfl) (by kernel_rfl) (by kernel_rfl) rfl (fun _ _ => by go_simp) hM ?_
          refine Pm.take_at (i := 15) 61 (.iface T rv) rfl rfl (by kernel_rfl) (by kernel_rfl) (by kernel_rfl) rfl (fun _ _ => by go_simp) hM ?_
          have hal : Below W2.heap.size W2 (W2.alloc (.cells #[] 5)) := (Below.refl _ _).alloc (Nat.le_refl _) _
          have hlt2 := (Array.getElem?_eq_some_iff.1 hM.1).1
          have ho4 := World.ownsRow_made (base := W2.heap.size) (e := 5) (size := 1) W2 #[] 0 (Nat.le_refl _) (by decide) rfl
          have hM4 : PokeS gx T rv port (.slice ab b.length cb) w (W2.alloc (.cells #[] 5)) := ⟨(hal.block gx hlt2).trans hM.1, hM.2.trans (hal.mono hM.2.size)⟩
          refine Pm.one_now (i := 8) rfl (by kernel_rfl) rfl ?_
          go_wp2_with fail
          first
            | refine ⟨hM4, ?_⟩
            | skip
          refine Pm.one_now (i := 13) rfl (by kernel_rfl) rfl ?_
          refine Pm.wp_append_fresh (.tmp 54) (.tmp 58) rfl W2.heap.size (.slice (some ⟨W2.heap.size, 0, none⟩) 0 0) _ b rfl ho4 rfl ((HP.out.bytes.below hM4.2).toPm) (by omega) hal.size 59 rfl ?_
          intro v7 W7 ho7 hg7 at7
          clear at7
          have hb7 : Below W2.heap.size W2 W7 := hal.grown hg7 hal.size (fun j ej => (ho4.lt j ej).1)
          have hM7 : PokeS gx T rv port (.slice ab b.length cb) w W7 := ⟨(hb7.block gx hlt2).trans hM.1, hM.2.trans (hb7.mono hM.2.size)⟩
          obtain ⟨a7, c7, rfl⟩ := Pm.owns_slice ho7
          refine ⟨hM7, ?_⟩
          simp only [Act.put]
          have hp7 : Poked gx T rv port (.slice ab b.length cb) b base Rep s own W7 := HP.out.keep HD.out.keep (hfd.then (Below.toFrame hb7 fun _ => False) (fun _ _ h => h)) (fun h => h) (fun _ _ h => h)
          have hf7 : Frame (· = gx) w W7 := HF0.out.trans ((hfd.then (Below.toFrame hb7 fun _ => False) (fun _ _ h => h)).mono (fun _ _ h => h.elim))
          have HP7 := Lib.hid hp7
          have HF7 := Lib.hid hf7
          clear hp7 hf7 hfd hM4 hal ho4 hb7 hg7 ho7 hM kc0
          refine Pm.one_now (i := 16) rfl (by kernel_rfl) rfl ?_
          have hfeed := HR.out.feed s own W7 port a7 b.length c7 HP7.out.rep (by rw [← HN.out]; exact .inr (.inl H3.out))
          rw [← HN.out, ← HE.out] at hfeed
          go_wp2_with fail
          refine hfeed.mono ?_
          rintro e w' ⟨rfl, rfl⟩
          refine ⟨hM7, ?_⟩
          refine Pm.take_at (i := 17) 45 (.tuple #[.slice none 0 0, .int .i64 1]) rfl rfl (by kernel_rfl) (by kernel_rfl) (by kernel_rfl) rfl (fun _ _ => by go_simp) hM7 ?_
          refine Pm.take_at (i := 18) 63 (.slice none 0 0) rfl rfl (by kernel_rfl) (by kernel_rfl) (by kernel_rfl) rfl (fun _ _ => by go_simp) hM7 ?_
          refine Pm.take_at (i := 19) 64 (.int .i64 1) rfl rfl (by kernel_rfl) (by kernel_rfl) (by kernel_rfl) rfl (fun _ _ => by go_simp) hM7 ?_
          refine Pm.take_at (i := 20) 5 (.slice none 0 0) rfl rfl (by kernel_rfl) (by kernel_rfl) (by kernel_rfl) rfl (fun _ _ => by go_simp) hM7 ?_
          refine Pm.take_at (i := 21) 6 (.int .i64 1) rfl rfl (by kernel_rfl) (by kernel_rfl) (by kernel_rfl) rfl (fun _ _ => by go_simp) hM7 ?_
          refine wpAnyH_done (by kernel_rfl) (NoPanic.normal ?_) _
          clear hM7 hlt2
          have c0 := HP7.out.c0
          have c1 := HP7.out.c1
          have c2 := HP7.out.c2
          have c3 := HP7.out.c3
          have z3 := HP7.out.froz 3
          go_wp2_with fail
          refine (refused_any gx _ W7 c3 z3).mono ?_
          rintro e w' ⟨rfl, rfl⟩
          have hpWa := HP7.out.same HD.out.keep
          have hfWa := HF7.out.trans (Frame.cell W7 ⟨gx, 3, none⟩ (.bool false))
          clear c0 c1 c2 c3 z3
          generalize W7.setCell ⟨gx, 3, none⟩ (.bool false) = Wa at hpWa hfWa ⊢
          have HPWa := Lib.hid hpWa
          have HFWa := Lib.hid hfWa
          clear hpWa hfWa
          have c0 := HPWa.out.c0
          have c1 := HPWa.out.c1
          have c2 := HPWa.out.c2
          have c3 := HPWa.out.c3
          have z3 := HPWa.out.froz 3
          have hmore := HR.out.more s own Wa HPWa.out.rep (by rw [← HN.out]; exact h5)
          rw [← HN.out, ← HE.out] at hmore
          go_wp2_with fail
          refine hmore.mono ?_
          rintro e w' ⟨rfl, rfl⟩
          go_wp2_with fail
          refine (refused_any gx _ Wa c3 z3).mono ?_
          rintro e w' ⟨rfl, rfl⟩
          have hpWc := HPWa.out.same HD.out.keep
          have hfWc := HFWa.out.trans (Frame.cell Wa ⟨gx, 3, none⟩ (.bool false))
          clear c0 c1 c2 c3 z3
          generalize Wa.setCell ⟨gx, 3, none⟩ (.bool false) = Wc at hpWc hfWc ⊢
          have HPWc := Lib.hid hpWc
          have HFWc := Lib.hid hfWc
          clear hpWc hfWc
          have c0 := HPWc.out.c0
          have c1 := HPWc.out.c1
          have c2 := HPWc.out.c2
          have c3 := HPWc.out.c3
          have z3 := HPWc.out.froz 3
          go_wp2_with fail
          refine (HD.out.need s own Wc HPWc.out.rep).mono ?_
          rintro e w' ⟨rfl, rfl⟩
          rw [← HN.out]
          go_wp2_with fail
          refine (HD.out.held s own Wc HPWc.out.rep).mono ?_
          rintro e w' ⟨rfl, hbq⟩
          have HFq := Lib.hid (Below.toFrame hbq (· = gx))
          have HPWc := Lib.hid (HPWc.out.keep HD.out.keep (p := fun _ => False) (Below.toFrame hbq _) (fun h => h) (fun _ _ h => h))
          clear hbq
          have cq3 := HPWc.out.c3
          have zq3 := HPWc.out.froz 3
          rw [← HH.out]
          go_wp2_with fail
          go_returns
          exact ⟨rfl, HPWc.out.same HD.out.keep, HF00.out.trans ((HFWc.out.trans HFq.out).trans (Frame.cell _ ⟨gx, 3, none⟩ (.bool false)))⟩
        · have g3 : ((b.length : Int) == 0) = false := by simpa using h3
          by_cases h4 : 32 < b.length
          · have g4 : (32 : Int) < (b.length : Int) := by omega
            have H4 := Lib.hid h4
            clear h4
            have HF0 := Lib.hid (Frame.refl (· = gx) w)
            go_upto_region 6 with fail
            refine wp_region_noPanic ?_
            refine wp_region_held (S := PokeS gx T rv port (.slice ab b.length cb) w) (by kernel_rfl) ?_
            change wpAnyH _ _ _ _ _ _ _ _ w.drew
            have hM : PokeS gx T rv port (.slice ab b.length cb) w w.drew := ⟨HP.out.row, (Below.refl _ _).drew⟩
            have kc0 : ∀ W : World, PokeS gx T rv port (.slice ab b.length cb) w W → W.cell? ⟨gx, 0, none⟩ = some (.iface T rv) ∧ W.cell? ⟨gx, 1, none⟩ = some (.int .i64 port) ∧ W.cell? ⟨gx, 2, none⟩ = some (.slice ab b.length cb) := fun W h => ⟨by rw [cell_of_row _ _ _ _ _ _ h.1]; rfl, by rw [cell_of_row _ _ _ _ _ _ h.1]; rfl, by rw [cell_of_row _ _ _ _ _ _ h.1]; rfl⟩
            have hfd : Frame (fun _ => False) w w.drew := (Frame.refl _ _).drew
            clear c0 c1 c2 c3 z3
            generalize w.drew = W2 at hM hfd ⊢
            refine Pm.take_at (i := 0) 46 (.pointer (some ⟨gx, 0, none⟩)) rfl rfl (by kernel_rfl) (by kernel_rfl) (by kernel_rfl) rfl (fun _ _ => by go_simp) hM ?_
            refine Pm.take_at (i := 1) 47 (.pointer (some ⟨gx, 0, none⟩)) rfl rfl (by kernel_rfl) (by kernel_rfl) (by kernel_rfl) rfl (fun _ _ => by go_simp) hM ?_
            refine Pm.take_at (i := 2) 48 (.pointer (some ⟨gx, 0, none⟩)) rfl rfl (by kernel_rfl) (by kernel_rfl) (by kernel_rfl) rfl (fun _ _ => by go_simp) hM ?_
            refine Pm.take_at (i := 3) 49 (.iface T rv) rfl rfl (by kernel_rfl) (by kernel_rfl) (by kernel_rfl) rfl (fun W h => by have hc := (kc0 W h).1; go_simp) hM ?_
            refine Pm.take_at (i := 4) 50 (.pointer (some ⟨gx, 0, none⟩)) rfl rfl (by kernel_rfl) (by kernel_rfl) (by kernel_rfl) rfl (fun _ _ => by go_simp) hM ?_
            refine Pm.take_at (i := 5) 51 (.pointer (some ⟨gx, 0, none⟩)) rfl rfl (by kernel_rfl) (by kernel_rfl) (by kernel_rfl) rfl (fun _ _ => by go_simp) hM ?_
            refine Pm.take_at (i := 6) 52 (.pointer (some ⟨gx, 1, none⟩)) rfl rfl (by kernel_rfl) (by kernel_rfl) (by kernel_rfl) rfl (fun _ _ => by go_simp) hM ?_
            refine Pm.take_at (i := 7) 53 (.int .i64 port) rfl rfl (by kernel_rfl) (by kernel_rfl) (by kernel_rfl) rfl (fun W h => by have hc := (kc0 W h).2.1; go_simp) hM ?_
            refine Pm.take_at (i := 9) 55 (.pointer (some ⟨gx, 0, none⟩)) rfl rfl (by kernel_rfl) (by kernel_rfl) (by kernel_rfl) rfl (fun _ _ => by go_simp) hM ?_
            refine Pm.take_at (i := 10) 56 (.pointer (some ⟨gx, 0, none⟩)) rfl rfl (by kernel_rfl) (by kernel_rfl) (by kernel_rfl) rfl (fun _ _ => by go_simp) hM ?_
            refine Pm.take_at (i := 11) 57 (.pointer (some ⟨gx, 2, none⟩)) rfl rfl (by kernel_rfl) (by kernel_rfl) (by kernel_rfl) rfl (fun _ _ => by go_simp) hM ?_
            refine Pm.take_at (i := 12) 58 (.slice ab b.length cb) rfl rfl (by kernel_rfl) (by kernel_rfl) (by kernel_rfl) rfl (fun W h => by have hc := (kc0 W h).2.2; go_simp) hM ?_
            refine Pm.take_at (i := 14) 60 (.iface T rv) rfl rfl (by kernel_rfl) (by kernel_rfl) (by kernel_rfl) rfl (fun _ _ => by go_simp) hM ?_
            refine Pm.take_at (i := 15) 61 (.iface T rv) rfl rfl (by kernel_rfl) (by kernel_rfl) (by kernel_rfl) rfl (fun _ _ => by go_simp) hM ?_
            have hal : Below W2.heap.size W2 (W2.alloc (.cells #[] 5)) := (Below.refl _ _).alloc (Nat.le_refl _) _
            have hlt2 := (Array.getElem?_eq_some_iff.1 hM.1).1
            have ho4 := World.ownsRow_made (base := W2.heap.size) (e := 5) (size := 1) W2 #[] 0 (Nat.le_refl _) (by decide) rfl
            have hM4 : PokeS gx T rv port (.slice ab b.length cb) w (W2.alloc (.cells #[] 5)) := ⟨(hal.block gx hlt2).trans hM.1, hM.2.trans (hal.mono hM.2.size)⟩
            refine Pm.one_now (i := 8) rfl (by kernel_rfl) rfl ?_
            go_wp2_with fail
            first
              | refine ⟨hM4, ?_⟩
              | skip
            refine Pm.one_now (i := 13) rfl (by kernel_rfl) rfl ?_
            refine Pm.wp_append_fresh (.tmp 54) (.tmp 58) rfl W2.heap.size (.slice (some ⟨W2.heap.size, 0, none⟩) 0 0) _ b rfl ho4 rfl ((HP.out.bytes.below hM4.2).toPm) (by omega) hal.size 59 rfl ?_
            intro v7 W7 ho7 hg7 at7
            clear at7
            have hb7 : Below W2.heap.size W2 W7 := hal.grown hg7 hal.size (fun j ej => (ho4.lt j ej).1)
            have hM7 : PokeS gx T rv port (.slice ab b.length cb) w W7 := ⟨(hb7.block gx hlt2).trans hM.1, hM.2.trans (hb7.mono hM.2.size)⟩
            obtain ⟨a7, c7, rfl⟩ := Pm.owns_slice ho7
            refine ⟨hM7, ?_⟩
            simp only [Act.put]
            have hp7 : Poked gx T rv port (.slice ab b.length cb) b base Rep s own W7 := HP.out.keep HD.out.keep (hfd.then (Below.toFrame hb7 fun _ => False) (fun _ _ h => h)) (fun h => h) (fun _ _ h => h)
            have hf7 : Frame (· = gx) w W7 := HF0.out.trans ((hfd.then (Below.toFrame hb7 fun _ => False) (fun _ _ h => h)).mono (fun _ _ h => h.elim))
            have HP7 := Lib.hid hp7
            have HF7 := Lib.hid hf7
            clear hp7 hf7 hfd hM4 hal ho4 hb7 hg7 ho7 hM kc0
            refine Pm.one_now (i := 16) rfl (by kernel_rfl) rfl ?_
            have hfeed := HR.out.feed s own W7 port a7 b.length c7 HP7.out.rep (by rw [← HN.out]; exact .inr (.inr H4.out))
            rw [← HN.out, ← HE.out] at hfeed
            go_wp2_with fail
            refine hfeed.mono ?_
            rintro e w' ⟨rfl, rfl⟩
            refine ⟨hM7, ?_⟩
            refine Pm.take_at (i := 17) 45 (.tuple #[.slice none 0 0, .int .i64 1]) rfl rfl (by kernel_rfl) (by kernel_rfl) (by kernel_rfl) rfl (fun _ _ => by go_simp) hM7 ?_
            refine Pm.take_at (i := 18) 63 (.slice none 0 0) rfl rfl (by kernel_rfl) (by kernel_rfl) (by kernel_rfl) rfl (fun _ _ => by go_simp) hM7 ?_
            refine Pm.take_at (i := 19) 64 (.int .i64 1) rfl rfl (by kernel_rfl) (by kernel_rfl) (by kernel_rfl) rfl (fun _ _ => by go_simp) hM7 ?_
            refine Pm.take_at (i := 20) 5 (.slice none 0 0) rfl rfl (by kernel_rfl) (by kernel_rfl) (by kernel_rfl) rfl (fun _ _ => by go_simp) hM7 ?_
            refine Pm.take_at (i := 21) 6 (.int .i64 1) rfl rfl (by kernel_rfl) (by kernel_rfl) (by kernel_rfl) rfl (fun _ _ => by go_simp) hM7 ?_
            refine wpAnyH_done (by kernel_rfl) (NoPanic.normal ?_) _
            clear hM7 hlt2
            have c0 := HP7.out.c0
            have c1 := HP7.out.c1
            have c2 := HP7.out.c2
            have c3 := HP7.out.c3
            have z3 := HP7.out.froz 3
            go_wp2_with fail
            refine (refused_any gx _ W7 c3 z3).mono ?_
            rintro e w' ⟨rfl, rfl⟩
            have hpWa := HP7.out.same HD.out.keep
            have hfWa := HF7.out.trans (Frame.cell W7 ⟨gx, 3, none⟩ (.bool false))
            clear c0 c1 c2 c3 z3
            generalize W7.setCell ⟨gx, 3, none⟩ (.bool false) = Wa at hpWa hfWa ⊢
            have HPWa := Lib.hid hpWa
            have HFWa := Lib.hid hfWa
            clear hpWa hfWa
            have c0 := HPWa.out.c0
            have c1 := HPWa.out.c1
            have c2 := HPWa.out.c2
            have c3 := HPWa.out.c3
            have z3 := HPWa.out.froz 3
            have hmore := HR.out.more s own Wa HPWa.out.rep (by rw [← HN.out]; exact h5)
            rw [← HN.out, ← HE.out] at hmore
            go_wp2_with fail
            refine hmore.mono ?_
            rintro e w' ⟨rfl, rfl⟩
            go_wp2_with fail
            refine (refused_any gx _ Wa c3 z3).mono ?_
            rintro e w' ⟨rfl, rfl⟩
            have hpWc := HPWa.out.same HD.out.keep
            have hfWc := HFWa.out.trans (Frame.cell Wa ⟨gx, 3, none⟩ (.bool false))
            clear c0 c1 c2 c3 z3
            generalize Wa.setCell ⟨gx, 3, none⟩ (.bool false) = Wc at hpWc hfWc ⊢
            have HPWc := Lib.hid hpWc
            have HFWc := Lib.hid hfWc
            clear hpWc hfWc
            have c0 := HPWc.out.c0
            have c1 := HPWc.out.c1
            have c2 := HPWc.out.c2
            have c3 := HPWc.out.c3
            have z3 := HPWc.out.froz 3
            go_wp2_with fail
            refine (HD.out.need s own Wc HPWc.out.rep).mono ?_
            rintro e w' ⟨rfl, rfl⟩
            rw [← HN.out]
            go_wp2_with fail
            refine (HD.out.held s own Wc HPWc.out.rep).mono ?_
            rintro e w' ⟨rfl, hbq⟩
            have HFq := Lib.hid (Below.toFrame hbq (· = gx))
            have HPWc := Lib.hid (HPWc.out.keep HD.out.keep (p := fun _ => False) (Below.toFrame hbq _) (fun h => h) (fun _ _ h => h))
            clear hbq
            have cq3 := HPWc.out.c3
            have zq3 := HPWc.out.froz 3
            rw [← HH.out]
            go_wp2_with fail
            go_returns
            exact ⟨rfl, HPWc.out.same HD.out.keep, HF00.out.trans ((HFWc.out.trans HFq.out).trans (Frame.cell _ ⟨gx, 3, none⟩ (.bool false)))⟩
          · have g4 : ¬ (32 : Int) < (b.length : Int) := by omega
            have HF0 := Lib.hid (Frame.refl (· = gx) w)
            have hmore := HR.out.more s own w HP.out.rep (by rw [← HN.out]; exact h5)
            rw [← HN.out, ← HE.out] at hmore
            go_wp2_with fail
            refine hmore.mono ?_
            rintro e w' ⟨rfl, rfl⟩
            go_wp2_with fail
            refine (refused_any gx _ w c3 z3).mono ?_
            rintro e w' ⟨rfl, rfl⟩
            have hpWc := HP.out.same HD.out.keep
            have hfWc := HF0.out.trans (Frame.cell w ⟨gx, 3, none⟩ (.bool false))
            clear c0 c1 c2 c3 z3
            generalize w.setCell ⟨gx, 3, none⟩ (.bool false) = Wc at hpWc hfWc ⊢
            have HPWc := Lib.hid hpWc
            have HFWc := Lib.hid hfWc
            clear hpWc hfWc
            have c0 := HPWc.out.c0
            have c1 := HPWc.out.c1
            have c2 := HPWc.out.c2
            have c3 := HPWc.out.c3
            have z3 := HPWc.out.froz 3
            go_wp2_with fail
            refine (HD.out.need s own Wc HPWc.out.rep).mono ?_
            rintro e w' ⟨rfl, rfl⟩
            rw [← HN.out]
            go_wp2_with fail
            refine (HD.out.held s own Wc HPWc.out.rep).mono ?_
            rintro e w' ⟨rfl, hbq⟩
            have HFq := Lib.hid (Below.toFrame hbq (· = gx))
            have HPWc := Lib.hid (HPWc.out.keep HD.out.keep (p := fun _ => False) (Below.toFrame hbq _) (fun h => h) (fun _ _ h => h))
            clear hbq
            have cq3 := HPWc.out.c3
            have zq3 := HPWc.out.froz 3
            rw [← HH.out]
            go_wp2_with fail
            go_returns
            exact ⟨rfl, HPWc.out.same HD.out.keep, HF00.out.trans ((HFWc.out.trans HFq.out).trans (Frame.cell _ ⟨gx, 3, none⟩ (.bool false)))⟩
      · have g2 : (port != n) = true := by simpa using h2
        have H2 := Lib.hid h2
        clear h2
        have HF0 := Lib.hid (Frame.refl (· = gx) w)
        go_upto_region 6 with fail
        refine wp_region_noPanic ?_
        refine wp_region_held (S := PokeS gx T rv port (.slice ab b.length cb) w) (by kernel_rfl) ?_
        change wpAnyH _ _ _ _ _ _ _ _ w.drew
        have hM : PokeS gx T rv port (.slice ab b.length cb) w w.drew := ⟨HP.out.row, (Below.refl _ _).drew⟩
        have kc0 : ∀ W : World, PokeS gx T rv port (.slice ab b.length cb) w W → W.cell? ⟨gx, 0, none⟩ = some (.iface T rv) ∧ W.cell? ⟨gx, 1, none⟩ = some (.int .i64 port) ∧ W.cell? ⟨gx, 2, none⟩ = some (.slice ab b.length cb) := fun W h => ⟨by rw [cell_of_row _ _ _ _ _ _ h.1]; rfl, by rw [cell_of_row _ _ _ _ _ _ h.1]; rfl, by rw [cell_of_row _ _ _ _ _ _ h.1]; rfl⟩
        have hfd : Frame (fun _ => False) w w.drew := (Frame.refl _ _).drew
        clear c0 c1 c2 c3 z3
        generalize w.drew = W2 at hM hfd ⊢
        refine Pm.take_at (i := 0) 46 (.pointer (some ⟨gx, 0, none⟩)) rfl rfl (by kernel_rfl) (by kernel_rfl) (by kernel_rfl) rfl (fun _ _ => by go_simp) hM ?_
        refine Pm.take_at (i := 1) 47 (.pointer (some ⟨gx, 0, none⟩)) rfl rfl (by kernel_rfl) (by kernel_rfl) (by kernel_rfl) rfl (fun _ _ => by go_simp) hM ?_
        refine Pm.take_at (i := 2) 48 (.pointer (some ⟨gx, 0, none⟩)) rfl rfl (by kernel_rfl) (by kernel_rfl) (by kernel_rfl) rfl (fun _ _ => by go_simp) hM ?_
        refine Pm.take_at (i := 3) 49 (.iface T rv) rfl rfl (by kernel_rfl) (by kernel_rfl) (by kernel_rfl) rfl (fun W h => by have hc := (kc0 W h).1; go_simp) hM ?_
        refine Pm.take_at (i := 4) 50 (.pointer (some ⟨gx, 0, none⟩)) rfl rfl (by kernel_rfl) (by kernel_rfl) (by kernel_rfl) rfl (fun _ _ => by go_simp) hM ?_
        refine Pm.take_at (i := 5) 51 (.pointer (some ⟨gx, 0, none⟩)) rfl rfl (by kernel_rfl) (by kernel_rfl) (by kernel_rfl) rfl (fun _ _ => by go_simp) hM ?_
        refine Pm.take_at (i := 6) 52 (.pointer (some ⟨gx, 1, none⟩)) rfl rfl (by kernel_rfl) (by kernel_rfl) (by kernel_rfl) rfl (fun _ _ => by go_simp) hM ?_
        refine Pm.take_at (i := 7) 53 (.int .i64 port) rfl rfl (by kernel_rfl) (by kernel_rfl) (by kernel_rfl) rfl (fun W h => by have hc := (kc0 W h).2.1; go_simp) hM ?_
        refine Pm.take_at (i := 9) 55 (.pointer (some ⟨gx, 0, none⟩)) rfl rfl (by kernel_rfl) (by kernel_rfl) (by kernel_rfl) rfl (fun _ _ => by go_simp) hM ?_
        refine Pm.take_at (i := 10) 56 (.pointer (some ⟨gx, 0, none⟩)) rfl rfl (by kernel_rfl) (by kernel_rfl) (by kernel_rfl) rfl (fun _ _ => by go_simp) hM ?_
        refine Pm.take_at (i := 11) 57 (.pointer (some ⟨gx, 2, none⟩)) rfl rfl (by kernel_rfl) (by kernel_rfl) (by kernel_rfl) rfl (fun _ _ => by go_simp) hM ?_
        refine Pm.take_at (i := 12) 58 (.slice ab b.length cb) rfl rfl (by kernel_rfl) (by kernel_rfl) (by kernel_rfl) rfl (fun W h => by have hc := (kc0 W h).2.2; go_simp) hM ?_
        refine Pm.take_at (i := 14) 60 (.iface T rv) rfl rfl (by kernel_rfl) (by kernel_rfl) (by kernel_rfl) rfl (fun _ _ => by go_simp) hM ?_
        refine Pm.take_at (i := 15) 61 (.iface T rv) rfl rfl (by kernel_rfl) (by kernel_rfl) (by kernel_rfl) rfl (fun _ _ => by go_simp) hM ?_
        have hal : Below W2.heap.size W2 (W2.alloc (.cells #[] 5)) := (Below.refl _ _).alloc (Nat.le_refl _) _
        have hlt2 := (Array.getElem?_eq_some_iff.1 hM.1).1
        have ho4 := World.ownsRow_made (base := W2.heap.size) (e := 5) (size := 1) W2 #[] 0 (Nat.le_refl _) (by decide) rfl
        have hM4 : PokeS gx T rv port (.slice ab b.length cb) w (W2.alloc (.cells #[] 5)) := ⟨(hal.block gx hlt2).trans hM.1, hM.2.trans (hal.mono hM.2.size)⟩
        refine Pm.one_now (i := 8) rfl (by kernel_rfl) rfl ?_
        go_wp2_with fail
        first
          | refine ⟨hM4, ?_⟩
          | skip
        refine Pm.one_now (i := 13) rfl (by kernel_rfl) rfl ?_
        refine Pm.wp_append_fresh (.tmp 54) (.tmp 58) rfl W2.heap.size (.slice (some ⟨W2.heap.size, 0, none⟩) 0 0) _ b rfl ho4 rfl ((HP.out.bytes.below hM4.2).toPm) (by omega) hal.size 59 rfl ?_
        intro v7 W7 ho7 hg7 at7
        clear at7
        have hb7 : Below W2.heap.size W2 W7 := hal.grown hg7 hal.size (fun j ej => (ho4.lt j ej).1)
        have hM7 : PokeS gx T rv port (.slice ab b.length cb) w W7 := ⟨(hb7.block gx hlt2).trans hM.1, hM.2.trans (hb7.mono hM.2.size)⟩
        obtain ⟨a7, c7, rfl⟩ := Pm.owns_slice ho7
        refine ⟨hM7, ?_⟩
        simp only [Act.put]
        have hp7 : Poked gx T rv port (.slice ab b.length cb) b base Rep s own W7 := HP.out.keep HD.out.keep (hfd.then (Below.toFrame hb7 fun _ => False) (fun _ _ h => h)) (fun h => h) (fun _ _ h => h)
        have hf7 : Frame (· = gx) w W7 := HF0.out.trans ((hfd.then (Below.toFrame hb7 fun _ => False) (fun _ _ h => h)).mono (fun _ _ h => h.elim))
        have HP7 := Lib.hid hp7
        have HF7 := Lib.hid hf7
        clear hp7 hf7 hfd hM4 hal ho4 hb7 hg7 ho7 hM kc0
        refine Pm.one_now (i := 16) rfl (by kernel_rfl) rfl ?_
        have hfeed := HR.out.feed s own W7 port a7 b.length c7 HP7.out.rep (by rw [← HN.out]; exact .inl H2.out)
        rw [← HN.out, ← HE.out] at hfeed
        go_wp2_with fail
        refine hfeed.mono ?_
        rintro e w' ⟨rfl, rfl⟩
        refine ⟨hM7, ?_⟩
        refine Pm.take_at (i := 17) 45 (.tuple #[.slice none 0 0, .int .i64 1]) rfl rfl (by kernel_rfl) (by kernel_rfl) (by kernel_rfl) rfl (fun _ _ => by go_simp) hM7 ?_
        refine Pm.take_at (i := 18) 63 (.slice none 0 0) rfl rfl (by kernel_rfl) (by kernel_rfl) (by kernel_rfl) rfl (fun _ _ => by go_simp) hM7 ?_
        refine Pm.take_at (i := 19) 64 (.int .i64 1) rfl rfl (by kernel_rfl) (by kernel_rfl) (by kernel_rfl) rfl (fun _ _ => by go_simp) hM7 ?_
        refine Pm.take_at (i := 20) 5 (.slice none 0 0) rfl rfl (by kernel_rfl) (by kernel_rfl) (by kernel_rfl) rfl (fun _ _ => by go_simp) hM7 ?_
        refine Pm.take_at (i := 21) 6 (.int .i64 1) rfl rfl (by kernel_rfl) (by kernel_rfl) (by kernel_rfl) rfl (fun _ _ => by go_simp) hM7 ?_
        refine wpAnyH_done (by kernel_rfl) (NoPanic.normal ?_) _
        clear hM7 hlt2
        have c0 := HP7.out.c0
        have c1 := HP7.out.c1
        have c2 := HP7.out.c2
        have c3 := HP7.out.c3
        have z3 := HP7.out.froz 3
        go_wp2_with fail
        refine (refused_any gx _ W7 c3 z3).mono ?_
        rintro e w' ⟨rfl, rfl⟩
        have hpWa := HP7.out.same HD.out.keep
        have hfWa := HF7.out.trans (Frame.cell W7 ⟨gx, 3, none⟩ (.bool false))
        clear c0 c1 c2 c3 z3
        generalize W7.setCell ⟨gx, 3, none⟩ (.bool false) = Wa at hpWa hfWa ⊢
        have HPWa := Lib.hid hpWa
        have HFWa := Lib.hid hfWa
        clear hpWa hfWa
        have c0 := HPWa.out.c0
        have c1 := HPWa.out.c1
        have c2 := HPWa.out.c2
        have c3 := HPWa.out.c3
        have z3 := HPWa.out.froz 3
        go_upto_region 9 with fail
        refine wp_region_noPanic ?_
        refine wp_region_held (S := PokeS gx T rv port (.slice ab b.length cb) Wa) (by kernel_rfl) ?_
        change wpAnyH _ _ _ _ _ _ _ _ Wa.drew
        have hM : PokeS gx T rv port (.slice ab b.length cb) Wa Wa.drew := ⟨HPWa.out.row, (Below.refl _ _).drew⟩
        have kc0 : ∀ W : World, PokeS gx T rv port (.slice ab b.length cb) Wa W → W.cell? ⟨gx, 0, none⟩ = some (.iface T rv) ∧ W.cell? ⟨gx, 1, none⟩ = some (.int .i64 port) := fun W h => ⟨by rw [cell_of_row _ _ _ _ _ _ h.1]; rfl, by rw [cell_of_row _ _ _ _ _ _ h.1]; rfl⟩
        have hfd : Frame (fun _ => False) Wa Wa.drew := (Frame.refl _ _).drew
        have hp8 : Poked gx T rv port (.slice ab b.length cb) b base Rep s own Wa.drew := HPWa.out.keep HD.out.keep hfd (fun h => h) (fun _ _ h => h)
        have hf8 : Frame (· = gx) w Wa.drew := HFWa.out.trans (hfd.mono (fun _ _ h => h.elim))
        clear c0 c1 c2 c3 z3 hfd
        generalize Wa.drew = W8 at hM hp8 hf8 ⊢
        have HP8 := Lib.hid hp8
        have HF8 := Lib.hid hf8
        clear hp8 hf8
        refine Pm.take_at (i := 0) 77 (.pointer (some ⟨gx, 0, none⟩)) rfl rfl (by kernel_rfl) (by kernel_rfl) (by kernel_rfl) rfl (fun _ _ => by go_simp) hM ?_
        refine Pm.take_at (i := 1) 78 (.pointer (some ⟨gx, 0, none⟩)) rfl rfl (by kernel_rfl) (by kernel_rfl) (by kernel_rfl) rfl (fun _ _ => by go_simp) hM ?_
        refine Pm.take_at (i := 2) 79 (.pointer (some ⟨gx, 0, none⟩)) rfl rfl (by kernel_rfl) (by kernel_rfl) (by kernel_rfl) rfl (fun _ _ => by go_simp) hM ?_
        refine Pm.take_at (i := 3) 80 (.iface T rv) rfl rfl (by kernel_rfl) (by kernel_rfl) (by kernel_rfl) rfl (fun W h => by have hc := (kc0 W h).1; go_simp) hM ?_
        refine Pm.take_at (i := 4) 81 (.pointer (some ⟨gx, 0, none⟩)) rfl rfl (by kernel_rfl) (by kernel_rfl) (by kernel_rfl) rfl (fun _ _ => by go_simp) hM ?_
        refine Pm.take_at (i := 5) 82 (.pointer (some ⟨gx, 0, none⟩)) rfl rfl (by kernel_rfl) (by kernel_rfl) (by kernel_rfl) rfl (fun _ _ => by go_simp) hM ?_
        refine Pm.take_at (i := 6) 83 (.pointer (some ⟨gx, 1, none⟩)) rfl rfl (by kernel_rfl) (by kernel_rfl) (by kernel_rfl) rfl (fun _ _ => by go_simp) hM ?_
        refine Pm.take_at (i := 7) 84 (.int .i64 port) rfl rfl (by kernel_rfl) (by kernel_rfl) (by kernel_rfl) rfl (fun W h => by have hc := (kc0 W h).2; go_simp) hM ?_
        refine Pm.take_at (i := 8) 85 (.iface T rv) rfl rfl (by kernel_rfl) (by kernel_rfl) (by kernel_rfl) rfl (fun _ _ => by go_simp) hM ?_
        refine Pm.take_at (i := 9) 86 (.iface T rv) rfl rfl (by kernel_rfl) (by kernel_rfl) (by kernel_rfl) rfl (fun _ _ => by go_simp) hM ?_
        clear kc0
        refine Pm.one_now (i := 10) rfl (by kernel_rfl) rfl ?_
        have hend := HR.out.fin s own W8 port HP8.out.rep (by rw [← HN.out]; exact H2.out)
        rw [← HN.out, ← HE.out] at hend
        go_wp2_with fail
        refine hend.mono ?_
        rintro e w' ⟨rfl, rfl⟩
        refine ⟨hM, ?_⟩
        refine Pm.take_at (i := 11) 76 (.tuple #[.slice none 0 0, .int .i64 1]) rfl rfl (by kernel_rfl) (by kernel_rfl) (by kernel_rfl) rfl (fun _ _ => by go_simp) hM ?_
        refine Pm.take_at (i := 12) 88 (.slice none 0 0) rfl rfl (by kernel_rfl) (by kernel_rfl) (by kernel_rfl) rfl (fun _ _ => by go_simp) hM ?_
        refine Pm.take_at (i := 13) 89 (.int .i64 1) rfl rfl (by kernel_rfl) (by kernel_rfl) (by kernel_rfl) rfl (fun _ _ => by go_simp) hM ?_
        refine Pm.take_at (i := 14) 7 (.slice none 0 0) rfl rfl (by kernel_rfl) (by kernel_rfl) (by kernel_rfl) rfl (fun _ _ => by go_simp) hM ?_
        refine Pm.take_at (i := 15) 8 (.int .i64 1) rfl rfl (by kernel_rfl) (by kernel_rfl) (by kernel_rfl) rfl (fun _ _ => by go_simp) hM ?_
        refine wpAnyH_done (by kernel_rfl) (NoPanic.normal ?_) _
        clear hM
        have c0 := HP8.out.c0
        have c1 := HP8.out.c1
        have c2 := HP8.out.c2
        have c3 := HP8.out.c3
        have z3 := HP8.out.froz 3
        go_wp2_with fail
        refine (refused_any gx _ W8 c3 z3).mono ?_
        rintro e w' ⟨rfl, rfl⟩
        have hpWb := HP8.out.same HD.out.keep
        have hfWb := HF8.out.trans (Frame.cell W8 ⟨gx, 3, none⟩ (.bool false))
        clear c0 c1 c2 c3 z3
        generalize W8.setCell ⟨gx, 3, none⟩ (.bool false) = Wb at hpWb hfWb ⊢
        have HPWb := Lib.hid hpWb
        have HFWb := Lib.hid hfWb
        clear hpWb hfWb
        have c0 := HPWb.out.c0
        have c1 := HPWb.out.c1
        have c2 := HPWb.out.c2
        have c3 := HPWb.out.c3
        have z3 := HPWb.out.froz 3
        have hmore := HR.out.more s own Wb HPWb.out.rep (by rw [← HN.out]; exact h5)
        rw [← HN.out, ← HE.out] at hmore
        go_wp2_with fail
        refine hmore.mono ?_
        rintro e w' ⟨rfl, rfl⟩
        go_wp2_with fail
        refine (refused_any gx _ Wb c3 z3).mono ?_
        rintro e w' ⟨rfl, rfl⟩
        have hpWc := HPWb.out.same HD.out.keep
        have hfWc := HFWb.out.trans (Frame.cell Wb ⟨gx, 3, none⟩ (.bool false))
        clear c0 c1 c2 c3 z3
        generalize Wb.setCell ⟨gx, 3, none⟩ (.bool false) = Wc at hpWc hfWc ⊢
        have HPWc := Lib.hid hpWc
        have HFWc := Lib.hid hfWc
        clear hpWc hfWc
        have c0 := HPWc.out.c0
        have c1 := HPWc.out.c1
        have c2 := HPWc.out.c2
        have c3 := HPWc.out.c3
        have z3 := HPWc.out.froz 3
        go_wp2_with fail
        refine (HD.out.need s own Wc HPWc.out.rep).mono ?_
        rintro e w' ⟨rfl, rfl⟩
        rw [← HN.out]
        go_wp2_with fail
        refine (HD.out.held s own Wc HPWc.out.rep).mono ?_
        rintro e w' ⟨rfl, hbq⟩
        have HFq := Lib.hid (Below.toFrame hbq (· = gx))
        have HPWc := Lib.hid (HPWc.out.keep HD.out.keep (p := fun _ => False) (Below.toFrame hbq _) (fun h => h) (fun _ _ h => h))
        clear hbq
        have cq3 := HPWc.out.c3
        have zq3 := HPWc.out.froz 3
        rw [← HH.out]
        go_wp2_with fail
        go_returns
        exact ⟨rfl, HPWc.out.same HD.out.keep, HF00.out.trans ((HFWc.out.trans HFq.out).trans (Frame.cell _ ⟨gx, 3, none⟩ (.bool false)))⟩

end Go.Proofs.YteghdepedlaneaaDoor
