/- A sorter that is none: what its calls do; SpoolNobody's walk. -/
import Derived.Test.YtpgigpajpcianaaGreatDoorSpCloses
namespace Go.Proofs.YtpgigpajpcianaaGreatDoor
open Go.RowKit

/-- Where inner leads: a machine of its own that has ended. -/
def NoneAt (w : World) (g : Nat) (w' : World) : Prop := RowAt78 false g false [] (deadO (newO (.pointer none))) w' ∧ w.heap.size ≤ g ∧ Below w.heap.size w w'
def InnerTo (P : Nat → World → Prop) (e : Ending) (w' : World) : Prop := ∃ g, e = .returned (.pointer (some ⟨g, 0, none⟩)) ∧ P g w'
set_option maxRecDepth 100000 in
set_option maxHeartbeats 2000000 in
theorem innerNone_any (w : World) : Calls Tryz.prog 47 #[.pointer none] w (InnerTo (NoneAt w)) := by
  have hnm := newMachine_any false none w
  unfold ordV at hnm
  simp only [Bool.false_eq_true, if_false] at hnm
  have HNM := Lib.hid hnm
  clear hnm
  go_enter Tryz.func47, Tryz.ntmps47
  go_wp2_with fail
  refine HNM.out.mono ?_
  rintro e w1 ⟨g, rfl, hr, hg, hb⟩
  have HS := Lib.hid (spStop_any hr)
  have HG := Lib.hid hg
  have HB := Lib.hid hb
  clear hr hg hb
  go_wp2_with fail
  refine HS.out.mono ?_
  rintro e w2 ⟨rfl, hr2, hf2⟩
  have HR2 := Lib.hid hr2
  have HF2 := Lib.hid hf2
  clear hr2 hf2
  go_wp2_with fail
  go_ret
  have hb2 := HF2.out.below (n := w.heap.size) HB.out.size (fun k e => by have e' : k = g := e; have := HG.out; omega)
  exact ⟨g, rfl, HR2.out, by have := HG.out; omega, HB.out.trans hb2⟩
section
variable {P : Nat → World → Prop} {rv : Value} {w : World} {R : Value → Int → World → Prop} {Q : Int → World → Prop}

set_option maxRecDepth 100000 in
set_option maxHeartbeats 1000000 in
theorem gNeed_any {a : Option Addr} (hI : Calls Tryz.prog 47 #[.pointer a] w (InnerTo P)) (hq : ∀ g w', P g w' → Calls Tryz.prog 49 #[.pointer (some ⟨g, 0, none⟩)] w' (OneOf Q)) : Calls Tryz.prog 28 #[.pointer a] w (OneOf Q) := by
  have HI := Lib.hid hI
  have HQ := Lib.hid hq
  clear hI hq
  go_enter Tryz.func28, Tryz.ntmps28
  go_wp2_with fail
  refine HI.out.mono ?_
  rintro e w1 ⟨g, rfl, hp⟩
  have HQ1 := Lib.hid (HQ.out g w1 hp)
  clear hp
  go_wp2_with fail
  refine HQ1.out.mono ?_
  rintro e w2 ⟨n, rfl, hr⟩
  have HR := Lib.hid hr
  clear hr
  go_wp2_with fail
  go_ret
  exact ⟨n, rfl, HR.out⟩

set_option maxRecDepth 100000 in
set_option maxHeartbeats 1000000 in
theorem gHeld_any {a : Option Addr} (hI : Calls Tryz.prog 47 #[.pointer a] w (InnerTo P)) (hq : ∀ g w', P g w' → Calls Tryz.prog 53 #[.pointer (some ⟨g, 0, none⟩)] w' (OneOf Q)) : Calls Tryz.prog 34 #[.pointer a] w (OneOf Q) := by
  have HI := Lib.hid hI
  have HQ := Lib.hid hq
  clear hI hq
  go_enter Tryz.func34, Tryz.ntmps34
  go_wp2_with fail
  refine HI.out.mono ?_
  rintro e w1 ⟨g, rfl, hp⟩
  have HQ1 := Lib.hid (HQ.out g w1 hp)
  clear hp
  go_wp2_with fail
  refine HQ1.out.mono ?_
  rintro e w2 ⟨n, rfl, hr⟩
  have HR := Lib.hid hr
  clear hr
  go_wp2_with fail
  go_ret
  exact ⟨n, rfl, HR.out⟩

set_option maxRecDepth 100000 in
set_option maxHeartbeats 1000000 in
theorem gClose_any {a : Option Addr} (hI : Calls Tryz.prog 47 #[.pointer a] w (InnerTo P)) (hq : ∀ g w', P g w' → Calls Tryz.prog 48 #[.pointer (some ⟨g, 0, none⟩)] w' (OneOf Q)) : Calls Tryz.prog 27 #[.pointer a] w (OneOf Q) := by
  have HI := Lib.hid hI
  have HQ := Lib.hid hq
  clear hI hq
  go_enter Tryz.func27, Tryz.ntmps27
  go_wp2_with fail
  refine HI.out.mono ?_
  rintro e w1 ⟨g, rfl, hp⟩
  have HQ1 := Lib.hid (HQ.out g w1 hp)
  clear hp
  go_wp2_with fail
  refine HQ1.out.mono ?_
  rintro e w2 ⟨n, rfl, hr⟩
  have HR := Lib.hid hr
  clear hr
  go_wp2_with fail
  go_ret
  exact ⟨n, rfl, HR.out⟩

set_option maxRecDepth 100000 in
set_option maxHeartbeats 1000000 in
theorem gFeed_any {a : Option Addr} {b1 : Option Addr} {l1 c1 : Nat} (hI : Calls Tryz.prog 47 #[.pointer a] w (InnerTo P)) (hq : ∀ g w', P g w' → Calls Tryz.prog 50 #[.pointer (some ⟨g, 0, none⟩), .int .i64 0, .slice b1 l1 c1] w' (TwoOf R)) : Calls Tryz.prog 29 #[.pointer a, .int .i64 0, .slice b1 l1 c1] w (TwoOf R) := by
  have HI := Lib.hid hI
  have HQ := Lib.hid hq
  clear hI hq
  go_enter Tryz.func29, Tryz.ntmps29
  go_wp2_with fail
  refine HI.out.mono ?_
  rintro e w1 ⟨g, rfl, hp⟩
  have HQ1 := Lib.hid (HQ.out g w1 hp)
  clear hp
  go_wp2_with fail
  refine HQ1.out.mono ?_
  rintro e w2 ⟨v, n, rfl, hr⟩
  have HR := Lib.hid hr
  clear hr
  go_wp2_with fail
  go_ret2
  exact ⟨v, n, rfl, HR.out⟩

set_option maxRecDepth 100000 in
set_option maxHeartbeats 1000000 in
theorem gEnd_any {a : Option Addr} (hI : Calls Tryz.prog 47 #[.pointer a] w (InnerTo P)) (hq : ∀ g w', P g w' → Calls Tryz.prog 51 #[.pointer (some ⟨g, 0, none⟩), .int .i64 0] w' (TwoOf R)) : Calls Tryz.prog 32 #[.pointer a, .int .i64 0] w (TwoOf R) := by
  have HI := Lib.hid hI
  have HQ := Lib.hid hq
  clear hI hq
  go_enter Tryz.func32, Tryz.ntmps32
  go_wp2_with fail
  refine HI.out.mono ?_
  rintro e w1 ⟨g, rfl, hp⟩
  have HQ1 := Lib.hid (HQ.out g w1 hp)
  clear hp
  go_wp2_with fail
  refine HQ1.out.mono ?_
  rintro e w2 ⟨v, n, rfl, hr⟩
  have HR := Lib.hid hr
  clear hr
  go_wp2_with fail
  go_ret2
  exact ⟨v, n, rfl, HR.out⟩

set_option maxRecDepth 100000 in
set_option maxHeartbeats 1000000 in
theorem gMore_any {a : Option Addr} (hI : Calls Tryz.prog 47 #[.pointer a] w (InnerTo P)) (hq : ∀ g w', P g w' → Calls Tryz.prog 52 #[.pointer (some ⟨g, 0, none⟩)] w' (TwoOf R)) : Calls Tryz.prog 33 #[.pointer a] w (TwoOf R) := by
  have HI := Lib.hid hI
  have HQ := Lib.hid hq
  clear hI hq
  go_enter Tryz.func33, Tryz.ntmps33
  go_wp2_with fail
  refine HI.out.mono ?_
  rintro e w1 ⟨g, rfl, hp⟩
  have HQ1 := Lib.hid (HQ.out g w1 hp)
  clear hp
  go_wp2_with fail
  refine HQ1.out.mono ?_
  rintro e w2 ⟨v, n, rfl, hr⟩
  have HR := Lib.hid hr
  clear hr
  go_wp2_with fail
  go_ret2
  exact ⟨v, n, rfl, HR.out⟩

set_option maxRecDepth 100000 in
set_option maxHeartbeats 1000000 in
theorem gRaw_any {a : Option Addr} {w0 : World} (hI : Calls Tryz.prog 47 #[.pointer a] w (InnerTo (NoneAt w0))) : Calls Tryz.prog 24 #[.pointer a] w fun e w' => e = .returned (.int .i64 0) ∧ Below w0.heap.size w0 w' := by
  have HI := Lib.hid hI
  clear hI
  go_enter Tryz.func24, Tryz.ntmps24
  go_wp2_with fail
  refine HI.out.mono ?_
  rintro e w1 ⟨g, rfl, hr, -, hb⟩
  have c77 : w1.cell? ⟨g, 77, none⟩ = some (.int .i64 0) := hr.c77
  have HB := Lib.hid hb
  clear hr hb
  go_wp2_with fail
  go_ret
  exact ⟨rfl, HB.out⟩
end
section
variable {F : Bool} {g : Nat} {b : List UInt8} {o : Own78} {w : World}
set_option maxRecDepth 100000 in
set_option maxHeartbeats 4000000 in
theorem heldNone_any (h : RowAt78 F g false [] o w) (hw : o.wv = .slice none 0 0) (hl : o.lv = .slice none 0 0) (hr : o.rv = .slice none 0 0) :
    Calls Tryz.prog 53 #[.pointer (some ⟨g, 0, none⟩)] w (OneOf fun n w' => n = 0 ∧ Below w.heap.size w w') := by
  have hrow : ∀ m, RowAt78 F g false [] o (w.drewN m) := fun m => h.frame ((Frame.refl (fun _ => False) w).drewN m) (fun h => h)
  have hq0 : ∀ m, Calls Tryz.prog 77 #[.pointer (some ⟨g, 5, none⟩)] (w.drewN m) (fun e w' => e = .returned (.int .i64 0) ∧ w' = w.drewN m) := fun m => by
    have hk : KeptIn (w.drewN m) o.wv (fun _ => False) [] := by rw [hw]; exact .nil _ (fun _ h => h)
    have := qheld_any ((hrow m).queue hk (fun h => h)) (by simp) (by simp [keptSum])
    exact this.mono fun _ _ h => ⟨by simpa [keptSum] using h.1, h.2.symm⟩
  have hq1 : ∀ m, Calls Tryz.prog 78 #[.slice none 0 0] (w.drewN m) (fun e w' => e = .returned (.int .i64 0) ∧ w' = w.drewN m) := fun m => by
    have hk : KeptIn (w.drewN m) (.slice none 0 0) (fun _ => False) [] := .nil _ (fun _ h => h)
    exact (sizeOf_any hk (by simp) (fun l h => by cases h)).mono fun _ _ h => ⟨by simpa [keptSum] using h.1, h.2⟩
  have c75 := h.c75
  have c76 := h.c76
  rw [hl] at c75
  rw [hr] at c76
  have HQ0 := Lib.hid hq0
  have HQ1 := Lib.hid hq1
  clear h hw hl hr hrow hq0 hq1
  go_enter Tryz.func53, Tryz.ntmps53
  go_wp2_with fail
  go_quiet (first
    | (go_at_call 77; exact Calls.quiet_of_same (HQ0.out _))
    | (go_at_call 78; exact Calls.quiet_of_same (HQ1.out _)))
  have c76' : (w.drewN nq).cell? ⟨g, 76, none⟩ = some (.slice none 0 0) := c76
  have HB := Lib.hid (show Below w.heap.size w (w.drewN nq) from ⟨rfl, rfl, rfl, Nat.le_refl _, fun _ _ => rfl⟩)
  clear c75 c76 HQ0 HQ1
  generalize w.drewN nq = w1 at c76' HB ⊢
  go_wp2_with fail
  refine wp_loop_rounds 1 ?_
  rw [rounds_succ]
  go_wp2_with fail
  go_ret
  exact ⟨0, rfl, rfl, HB.out⟩
end

set_option maxRecDepth 100000 in
set_option maxHeartbeats 8000000 in
theorem spNobody_any (w : World) (hT : MaxTab w) : Calls Tryz.prog 9 #[] w (Pm.Gives w (.bool true)) := by
  have HT := Lib.hid (show ∀ W, Below w.heap.size w W → MaxTab W from fun W hb => hT.below hb)
  have HFeed := Lib.hid (show ∀ (W : World) (a : Option Addr) (l c : Nat), Calls Tryz.prog 29 #[.pointer none, .int .i64 0, .slice a l c] W (TwoOf fun v n w' => v = .slice none 0 0 ∧ n = 4 ∧ Below W.heap.size W w') from fun W a l c =>
    gFeed_any (innerNone_any W) fun g w' hp => by
      have he : feedE (-1) 0 l = 4 := by unfold feedE; rw [show endE (-1) 0 = 4 from rfl]; simp
      refine (queuesFeed_no g (-1) 0 a l c w' hp.1.c0 (by rw [he]; decide)).mono ?_
      rintro e w2 ⟨rfl, rfl⟩
      exact ⟨_, _, rfl, rfl, he, hp.2.2⟩)
  have HEnd := Lib.hid (show ∀ W : World, Calls Tryz.prog 32 #[.pointer none, .int .i64 0] W (TwoOf fun v n w' => v = .slice none 0 0 ∧ n = 4 ∧ Below W.heap.size W w') from fun W =>
    gEnd_any (innerNone_any W) fun g w' hp => by
      refine (queuesEnd_no g (-1) 0 w' hp.1.c0 (by decide)).mono ?_
      rintro e w2 ⟨rfl, rfl⟩
      exact ⟨_, _, rfl, rfl, rfl, hp.2.2⟩)
  have HMore := Lib.hid (show ∀ W : World, Calls Tryz.prog 33 #[.pointer none] W (TwoOf fun v n w' => v = .slice none 0 0 ∧ n = 4 ∧ Below W.heap.size W w') from fun W =>
    gMore_any (innerNone_any W) fun g w' hp => by
      refine (more_any (n := -1) hp.1.c0 (by decide)).mono ?_
      rintro e w2 ⟨rfl, rfl⟩
      exact ⟨_, _, rfl, rfl, rfl, hp.2.2⟩)
  have HNeed := Lib.hid (show ∀ W : World, Calls Tryz.prog 28 #[.pointer none] W (OneOf fun n w' => n = -1 ∧ Below W.heap.size W w') from fun W =>
    gNeed_any (innerNone_any W) fun g w' hp => by
      refine (need_any hp.1.c0).mono ?_
      rintro e w2 ⟨rfl, rfl⟩
      exact ⟨_, rfl, rfl, hp.2.2⟩)
  have HHeld := Lib.hid (show ∀ W : World, Calls Tryz.prog 34 #[.pointer none] W (OneOf fun n w' => n = 0 ∧ Below W.heap.size W w') from fun W =>
    gHeld_any (innerNone_any W) fun g w' hp => by
      refine (heldNone_any hp.1 rfl rfl rfl).mono ?_
      rintro e w2 ⟨n, rfl, rfl, hb⟩
      exact ⟨_, rfl, rfl, hp.2.2.trans (hb.mono hp.2.2.size)⟩)
  have HClose := Lib.hid (show ∀ W : World, Calls Tryz.prog 27 #[.pointer none] W (OneOf fun n w' => n = 0 ∧ Below W.heap.size W w') from fun W =>
    gClose_any (innerNone_any W) fun g w' hp => by
      refine (closeNone_any hp.1 rfl).mono ?_
      rintro e w2 ⟨n, rfl, rfl, -, hf⟩
      exact ⟨_, rfl, rfl, hp.2.2.trans (hf.below (n := W.heap.size) hp.2.2.size (fun k e => by have e' : k = g := e; have := hp.2.1; omega))⟩)
  have HRaw := Lib.hid (show ∀ W : World, Calls Tryz.prog 24 #[.pointer none] W (fun e w' => e = .returned (.int .i64 0) ∧ Below W.heap.size W w') from fun W => gRaw_any (innerNone_any W))
  have kc1 := Lib.run_convert_bytes_const (P := Tryz.prog) w 22 5 #[.int .u8 97] 1 1 Tryz.underlying22 Tryz.underlying5
  clear hT
  go_enter Tryz.func9, Tryz.ntmps9
  go_wp2_with fail
  refine (HFeed.out _ _ _ _).mono ?_
  rintro e w1 ⟨v1, n1, rfl, rfl, rfl, hb⟩
  have HB := Lib.hid (show Below w.heap.size w w1 from ((Below.refl _ _).alloc (Nat.le_refl _) _).trans (hb.mono (by simp)))
  clear hb kc1
  go_wp2_with fail
  refine (HEnd.out _).mono ?_
  rintro e w2 ⟨v2, n2, rfl, rfl, rfl, hb⟩
  have HB := Lib.hid (HB.out.trans (hb.mono HB.out.size))
  clear hb
  go_wp2_with fail
  refine (HMore.out _).mono ?_
  rintro e w3 ⟨v3, n3, rfl, rfl, rfl, hb⟩
  have HB := Lib.hid (HB.out.trans (hb.mono HB.out.size))
  clear hb
  go_wp2_with fail
  refine (HNeed.out _).mono ?_
  rintro e w4 ⟨n4, rfl, rfl, hb⟩
  have HB := Lib.hid (HB.out.trans (hb.mono HB.out.size))
  clear hb
  go_wp2_with fail
  refine (HHeld.out _).mono ?_
  rintro e w5 ⟨n5, rfl, rfl, hb⟩
  have HB := Lib.hid (HB.out.trans (hb.mono HB.out.size))
  clear hb
  go_wp2_with fail
  refine (HRaw.out _).mono ?_
  rintro e w6 ⟨rfl, hb⟩
  have HB := Lib.hid (HB.out.trans (hb.mono HB.out.size))
  clear hb
  go_wp2_with fail
  refine (HClose.out _).mono ?_
  rintro e w7 ⟨n7, rfl, rfl, hb⟩
  have HB := Lib.hid (HB.out.trans (hb.mono HB.out.size))
  clear hb
  go_wp2_with fail
  refine (awakeSp_true _ (HT.out _ HB.out)).mono ?_
  rintro e w8 ⟨rfl, hb⟩
  go_wp2_with fail
  go_ret
  exact ⟨rfl, HB.out.trans (hb.mono HB.out.size)⟩

end Go.Proofs.YtpgigpajpcianaaGreatDoor
