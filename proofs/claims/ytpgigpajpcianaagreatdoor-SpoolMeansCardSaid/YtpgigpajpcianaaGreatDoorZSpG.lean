/- What Queues' Feed and End do, in a sort. -/
import Derived.Test.YtpgigpajpcianaaGreatDoorZSpE
import Derived.Test.YtpgigpajpcianaaGreatDoorZSpF
import Derived.Test.YtpgigpajpcianaaGreatDoorZDdefs
import Derived.Test.YtpgigpajpcianaaGreatDoorZIcheck
import Derived.Test.YtpgigpajpcianaaGreatDoorZSpA
import Derived.Test.YtpgigpajpcianaaGreatDoorZFsD
import Derived.Test.YtpgigpajpcianaaGreatDoorZFsC
import Derived.Test.YtpgigpajpcianaaGreatDoorZSpD
namespace Go.Proofs.YtpgigpajpcianaaGreatDoor
open Go.RowKit

section
variable {F : Bool} {S : Script} {base g gd : Nat} {lab ownD : Nat → Nat} {Bs : List Nat} {o : Own78} {w w' : World} {s : SpS} {q : SpS × Outs × Int}
theorem SpGives.of {lab1 : Nat → Nat} {w1 w2 : World} {e : Ending} (h : SpGives F S base g gd lab1 q w1 e w2) (hw : Within lab lab1 w w1) : SpGives F S base g gd lab q w e w2 := by
  obtain ⟨v, lab2, own2, Bs2, o2, e2, ho, h2, hw2⟩ := h
  exact ⟨v, lab2, own2, Bs2, o2, e2, ho.mono hw.fr.size, h2, hw.trans hw2⟩
theorem SpSt.queued (h : SpSt F S base g gd lab ownD s [] Bs o w) {f' : Bool} {b' : List UInt8} {X' : Nat → Prop} {W' : Lines} {ov' : Bool} {wv' : Value} (hq : QRep g 5 121 (spHead g o.nd o.pc) [cmpV F, o.dv, o.lv, o.rv, .int .i64 o.raw] f' b' X' W' ov' wv' w') (hX : ∀ k, X' k → lab k = 2 ∨ w.heap.size ≤ k) (hf : Frame (fun k => k = g ∨ lab k = 2) w w') :
    ∃ lab', SpRep F S base g gd lab' ownD f' b' s.x W' Bs ⟨o.nd, o.pc, wv', ov', o.dv, o.lv, o.rv, o.raw⟩ w' ∧ Within lab lab' w w' :=
  h.rep.rewait (X := X') hf (RowAt78.of_queue hq) rfl rfl rfl hq.kept hX
theorem gLab {f : Bool} {b : List UInt8} {x : SpD} {W : Lines} (h : SpRep F S base g gd lab ownD f b x W Bs o w) : ¬ lab g = 2 := by rw [h.glab]; decide
set_option maxRecDepth 100000 in
set_option maxHeartbeats 4000000 in
theorem spFeed_long (h : SpSt F S base g gd lab ownD s [] Bs o w) (hn : s.need = 0) (v : Value) (x : List UInt8) (hX : IsBytes (fun k => lab k = 0) w v x) (hx1 : 1 ≤ x.length) (hx : x.length ≤ 32) (hc : cutL s.b x = ([], none)) :
    Calls Tryz.prog 50 #[.pointer (some ⟨g, 0, none⟩), .int .i64 0, v] w (SpGives F S base g gd lab (deadS s.x.d s.raw, [], 20) w) := by
  have c2 := h.rep.row.c2
  have hput := qput_any v x (h.rep.row.queue h.rep.wait (gLab h.rep)) (hX.mono (fun k _ hk e => by have hk : lab k = 0 := hk; rw [e, h.rep.glab] at hk; cases hk)) (by omega) (by simp) (by rw [hc]; simp)
  rw [hc] at hput
  simp only [List.nil_append] at hput
  have hent := spQueue_enters
  unfold Enters at hent
  obtain ⟨va, vc, rfl, -, -⟩ := id hX
  have c0 := h.rep.row.c0
  rw [h.nd, hn] at c0
  have HE := Lib.hid (show feedE 0 0 x.length = 0 by unfold feedE; rw [show endE (0 : Int) 0 = 0 by unfold endE; rw [if_neg (by omega), if_neg (by omega)], if_neg (by simp), if_neg (by omega)])
  have HC0 := Lib.hid c0
  have HPut := Lib.hid hput
  have H := Lib.hid h
  have HRaw := Lib.hid h.raw
  clear h hput hX hx1 hx hc c0 hn
  go_enter Tryz.func50, Tryz.ntmps50
  go_wp2_with fail
  refine (mayFeed_any 0 va x.length vc HC0.out).mono ?_
  rintro e w' ⟨rfl, rfl⟩
  rename World => w
  rw [HE.out]
  go_wp2_with fail
  refine (spQueue_any (g := g) (w := w) 0).mono ?_
  rintro e w' ⟨rfl, rfl⟩
  rename World => w
  go_wp2_with fail
  refine HPut.out.mono ?_
  rintro e w2 ⟨X', wv', rfl, hq2, hx2, hf2⟩
  obtain ⟨lab2, k1, k2⟩ := H.out.queued hq2 hx2 hf2
  have HS := Lib.hid k1.stops
  have HW2 := Lib.hid k2
  clear hq2 hx2 hf2 k1 k2 c2
  go_wp2_with fail
  refine HS.out.mono ?_
  rintro e w3 ⟨rfl, lab3, own3, Bs3, o3, k3, k4⟩
  have H3 := Lib.hid k3
  have HW3 := Lib.hid (HW2.out.trans k4)
  clear k3 k4
  go_wp2_with fail
  go_ret2
  have h3 := H3.out
  simp only [HRaw.out] at h3
  exact ⟨_, lab3, own3, Bs3, o3, rfl, OwnOuts.nil _ _, h3, HW3.out⟩
set_option maxRecDepth 100000 in
set_option maxHeartbeats 4000000 in
theorem spFeed_yes {Ms : List Lines} (h : SpSt F S base g gd lab ownD s [] Bs o w) (hok : RdOk F s.x Ms) (hov : s.ov = false) (hb : Begun1 s.b) (hn : s.need = 0) (v : Value) (x : List UInt8) (hX : IsBytes (fun k => lab k = 0) w v x) (hx1 : 1 ≤ x.length) (hx : x.length ≤ 32) (L : Lines) (d : List UInt8) (hc : cutL s.b x = (L, some d)) :
    Calls Tryz.prog 50 #[.pointer (some ⟨g, 0, none⟩), .int .i64 0, v] w (SpGives F S base g gd lab (feedSp S F s x) w) := by
  have c2 := h.rep.row.c2
  obtain ⟨hfine, hlen, -⟩ := cutL_fineL hb x
  rw [hc] at hfine hlen
  simp only at hfine hlen
  have hput := qput_any v x (h.rep.row.queue h.rep.wait (gLab h.rep)) (hX.mono (fun k _ hk e => by have hk : lab k = 0 := hk; rw [e, h.rep.glab] at hk; cases hk)) (by omega) (by simp) (by rw [hc]; simp only; omega)
  rw [hc] at hput
  simp only [List.nil_append, Option.isNone_some, Option.getD_some, reduceCtorEq, if_false] at hput
  have hent := spQueue_enters
  unfold Enters at hent
  have hent2 := spTake_enters
  unfold Enters at hent2
  obtain ⟨va, vc, rfl, -, -⟩ := id hX
  have c0 := h.rep.row.c0
  rw [h.nd, hn] at c0
  have HE := Lib.hid (show feedE 0 0 x.length = 0 by unfold feedE; rw [show endE (0 : Int) 0 = 0 by unfold endE; rw [if_neg (by omega), if_neg (by omega)], if_neg (by simp), if_neg (by omega)])
  have HC0 := Lib.hid c0
  have HPut := Lib.hid hput
  have H := Lib.hid h
  have HQ := Lib.hid (feedSp_takes S F s x hc hov)
  have HT := Lib.hid (show ∀ (lab2 : Nat → Nat) (o2 : Own78) (w2 : World), SpRep F S base g gd lab2 ownD false d s.x L Bs o2 w2 → o2.nd = o.nd → o2.ov = o.ov → o2.raw = o.raw →
      Calls Tryz.prog 61 #[.pointer (some ⟨g, 0, none⟩)] w2 (SpGives F S base g gd lab2 (takesOut S F ⟨s.need, d, s.ov, s.kept, s.x, s.raw⟩ L) w2) from fun lab2 o2 w2 hr e1 e2 e3 =>
    takeLines_any (s := ⟨s.need, d, s.ov, s.kept, s.x, s.raw⟩) beginMerge_all ⟨hr, e1.trans h.nd, e2.trans h.ov, e3.trans h.raw, fun e => by rw [show (⟨s.need, d, s.ov, s.kept, s.x, s.raw⟩ : SpS).need = s.need from rfl, hn] at e; cases e⟩ hok hfine (by omega) (by rw [show (⟨s.need, d, s.ov, s.kept, s.x, s.raw⟩ : SpS).need = s.need from rfl, hn]; decide) (fun e => by rw [show (⟨s.need, d, s.ov, s.kept, s.x, s.raw⟩ : SpS).ov = s.ov from rfl, hov] at e; cases e))
  clear h hput hX hx1 hx hc c0 hn hok hov hb hfine hlen
  go_enter Tryz.func50, Tryz.ntmps50
  go_wp2_with fail
  refine (mayFeed_any 0 va x.length vc HC0.out).mono ?_
  rintro e w' ⟨rfl, rfl⟩
  rename World => w
  rw [HE.out]
  go_wp2_with fail
  refine (spQueue_any (g := g) (w := w) 0).mono ?_
  rintro e w' ⟨rfl, rfl⟩
  rename World => w
  go_wp2_with fail
  refine HPut.out.mono ?_
  rintro e w2 ⟨X', wv', rfl, hq2, hx2, hf2⟩
  obtain ⟨lab2, k1, k2⟩ := H.out.queued hq2 hx2 hf2
  have c3 := k1.row.c3
  have HTk := Lib.hid (HT.out lab2 _ w2 k1 rfl rfl rfl)
  have HW2 := Lib.hid k2
  clear hq2 hx2 hf2 k1 k2 c2 hent
  go_wp2_with fail
  refine HTk.out.mono ?_
  rintro e w3 hend
  have HEnd := Lib.hid (hend.of HW2.out)
  obtain ⟨v3, lab3, own3, Bs3, o3, rfl, -⟩ := hend
  go_wp2_with fail
  go_ret2
  rw [HQ.out]
  exact HEnd.out
set_option maxRecDepth 100000 in
set_option maxHeartbeats 4000000 in
theorem spEnd_yes {Ms : List Lines} (h : SpSt F S base g gd lab ownD s [] Bs o w) (hok : RdOk F s.x Ms) (hb : Begun1 s.b) (hn : s.need = 0) :
    Calls Tryz.prog 51 #[.pointer (some ⟨g, 0, none⟩), .int .i64 0] w (SpGives F S base g gd lab (finSp S F s) w) := by
  have c2 := h.rep.row.c2
  have hput := qclose_any (h.rep.row.queue h.rep.wait (gLab h.rep)) (by simp)
  simp only [List.nil_append] at hput
  have hent := spQueue_enters
  unfold Enters at hent
  have hent2 := spTake_enters
  unfold Enters at hent2
  have c0 := h.rep.row.c0
  rw [h.nd, hn] at c0
  have HE := Lib.hid (show endE (0 : Int) 0 = 0 by unfold endE; rw [if_neg (by omega), if_neg (by omega)])
  have HC0 := Lib.hid c0
  have hq := finSp_takes S F s
  have hfine := hb.line
  have hlen : (if s.b = [] then [] else [s.b] : Lines).length ≤ 1 := by split <;> simp
  obtain ⟨L, hL⟩ : ∃ L : Lines, L = if s.b = [] then [] else [s.b] := ⟨_, rfl⟩
  rw [← hL] at hput hq hfine hlen
  have HPut := Lib.hid hput
  have HQ := Lib.hid hq
  have H := Lib.hid h
  have HT := Lib.hid (show ∀ (lab2 : Nat → Nat) (o2 : Own78) (w2 : World), SpRep F S base g gd lab2 ownD false [] s.x L Bs o2 w2 → o2.nd = o.nd → o2.ov = true → o2.raw = o.raw →
      Calls Tryz.prog 61 #[.pointer (some ⟨g, 0, none⟩)] w2 (SpGives F S base g gd lab2 (takesOut S F ⟨s.need, [], true, s.kept, s.x, s.raw⟩ L) w2) from fun lab2 o2 w2 hr e1 e2 e3 =>
    takeLines_any (s := ⟨s.need, [], true, s.kept, s.x, s.raw⟩) beginMerge_all ⟨hr, e1.trans h.nd, e2, e3.trans h.raw, fun e => by rw [show (⟨s.need, [], true, s.kept, s.x, s.raw⟩ : SpS).need = s.need from rfl, hn] at e; cases e⟩ hok hfine (by omega) (by rw [show (⟨s.need, [], true, s.kept, s.x, s.raw⟩ : SpS).need = s.need from rfl, hn]; decide) (fun _ => rfl))
  clear h hput c0 hn hok hb hfine hlen hq hL
  go_enter Tryz.func51, Tryz.ntmps51
  go_wp2_with fail
  refine (mayEnd_any 0 HC0.out).mono ?_
  rintro e w' ⟨rfl, rfl⟩
  rename World => w
  rw [HE.out]
  go_wp2_with fail
  refine (spQueue_any (g := g) (w := w) 0).mono ?_
  rintro e w' ⟨rfl, rfl⟩
  rename World => w
  go_wp2_with fail
  refine HPut.out.mono ?_
  rintro e w2 ⟨X', wv', rfl, hq2, hx2, hf2⟩
  obtain ⟨lab2, k1, k2⟩ := H.out.queued hq2 hx2 hf2
  have c3 := k1.row.c3
  have HTk := Lib.hid (HT.out lab2 _ w2 k1 rfl rfl rfl)
  have HW2 := Lib.hid k2
  clear hq2 hx2 hf2 k1 k2 c2 hent
  go_wp2_with fail
  refine HTk.out.mono ?_
  rintro e w3 hend
  have HEnd := Lib.hid (hend.of HW2.out)
  obtain ⟨v3, lab3, own3, Bs3, o3, rfl, -⟩ := hend
  go_wp2_with fail
  go_ret2
  rw [HQ.out]
  exact HEnd.out
end

end Go.Proofs.YtpgigpajpcianaaGreatDoor

namespace Go.Proofs.YtpgigpajpcianaaGreatDoor
open Go.RowKit

def newO (dv : Value) : Own78 := ⟨0, .nilFunc, .slice none 0 0, false, dv, .slice none 0 0, .slice none 0 0, 0⟩
def newRow78 (cv dv : Value) : Array Value := rowA [.int .i64 0, .nilFunc, .nilFunc, .nilFunc, .nilFunc] false [] [.slice none 0 0, .bool false, cv, dv, .slice none 0 0, .slice none 0 0, .int .i64 0]
theorem Tryz.built_spm (ov : Value) (pd : Option Addr) : Tryz.prog.built 121 [(2, .func (.func 59) #[ov] #[]), (3, .pointer pd)] = some (newRow78 (.func (.func 59) #[ov] #[]) (.pointer pd)) := by kernel_rfl
theorem newRow78_set (F : Bool) (dv : Value) (g : Nat) : (((newRow78 (cmpV F) dv).setIfInBounds 2 (.func (.func 60) #[.pointer (some ⟨g, 0, none⟩)] #[])).setIfInBounds 3 (.func (.func 61) #[.pointer (some ⟨g, 0, none⟩)] #[])).setIfInBounds 4 (.func (.func 62) #[.pointer (some ⟨g, 0, none⟩)] #[]) = spRow F g false [] (newO dv) := by
  unfold newRow78 spRow rowA
  simp only [List.setIfInBounds_toArray, List.cons_append, List.set_cons_succ, List.set_cons_zero]
  rfl
def SpMade (F : Bool) (dv : Value) (w : World) (e : Ending) (w' : World) : Prop :=
  ∃ g, e = .returned (.pointer (some ⟨g, 0, none⟩)) ∧ RowAt78 F g false [] (newO dv) w' ∧ w.heap.size ≤ g ∧ Below w.heap.size w w'
set_option maxRecDepth 100000 in
set_option maxHeartbeats 4000000 in
theorem newMachine_any (F : Bool) (pd : Option Addr) (w : World) :
    Calls Tryz.prog 38 #[ordV F, .pointer pd] w (SpMade F (.pointer pd) w) := by
  have hbuilt : Tryz.prog.built 121 [(2, cmpV F), (3, .pointer pd)] = some (newRow78 (cmpV F) (.pointer pd)) := Tryz.built_spm _ _
  obtain ⟨R, hR⟩ : ∃ R, R = newRow78 (cmpV F) (.pointer pd) := ⟨_, rfl⟩
  rw [← hR] at hbuilt
  have HRow := Lib.hid hR
  unfold cmpV at hbuilt
  obtain ⟨OV, hOV⟩ : ∃ OV, OV = ordV F := ⟨_, rfl⟩
  have HOV := Lib.hid hOV
  rw [← hOV] at hbuilt ⊢
  clear hR hOV
  go_enter Tryz.func38, Tryz.ntmps38
  go_upto_region 2 with (with_reducible refine wpList_build2 rfl 121 2 3 (.tmp 7) (.tmp 8) rfl (.func (.func 59) #[OV] #[]) (.pointer pd) rfl rfl R hbuilt ?_)
  have hh := heap_alloc_last w (.cells R 121)
  have hb2 : Below w.heap.size w (w.alloc (.cells R 121)) := (Below.refl _ _).alloc (Nat.le_refl _) _
  generalize w.alloc (.cells R 121) = W1 at hh hb2 ⊢
  obtain ⟨G, hG⟩ : ∃ G, G = w.heap.size := ⟨_, rfl⟩
  rw [← hG] at hh hb2 ⊢
  have HGE := Lib.hid hG
  have hz : ∀ o, W1.frozen? ⟨G, o, none⟩ = false := fun o => by simp [World.frozen?, hh]
  have hz2 := hz 2
  have hz3 := hz 3
  have hz4 := hz 4
  have hc : ∀ i, 2 ≤ i → i ≤ 4 → W1.cell? ⟨G, i, none⟩ = some .nilFunc := fun i h1 h4 => by
    rw [cell_of_row _ _ _ _ _ _ hh, HRow.out]
    unfold newRow78 rowA
    rw [List.getElem?_toArray]
    obtain rfl | rfl | rfl : i = 2 ∨ i = 3 ∨ i = 4 := by omega
    all_goals rfl
  have hc2 := hc 2 (by decide) (by decide)
  have hc3 := hc 3 (by decide) (by decide)
  have hc4 := hc 4 (by decide) (by decide)
  have HH := Lib.hid hh
  have HB2 := Lib.hid hb2
  clear hh hb2 hz hc hbuilt hG
  go_wp2_with fail
  go_ret
  have hf := ((Frame.cell W1 ⟨G, 2, none⟩ (.func (.func 60) #[.pointer (some ⟨G, 0, none⟩)] #[])).trans (Frame.cell _ ⟨G, 3, none⟩ (.func (.func 61) #[.pointer (some ⟨G, 0, none⟩)] #[]))).trans (Frame.cell _ ⟨G, 4, none⟩ (.func (.func 62) #[.pointer (some ⟨G, 0, none⟩)] #[]))
  have hb3 := hf.below (n := G) (by rw [HGE.out]; exact HB2.out.size) (fun k e => by have e' : k = G := e; omega)
  refine ⟨G, rfl, ⟨?_, Nat.zero_le _, fun h => by cases h⟩, Nat.le_of_eq HGE.out.symm, by rw [← HGE.out]; exact HB2.out.trans hb3⟩
  rw [setCell_row (setCell_row (setCell_row HH.out _ _) _ _) _ _, HRow.out, newRow78_set]
def SortAt (h g : Nat) (w : World) : Prop := w.heap[h]? = some (.cells #[.pointer (some ⟨g, 0, none⟩)] 84 (0, 0))
theorem SortAt.frame {h g : Nat} {w w' : World} {p : Nat → Prop} (hs : SortAt h g w) (hf : Frame p w w') (hp : ¬ p h) : SortAt h g w' := hf.heap (show w.heap[h]? = _ from hs) hp
theorem SortAt.lt {h g : Nat} {w : World} (hs : SortAt h g w) : h < w.heap.size := (Array.getElem?_eq_some_iff.1 (show w.heap[h]? = _ from hs)).1
theorem SortAt.cell {h g : Nat} {w : World} (hs : SortAt h g w) : w.cell? ⟨h, 0, none⟩ = some (.pointer (some ⟨g, 0, none⟩)) := by rw [cell_of_row _ _ _ _ _ _ (show w.heap[h]? = _ from hs)]; rfl
set_option maxRecDepth 100000 in
set_option maxHeartbeats 1000000 in
theorem inner_any {h g : Nat} {w : World} (hs : SortAt h g w) : Calls Tryz.prog 47 #[.pointer (some ⟨h, 0, none⟩)] w (Says w (.pointer (some ⟨g, 0, none⟩))) := by
  have c0 := hs.cell
  clear hs
  go_enter Tryz.func47, Tryz.ntmps47
  go_wp2_with fail
  go_ret
  exact ⟨rfl, rfl⟩
end Go.Proofs.YtpgigpajpcianaaGreatDoor

namespace Go.Proofs.YtpgigpajpcianaaGreatDoor
open Go.RowKit

def TwoOf (R : Value → Int → World → Prop) (e : Ending) (w' : World) : Prop := ∃ v n, e = .returned (.tuple #[v, .int .i64 n]) ∧ R v n w'
def OneOf (R : Int → World → Prop) (e : Ending) (w' : World) : Prop := ∃ n, e = .returned (.int .i64 n) ∧ R n w'
section
variable {h g : Nat} {w : World} {R : Value → Int → World → Prop} {Q : Int → World → Prop}
set_option maxRecDepth 100000 in
set_option maxHeartbeats 1000000 in
theorem sNeed_any (hs : SortAt h g w) (hq : Calls Tryz.prog 49 #[.pointer (some ⟨g, 0, none⟩)] w (OneOf Q)) : Calls Tryz.prog 28 #[.pointer (some ⟨h, 0, none⟩)] w (OneOf Q) := by
  have HI := Lib.hid (inner_any hs)
  have HQ := Lib.hid hq
  clear hs hq
  go_enter Tryz.func28, Tryz.ntmps28
  go_wp2_with fail
  refine HI.out.mono ?_
  rintro e w' ⟨rfl, rfl⟩
  rename World => w
  go_wp2_with fail
  refine HQ.out.mono ?_
  rintro e w1 ⟨n, rfl, hr⟩
  have HR := Lib.hid hr
  clear hr
  go_wp2_with fail
  go_ret
  exact ⟨n, rfl, HR.out⟩
set_option maxRecDepth 100000 in
set_option maxHeartbeats 1000000 in
theorem sHeld_any (hs : SortAt h g w) (hq : Calls Tryz.prog 53 #[.pointer (some ⟨g, 0, none⟩)] w (OneOf Q)) : Calls Tryz.prog 34 #[.pointer (some ⟨h, 0, none⟩)] w (OneOf Q) := by
  have HI := Lib.hid (inner_any hs)
  have HQ := Lib.hid hq
  clear hs hq
  go_enter Tryz.func34, Tryz.ntmps34
  go_wp2_with fail
  refine HI.out.mono ?_
  rintro e w' ⟨rfl, rfl⟩
  rename World => w
  go_wp2_with fail
  refine HQ.out.mono ?_
  rintro e w1 ⟨n, rfl, hr⟩
  have HR := Lib.hid hr
  clear hr
  go_wp2_with fail
  go_ret
  exact ⟨n, rfl, HR.out⟩
set_option maxRecDepth 100000 in
set_option maxHeartbeats 1000000 in
theorem sRaw_any {F : Bool} {f : Bool} {b : List UInt8} {o : Own78} (hs : SortAt h g w) (hr : RowAt78 F g f b o w) : Calls Tryz.prog 24 #[.pointer (some ⟨h, 0, none⟩)] w (Says w (.int .i64 o.raw)) := by
  have HI := Lib.hid (inner_any hs)
  have c77 := hr.c77
  clear hs hr
  go_enter Tryz.func24, Tryz.ntmps24
  go_wp2_with fail
  refine HI.out.mono ?_
  rintro e w' ⟨rfl, rfl⟩
  rename World => w
  go_wp2_with fail
  go_ret
  exact ⟨rfl, rfl⟩
set_option maxRecDepth 100000 in
set_option maxHeartbeats 1000000 in
theorem sFeed_any (hs : SortAt h g w) (p : Int) (v : Value) (hq : Calls Tryz.prog 50 #[.pointer (some ⟨g, 0, none⟩), .int .i64 p, v] w (TwoOf R)) : Calls Tryz.prog 29 #[.pointer (some ⟨h, 0, none⟩), .int .i64 p, v] w (TwoOf R) := by
  have HI := Lib.hid (inner_any hs)
  have HQ := Lib.hid hq
  clear hs hq
  go_enter Tryz.func29, Tryz.ntmps29
  go_wp2_with fail
  refine HI.out.mono ?_
  rintro e w' ⟨rfl, rfl⟩
  rename World => w
  go_wp2_with fail
  refine HQ.out.mono ?_
  rintro e w1 ⟨v, n, rfl, hr⟩
  have HR := Lib.hid hr
  clear hr
  go_wp2_with fail
  go_ret2
  exact ⟨v, n, rfl, HR.out⟩
set_option maxRecDepth 100000 in
set_option maxHeartbeats 1000000 in
theorem sEnd_any (hs : SortAt h g w) (p : Int) (hq : Calls Tryz.prog 51 #[.pointer (some ⟨g, 0, none⟩), .int .i64 p] w (TwoOf R)) : Calls Tryz.prog 32 #[.pointer (some ⟨h, 0, none⟩), .int .i64 p] w (TwoOf R) := by
  have HI := Lib.hid (inner_any hs)
  have HQ := Lib.hid hq
  clear hs hq
  go_enter Tryz.func32, Tryz.ntmps32
  go_wp2_with fail
  refine HI.out.mono ?_
  rintro e w' ⟨rfl, rfl⟩
  rename World => w
  go_wp2_with fail
  refine HQ.out.mono ?_
  rintro e w1 ⟨v, n, rfl, hr⟩
  have HR := Lib.hid hr
  clear hr
  go_wp2_with fail
  go_ret2
  exact ⟨v, n, rfl, HR.out⟩
set_option maxRecDepth 100000 in
set_option maxHeartbeats 1000000 in
theorem sMore_any (hs : SortAt h g w) (hq : Calls Tryz.prog 52 #[.pointer (some ⟨g, 0, none⟩)] w (TwoOf R)) : Calls Tryz.prog 33 #[.pointer (some ⟨h, 0, none⟩)] w (TwoOf R) := by
  have HI := Lib.hid (inner_any hs)
  have HQ := Lib.hid hq
  clear hs hq
  go_enter Tryz.func33, Tryz.ntmps33
  go_wp2_with fail
  refine HI.out.mono ?_
  rintro e w' ⟨rfl, rfl⟩
  rename World => w
  go_wp2_with fail
  refine HQ.out.mono ?_
  rintro e w1 ⟨v, n, rfl, hr⟩
  have HR := Lib.hid hr
  clear hr
  go_wp2_with fail
  go_ret2
  exact ⟨v, n, rfl, HR.out⟩
end

section
variable {F : Bool} {S : Script} {base gd : Nat} {ownD : Nat → Nat} {d : DSt} {w : World}
theorem SpSt.made {g : Nat} (hd : DiskAt base gd ownD S d w) (hm : MaxAt w) (hl : mxV < base) (hbg : base ≤ g) (hr : RowAt78 F g false [] (newO (ptrV gd)) w) (hg : ownD g = 0) : SpSt F S base g gd (deadLab g ownD) ownD (freshS d) [] [] (newO (ptrV gd)) w := by
  refine ⟨⟨hr, .nil _ (fun k e => ?_), .nil _ (fun k e => ?_), World.ownsRow_nil _ _ _ _, fun k e => (by cases e), rfl, hd, rfl, fun j k r h1 => (by simp at h1), fun k e => (by cases e), fun k hk => ?_, ?_, fun k hk => ?_, hl, hm, List.nodup_nil⟩, rfl, rfl, rfl, fun e => by cases e⟩
  · unfold deadLab at e; split at e; cases e; split at e <;> cases e
  · unfold deadLab at e; split at e; cases e; split at e <;> cases e
  · unfold deadLab
    rw [if_neg (fun e => hk (by rw [e]; exact hg)), if_pos hk]
  · unfold deadLab; rw [if_pos rfl]
  · unfold deadLab at hk
    by_cases e : k = g
    · subst e; exact ⟨hbg, hr.lt⟩
    · rw [if_neg e] at hk
      by_cases e2 : ownD k ≠ 0
      · exact hd.bnd k e2
      · rw [if_neg e2] at hk; exact absurd rfl hk
def SorterMade (F : Bool) (S : Script) (base gd : Nat) (ownD : Nat → Nat) (d : DSt) (w : World) (e : Ending) (w' : World) : Prop :=
  ∃ h g, e = .returned (.tuple #[.pointer (some ⟨h, 0, none⟩), .int .i64 0]) ∧ SortAt h g w' ∧ SpSt F S base g gd (deadLab g ownD) ownD (freshS d) [] [] (newO (ptrV gd)) w' ∧ w.heap.size ≤ g ∧ w.heap.size ≤ h ∧ h ≠ g ∧ Below w.heap.size w w'
theorem Tryz.built_sorter (a : Option Addr) : Tryz.prog.built 84 [(0, .pointer a)] = some #[.pointer a] := by kernel_rfl
set_option maxRecDepth 100000 in
set_option maxHeartbeats 2000000 in
theorem spoolNew_yes (k : Int) (F : Bool) (va vb : Value) (A B : List UInt8) (w : World) (hT : Pm.Tab w) (hM : MaxAt w) (hA : Pm.IsBytes w va A) (hB : Pm.IsBytes w vb B) (hE : takeE 11 k (if F then 1 else 0) A B = 0) (hd : DiskAt base gd ownD S d w) (hl : mxV < base) (hbs : base ≤ w.heap.size) :
    Calls Tryz.prog 13 #[Pm.parV k (if F then 1 else 0) va vb, ptrV gd] w (SorterMade F S base gd ownD d w) := by
  have HT := Lib.hid (show ∀ o1, Pm.Tab (w.alloc o1) from fun o1 => hT.below ((Below.refl _ _).alloc (Nat.le_refl _) _))
  have HA := Lib.hid (show ∀ o1, Pm.IsBytes (w.alloc o1) va A from fun o1 => hA.below ((Below.refl _ _).alloc (Nat.le_refl _) _))
  have HB := Lib.hid (show ∀ o1, Pm.IsBytes (w.alloc o1) vb B from fun o1 => hB.below ((Below.refl _ _).alloc (Nat.le_refl _) _))
  have HB0 := Lib.hid (show ∀ o1, Below w.heap.size w (w.alloc o1) from fun o1 => (Below.refl _ _).alloc (Nat.le_refl _) _)
  have HE := Lib.hid hE
  have HD := Lib.hid (show ∀ W, Below w.heap.size w W → DiskAt base gd ownD S d W ∧ MaxAt W from fun W hb => ⟨hd.below hb, hM.frame (Below.toFrame hb fun _ => False) (fun h => h)⟩)
  have HBd := Lib.hid hd.bnd
  have HL := Lib.hid hl
  have HBs := Lib.hid hbs
  have HN := Lib.hid (newMachine_any F (some ⟨gd, 0, none⟩))
  unfold ordV at HN
  obtain ⟨n, hn⟩ : ∃ n : Int, n = if F then 1 else 0 := ⟨_, rfl⟩
  rw [← hn] at HE HN ⊢
  clear hT hM hA hB hE hd hl hbs hn
  unfold Pm.parV ptrV
  go_enter Tryz.func13, Tryz.ntmps13
  go_wp2_with fail
  refine (intakeCheck_any 11 k n va vb A B _ (HT.out _) (HA.out _) (HB.out _)).mono ?_
  rintro e w1 ⟨rfl, hb⟩
  rw [HE.out]
  have q0 : w1.cell? ⟨w.heap.size, 1, none⟩ = some (.int .i64 n) := Pm.Below.cell hb (by simp)
  have HW := Lib.hid ((HB0.out _).trans (hb.mono (HB0.out _).size))
  clear hb
  go_wp2_with fail
  refine (HN.out w1).mono ?_
  rintro e w2 ⟨g, rfl, hr, hg, hb2⟩
  have HR := Lib.hid hr
  have HG := Lib.hid hg
  have HB2 := Lib.hid hb2
  have hbs := Tryz.built_sorter (some ⟨g, 0, none⟩)
  clear hr hg hb2 q0 HN
  go_wp2_with (first | (with_reducible refine wpList_build1 rfl 84 0 (.tmp 17) rfl (.pointer (some ⟨g, 0, none⟩)) rfl #[.pointer (some ⟨g, 0, none⟩)] hbs ?_))
  go_ret2
  have hw2 : Below w.heap.size w w2 := HW.out.trans (HB2.out.mono HW.out.size)
  have hw3 : Below w.heap.size w (w2.alloc (.cells #[.pointer (some ⟨g, 0, none⟩)] 84)) := hw2.alloc hw2.size _
  have hgw : w.heap.size ≤ g := Nat.le_trans HW.out.size HG.out
  have hgl := HR.out.lt
  obtain ⟨k1, k2⟩ := HD.out _ hw3
  have hr3 : RowAt78 F g false [] (newO (ptrV gd)) (w2.alloc (.cells #[.pointer (some ⟨g, 0, none⟩)] 84)) := HR.out.frame (Below.toFrame ((Below.refl _ _).alloc (Nat.le_refl _) _) fun _ => False) (fun h => h)
  refine ⟨w2.heap.size, g, rfl, heap_at rfl, SpSt.made k1 k2 HL.out (Nat.le_trans HBs.out hgw) hr3 ?_, hgw, hw2.size, by omega, hw3⟩
  cases hz : ownD g with
  | zero => rfl
  | succ m => have := (HBd.out g (by rw [hz]; exact Nat.succ_ne_zero _)).2; omega
end

end Go.Proofs.YtpgigpajpcianaaGreatDoor

namespace Go.Proofs.YtpgigpajpcianaaGreatDoor
open Go.RowKit

def closeGo (S : Script) : DSt → List Int → Int → DSt × Int
  | d, [], f => (d, f)
  | d, no :: r, f => closeGo S (removeS S d no) r (if f = 0 then removeE S d no else f)
section
variable {S : Script}
def closeD (S : Script) (d : DSt) : DSt × Int := closeGo S d (liveL d.T) 0
end

end Go.Proofs.YtpgigpajpcianaaGreatDoor

namespace Go.Proofs.YtpgigpajpcianaaGreatDoor
open Go.RowKit

structure CloseAt (S : Script) (base gd : Nat) (ownD : Nat → Nat) (d : DSt) (w : World) (i : Nat) (f : Int) (wr : World) : Prop where
  le : i ≤ (liveL d.T).length
  is : ∃ own' d', DiskAt base gd own' S d' wr ∧ (∀ k, k < w.heap.size → own' k = ownD k) ∧ Frame (fun k => ownD k ≠ 0) w wr ∧ d'.n ≤ d.n + i ∧ Small d' ∧ closeD S d = closeGo S d' ((liveL d.T).drop i) f
section
variable {F : Bool} {S : Script} {base g gd : Nat} {ownD : Nat → Nat} {f : Bool} {b : List UInt8} {o : Own78} {d : DSt} {w : World}
end

end Go.Proofs.YtpgigpajpcianaaGreatDoor

namespace Go.Proofs.YtpgigpajpcianaaGreatDoor
open Go.RowKit

def sortRep (F : Bool) (S : Script) (base h g gd : Nat) (s : SpS) (own : Nat → Prop) (w : World) : Prop :=
  ∃ lab ownD Bs o, SpSt F S base g gd lab ownD s [] Bs o w ∧ SortAt h g w ∧ lab h = 0 ∧ base ≤ h ∧ SpInv F s ∧ own = fun k => lab k ≠ 0 ∨ k = h
theorem sort_goes (h : Nat) (w : World) :
    (method 336 29 (.pointer (some ⟨h, 0, none⟩)) "Need").run Tryz.prog w = .ok (28, .pointer (some ⟨h, 0, none⟩)) w ∧
    (method 336 29 (.pointer (some ⟨h, 0, none⟩)) "Held").run Tryz.prog w = .ok (34, .pointer (some ⟨h, 0, none⟩)) w ∧
    (method 336 29 (.pointer (some ⟨h, 0, none⟩)) "Feed").run Tryz.prog w = .ok (29, .pointer (some ⟨h, 0, none⟩)) w ∧
    (method 336 29 (.pointer (some ⟨h, 0, none⟩)) "End").run Tryz.prog w = .ok (32, .pointer (some ⟨h, 0, none⟩)) w ∧
    (method 336 29 (.pointer (some ⟨h, 0, none⟩)) "More").run Tryz.prog w = .ok (33, .pointer (some ⟨h, 0, none⟩)) w :=
  ⟨by kernel_rfl, by kernel_rfl, by kernel_rfl, by kernel_rfl, by kernel_rfl⟩
section
variable {F : Bool} {S : Script} {base h g gd : Nat} {lab ownD : Nat → Nat} {Bs : List Nat} {o : Own78} {w w' : World} {s : SpS} {own : Nat → Prop} {q : SpS × Outs × Int}
theorem SpSt.frame {p : Nat → Prop} (hs : SpSt F S base g gd lab ownD s [] Bs o w) (hf : Frame p w w') (hp : ∀ k, p k → lab k = 0 ∧ k ≠ mxV) : SpSt F S base g gd lab ownD s [] Bs o w' := ⟨hs.rep.frame hf hp, hs.nd, hs.ov, hs.raw, hs.pc⟩
def GivesR (F : Bool) (S : Script) (base g gd : Nat) (lab : Nat → Nat) (q : SpS × Outs × Int) (w : World) (v : Value) (n : Int) (w' : World) : Prop :=
  n = q.2.2 ∧ OwnOuts w.heap.size w' v q.2.1 ∧ ∃ lab' ownD' Bs' o', SpSt F S base g gd lab' ownD' q.1 [] Bs' o' w' ∧ Within lab lab' w w'
theorem SpGives.two {e : Ending} (hg : SpGives F S base g gd lab q w e w') : TwoOf (GivesR F S base g gd lab q w) e w' := by
  obtain ⟨v, lab', ownD', Bs', o', rfl, ho, h1, h2⟩ := hg
  exact ⟨v, _, rfl, rfl, ho, lab', ownD', Bs', o', h1, h2⟩
theorem GivesR.answers {e : Ending} (hg : TwoOf (GivesR F S base g gd lab q w) e w') (hs : SortAt h g w) (hl : lab h = 0) (hb : base ≤ h) (hi : SpInv F q.1) (ho : OutsOk q.2.1 ∧ q.2.1.length ≤ 1000000) : Answers (fun k => lab k ≠ 0 ∨ k = h) (sortRep F S base h g gd) q w e w' := by
  obtain ⟨v, n, rfl, rfl, hout, lab', ownD', Bs', o', h1, h2⟩ := hg
  refine ⟨v, rfl, hout.is, ⟨_, ⟨lab', ownD', Bs', o', h1, hs.frame h2.fr (fun e => e hl), ?_, hb, hi, rfl⟩, fun k hk => ?_⟩, h2.fr.mono (fun k _ e => .inl e), ho.1, ho.2⟩
  · cases hz : lab' h with
    | zero => rfl
    | succ m =>
      rcases h2.new h (by rw [hz]; exact Nat.succ_ne_zero _) with e | e
      · exact absurd hl e
      · have := hs.lt; omega
  · rcases hk with e | e
    · exact (h2.new k e).imp_left .inl
    · exact .inl (.inr e)
theorem outs_none : OutsOk [] ∧ ([] : Outs).length ≤ 1000000 := ⟨⟨(fun t ht => by cases ht), (fun t ht => by cases ht), Nat.zero_le _⟩, by simp⟩
theorem outs_line {x : List UInt8} (h : x.length ≤ 64) : OutsOk [(0, x ++ [10])] ∧ ([(0, x ++ [10])] : Outs).length ≤ 1000000 := by
  refine ⟨⟨fun t ht => ?_, fun t ht => ?_, ?_⟩, by simp⟩
  · rw [List.mem_singleton.1 ht]; exact Nat.zero_le _
  · rw [List.mem_singleton.1 ht]; simp
  · simp [outSum]; omega
theorem spMoreCalls (hs : SpSt F S base g gd lab ownD s [] Bs o w) (hi : SpInv F s) (hn : s.need = -2) : Calls Tryz.prog 52 #[.pointer (some ⟨g, 0, none⟩)] w (SpGives F S base g gd lab (moreSp S F s) w) := by
  cases hi with
  | dead e => rw [hn] at e; cases e
  | reads e => rw [hn] at e; cases e
  | kept h hk hb hrs l r hr hf hw hsort hd hno =>
    have h1 := weightL_length s.x.run
    rw [hr] at h1 hw hf
    simp only [List.length_cons] at h1
    exact spMore_kept hs hn hk (tellKept_any hs hk hr (hf l List.mem_cons_self).1 (by omega))
  | least h hk hb hr Ls ht hl =>
    cases hls : leastOf F s.x.rs with
    | none => exact absurd hls hl
    | some p =>
      obtain ⟨k, l⟩ := p
      have hn := ht.n
      have h3 := ht.l3
      refine spMore_least hs h hk (tellLeast_any hs hk hls ⟨⟨by omega, ht.T, fun t hh => by have := ht.t t hh; omega⟩, by omega, fun r hr => ⟨?_, by have := (ht.each r hr).1; omega, (ht.each r hr).2⟩, by omega⟩)
      cases hf : fileAt s.x.d.T r.no with
      | none => exact absurd hf (ht.there r.no (List.mem_map.2 ⟨r, hr, rfl⟩))
      | some t => have h4 := fileAt_range hf; have h5 := ht.T; exact ⟨by omega, by omega⟩
theorem spFeedCalls (hs : SpSt F S base g gd lab ownD s [] Bs o w) (hi : SpInv F s) (hn : s.need = 0) (v : Value) (x : List UInt8) (hX : IsBytes (fun k => lab k = 0) w v x) (hx1 : 1 ≤ x.length) (hx : x.length ≤ 32) :
    Calls Tryz.prog 50 #[.pointer (some ⟨g, 0, none⟩), .int .i64 0, v] w (SpGives F S base g gd lab (feedSp S F s x) w) := by
  cases hi with
  | dead e => rw [hn] at e; cases e
  | kept e => rw [hn] at e; cases e
  | least e => rw [hn] at e; cases e
  | reads _ hov hb Ms hok =>
    rcases hc : cutL s.b x with ⟨L, _ | d⟩
    · have hL : L = [] := by
        have := cutS_short x s.b (by rw [hc]) (by omega)
        rw [hc] at this
        exact this
      subst hL
      have e : feedSp S F s x = (deadS s.x.d s.raw, [], 20) := by unfold feedSp; rw [hc]; rfl
      rw [e]
      exact spFeed_long hs hn v x hX hx1 hx hc
    · exact spFeed_yes hs hok hov hb hn v x hX hx1 hx L d hc
theorem spEndCalls (hs : SpSt F S base g gd lab ownD s [] Bs o w) (hi : SpInv F s) (hn : s.need = 0) :
    Calls Tryz.prog 51 #[.pointer (some ⟨g, 0, none⟩), .int .i64 0] w (SpGives F S base g gd lab (finSp S F s) w) := by
  cases hi with
  | dead e => rw [hn] at e; cases e
  | kept e => rw [hn] at e; cases e
  | least e => rw [hn] at e; cases e
  | reads _ hov hb Ms hok => exact spEnd_yes hs hok hb hn
end
theorem sort_driven (F : Bool) (S : Script) (base h g gd : Nat) : Driven (spMach S F) base (sortRep F S base h g gd) 29 (.pointer (some ⟨h, 0, none⟩)) 28 34 29 32 33
    (.pointer (some ⟨h, 0, none⟩)) (.pointer (some ⟨h, 0, none⟩)) (.pointer (some ⟨h, 0, none⟩)) (.pointer (some ⟨h, 0, none⟩)) (.pointer (some ⟨h, 0, none⟩)) where
  goN w := (sort_goes h w).1
  goH w := (sort_goes h w).2.1
  goF w := (sort_goes h w).2.2.1
  goE w := (sort_goes h w).2.2.2.1
  goM w := (sort_goes h w).2.2.2.2
  inN := enters_of Tryz.func28 (by kernel_rfl) (by kernel_rfl)
  inH := enters_of Tryz.func34 (by kernel_rfl) (by kernel_rfl)
  inF := enters_of Tryz.func29 (by kernel_rfl) (by kernel_rfl)
  inE := enters_of Tryz.func32 (by kernel_rfl) (by kernel_rfl)
  inM := enters_of Tryz.func33 (by kernel_rfl) (by kernel_rfl)
  keep s own w w' p hr hf hp := by
    obtain ⟨lab, ownD, Bs, o, h1, h2, h3, h4, h5, rfl⟩ := hr
    refine ⟨lab, ownD, Bs, o, h1.frame hf (fun k hk => ⟨?_, fun e => hp k (.inr (by rw [e]; exact h1.rep.low)) hk⟩), h2.frame hf (fun e => hp h (.inl (.inr rfl)) e), h3, h4, h5, rfl⟩
    cases hz : lab k with
    | zero => rfl
    | succ m => exact absurd hk (hp k (.inl (.inl (by rw [hz]; exact Nat.succ_ne_zero _))))
  old s own w hr := by
    obtain ⟨lab, ownD, Bs, o, h1, h2, h3, h4, h5, rfl⟩ := hr
    intro k hk
    rcases hk with e | e
    · exact (h1.rep.bnd k e).2
    · rw [e]; exact h2.lt
  need s own w hr := by
    obtain ⟨lab, ownD, Bs, o, h1, h2, h3, h4, h5, rfl⟩ := hr
    have c0 := h1.rep.row.c0
    rw [h1.nd] at c0
    refine (sNeed_any (Q := fun n w' => n = s.need ∧ w' = w) h2 ((need_any c0).mono ?_)).mono ?_
    · rintro e w' ⟨rfl, rfl⟩; exact ⟨_, rfl, rfl, rfl⟩
    · rintro e w' ⟨n, rfl, rfl, rfl⟩; exact ⟨rfl, rfl⟩
  held s own w hr := by
    obtain ⟨lab, ownD, Bs, o, h1, h2, h3, h4, h5, rfl⟩ := hr
    obtain ⟨z1, z2, z3, z4⟩ := h5.sizes
    refine (sHeld_any (Q := fun n w' => n = (heldSp s : Nat) ∧ Below w.heap.size w w') h2 ((spHeld_any h1 z1 z2 z3 z4).mono ?_)).mono ?_
    · rintro e w' ⟨rfl, hb⟩; exact ⟨_, rfl, rfl, hb⟩
    · rintro e w' ⟨n, rfl, rfl, hb⟩; exact ⟨rfl, hb⟩
  feed s own w v x hr hn hB hx1 hx := by
    obtain ⟨lab, ownD, Bs, o, h1, h2, h3, h4, h5, rfl⟩ := hr
    have hn' : 0 ≤ s.need := hn
    have hn0 : s.need = 0 := by rcases h5.needs with e | e | e <;> omega
    obtain ⟨i1, -, i3⟩ := h5.feed (S := S) hn0 x
    show Calls Tryz.prog _ #[_, .int .i64 s.need, v] w _
    rw [hn0]
    refine (sFeed_any h2 0 v ((spFeedCalls h1 h5 hn0 v x (hB.mono (fun k _ hk => ?_)) hx1 hx).mono fun _ _ h => h.two)).mono fun e w' hh => GivesR.answers (q := feedSp S F s x) hh h2 h3 h4 i1 (by rw [i3]; exact outs_none)
    cases hz : lab k with
    | zero => rfl
    | succ m => exact absurd (.inl (by rw [hz]; exact Nat.succ_ne_zero _)) hk
  fin s own w hr hn := by
    obtain ⟨lab, ownD, Bs, o, h1, h2, h3, h4, h5, rfl⟩ := hr
    have hn' : 0 ≤ s.need := hn
    have hn0 : s.need = 0 := by rcases h5.needs with e | e | e <;> omega
    obtain ⟨i1, -, i3⟩ := h5.fin (S := S) hn0
    show Calls Tryz.prog _ #[_, .int .i64 s.need] w _
    rw [hn0]
    exact (sEnd_any h2 0 ((spEndCalls h1 h5 hn0).mono fun _ _ h => h.two)).mono fun e w' hh => GivesR.answers (q := finSp S F s) hh h2 h3 h4 i1 (by rw [i3]; exact outs_none)
  more s own w hr hn := by
    obtain ⟨lab, ownD, Bs, o, h1, h2, h3, h4, h5, rfl⟩ := hr
    have hn' : s.need = -2 := hn
    obtain ⟨i1, -, l, i3, i4⟩ := h5.more (S := S) hn'
    exact (sMore_any h2 ((spMoreCalls h1 h5 hn').mono fun _ _ h => h.two)).mono fun e w' hh => GivesR.answers (q := moreSp S F s) hh h2 h3 h4 i1 (by rw [i4]; exact outs_line i3)
  heldB s own w hr := by
    obtain ⟨lab, ownD, Bs, o, h1, h2, h3, h4, h5, rfl⟩ := hr
    have := h5.held
    show 0 ≤ ((heldSp s : Nat) : Int) ∧ ((heldSp s : Nat) : Int) ≤ 1000000
    omega
end Go.Proofs.YtpgigpajpcianaaGreatDoor
