/- The document's Sort: what was told, and the error. -/
import Derived.Test.YtpgigpajpcianaaGreatDoorZSdA
import Derived.Test.YtpgigpajpcianaaGreatDoorZMout
import Derived.Test.YtpgigpajpcianaaGreatDoorZSdC
import Derived.Test.YtpgigpajpcianaaGreatDoorZMany
import Derived.Test.YtpgigpajpcianaaGreatDoorZSpF
import Derived.Test.YtpgigpajpcianaaGreatDoorZSame
import Derived.Deep.Cut
namespace Go.Proofs.YtpgigpajpcianaaGreatDoor
open Go.RowKit

section
variable {base q r : Nat} {ownR : Nat → Nat} {S : Script} {F : Bool} {s : DSt} {run : Lines} {nos : List Int} {told : List UInt8} {uv nv : Value} {w : World}
set_option maxRecDepth 100000 in
set_option maxHeartbeats 4000000 in
theorem docFailed_any (h : DocAt base q r ownR S F s run nos told uv nv w) (E : Int) :
    Calls Tryz.prog 42 #[.pointer (some ⟨q, 0, none⟩), .int .i64 E] w (OutEnd w ⟨told, false, E, -1, if E = 25 then s.id else 0⟩) := by
  obtain ⟨ST, hST⟩ : ∃ T : ByteArray, strV told = .string T := ⟨_, rfl⟩
  have c0 := h.c0
  have c4 := h.c4
  rw [hST] at c4
  obtain ⟨sv, tv, bv, hd⟩ := h.disk
  have d4 := hd.c4
  have HC := Lib.hid (show ∀ W, Below w.heap.size w W → W.cell? ⟨q, 0, none⟩ = some (.pointer (some ⟨r, 0, none⟩)) ∧ W.cell? ⟨q, 4, none⟩ = some (.string ST) ∧ W.cell? ⟨r, 4, none⟩ = some (.int .i64 s.id) from fun W hb => ⟨Pm.Below.cell hb c0, Pm.Below.cell hb c4, Pm.Below.cell hb d4⟩)
  have HO := Lib.hid (show ∀ id W, Calls Tryz.prog 43 #[.string ST, .bool false, .agg #[.int .i64 E, .int .i64 (-1), .int .i64 id]] W (OutEnd W ⟨told, false, E, -1, id⟩) from fun id W => by rw [← hST]; exact out_any told false E (-1) id W)
  obtain ⟨idv, hidv⟩ : ∃ idv, idv = (if E = 25 then s.id else 0) := ⟨_, rfl⟩
  rw [← hidv]
  have HIdv := Lib.hid hidv
  clear h hd c0 c4 d4 hST hidv
  go_enter Tryz.func42, Tryz.ntmps42
  go_upto_region 2 with fail
  have hb1 : Below w.heap.size w (w.alloc (.cells #[.int .i64 E, .int .i64 (-1), .int .i64 0] 57)) := (Below.refl _ _).alloc (Nat.le_refl _) _
  have hr1 := heap_alloc_last w (.cells #[.int .i64 E, .int .i64 (-1), .int .i64 0] 57)
  change Code.wp _ _ _ _ (w.alloc (.cells #[.int .i64 E, .int .i64 (-1), .int .i64 0] 57))
  generalize w.alloc (.cells #[.int .i64 E, .int .i64 (-1), .int .i64 0] 57) = W1 at hb1 hr1 ⊢
  have e0 : W1.cell? ⟨w.heap.size, 0, none⟩ = some (.int .i64 E) := by rw [cell_of_row _ _ _ _ _ _ hr1]; rfl
  have e1 : W1.cell? ⟨w.heap.size, 1, none⟩ = some (.int .i64 (-1)) := by rw [cell_of_row _ _ _ _ _ _ hr1]; rfl
  have e2 : W1.cell? ⟨w.heap.size, 2, none⟩ = some (.int .i64 0) := by rw [cell_of_row _ _ _ _ _ _ hr1]; rfl
  have z2 : W1.frozen? ⟨w.heap.size, 2, none⟩ = false := by simp [World.frozen?, hr1]
  by_cases h25 : E = 25
  · have HI := Lib.hid (show idv = s.id by rw [HIdv.out, if_pos h25])
    have g1 : (E == 25) = true := by simpa using h25
    have hr2 := setCell_row hr1 2 (.int .i64 s.id)
    have HR2 := Lib.hid hr2
    have HB1 := Lib.hid hb1
    obtain ⟨c0, c4, d4⟩ := HC.out _ hb1
    clear h25 hr1 hr2 hb1
    go_upto_region 4 with fail
    have HBW := Lib.hid (HB1.out.setCell (Nat.le_refl _) (.int .i64 s.id) : Below w.heap.size w (W1.setCell ⟨w.heap.size, 2, none⟩ (.int .i64 s.id)))
    have hr2 := HR2.out
    clear e0 e1 e2 z2 c0 c4 d4 HR2 HB1
    generalize W1.setCell ⟨w.heap.size, 2, none⟩ (.int .i64 s.id) = W2 at hr2 HBW ⊢
    obtain ⟨c0, c4, d4⟩ := HC.out _ HBW.out
    have hr1 : W2.heap[w.heap.size]? = some (.cells #[.int .i64 E, .int .i64 (-1), .int .i64 s.id] 57 (0, 0)) := hr2
    have e0 : W2.cell? ⟨w.heap.size, 0, none⟩ = some (.int .i64 E) := by rw [cell_of_row _ _ _ _ _ _ hr1]; rfl
    have e1 : W2.cell? ⟨w.heap.size, 1, none⟩ = some (.int .i64 (-1)) := by rw [cell_of_row _ _ _ _ _ _ hr1]; rfl
    have e2 : W2.cell? ⟨w.heap.size, 2, none⟩ = some (.int .i64 s.id) := by rw [cell_of_row _ _ _ _ _ _ hr1]; rfl
    clear hr2
    go_cut [4] (fun v W' => RowKit.Hid (IsStrms (w.heap.size ≤ ·) W' v [⟨told, false, E, -1, s.id⟩] ∧ Below w.heap.size w W'))
    case first =>
      go_region_with (go_at_call 43; refine (HO.out _ _).mono ?_; rintro e w6 ⟨v, rfl, hs6, hb6⟩; have H6 := Lib.hid hs6; have HB6 := Lib.hid hb6; clear hs6 hb6)
      all_goals
        go_wp2_with fail
        go_meet
        case rel => exact Lib.hid ⟨H6.out.mono (fun k _ hk => by have := HBW.out.size; have hk : _ ≤ k := hk; simp at this hk ⊢; omega), HBW.out.drew.trans (HB6.out.mono HBW.out.drew.size)⟩
    case rest =>
      have h6 := hcut.out
      have H6 := Lib.hid h6
      clear h6 hcut c0 c4 d4
      go_wp2_with fail
      go_ret
      exact ⟨_, rfl, by rw [HI.out]; exact H6.out⟩
  · have HI := Lib.hid (show idv = 0 by rw [HIdv.out, if_neg h25])
    have g1 : (E == 25) = false := by simpa using h25
    have HBW := Lib.hid hb1
    have h25' : ¬ E = 25 := h25
    clear hb1 z2
    obtain ⟨c0, c4, d4⟩ := HC.out _ HBW.out
    go_upto_region 4 with fail
    go_cut [4] (fun v W' => RowKit.Hid (IsStrms (w.heap.size ≤ ·) W' v [⟨told, false, E, -1, 0⟩] ∧ Below w.heap.size w W'))
    case first =>
      go_region_with (go_at_call 43; refine (HO.out _ _).mono ?_; rintro e w6 ⟨v, rfl, hs6, hb6⟩; have H6 := Lib.hid hs6; have HB6 := Lib.hid hb6; clear hs6 hb6)
      all_goals
        go_wp2_with fail
        go_meet
        case rel => exact Lib.hid ⟨H6.out.mono (fun k _ hk => by have := HBW.out.size; have hk : _ ≤ k := hk; simp at this hk ⊢; omega), HBW.out.drew.trans (HB6.out.mono HBW.out.drew.size)⟩
    case rest =>
      have h6 := hcut.out
      have H6 := Lib.hid h6
      clear h6 hcut c0 c4 d4
      go_wp2_with fail
      go_ret
      exact ⟨_, rfl, by rw [HI.out]; exact H6.out⟩
end

end Go.Proofs.YtpgigpajpcianaaGreatDoor

namespace Go.Proofs.YtpgigpajpcianaaGreatDoor
open Go.RowKit

def runWant (S : Script) (F : Bool) (i : Strm) : DSt × Strm :=
  if (takesD S F (x0 dst0) (readL i.bytes i.ended (i.code, i.stage, i.id)).1).2 ≠ 0 then ((takesD S F (x0 dst0) (readL i.bytes i.ended (i.code, i.stage, i.id)).1).1.d, ⟨[], false, (takesD S F (x0 dst0) (readL i.bytes i.ended (i.code, i.stage, i.id)).1).2, -1, if (takesD S F (x0 dst0) (readL i.bytes i.ended (i.code, i.stage, i.id)).1).2 = 25 then (takesD S F (x0 dst0) (readL i.bytes i.ended (i.code, i.stage, i.id)).1).1.d.id else 0⟩)
  else if (readL i.bytes i.ended (i.code, i.stage, i.id)).2.1 = false then ((takesD S F (x0 dst0) (readL i.bytes i.ended (i.code, i.stage, i.id)).1).1.d, ⟨[], false, (readL i.bytes i.ended (i.code, i.stage, i.id)).2.2.1, (readL i.bytes i.ended (i.code, i.stage, i.id)).2.2.2.1, (readL i.bytes i.ended (i.code, i.stage, i.id)).2.2.2.2⟩)
  else if (endD S F (takesD S F (x0 dst0) (readL i.bytes i.ended (i.code, i.stage, i.id)).1).1).2.2 ≠ 0 then ((endD S F (takesD S F (x0 dst0) (readL i.bytes i.ended (i.code, i.stage, i.id)).1).1).1, ⟨joinL (endD S F (takesD S F (x0 dst0) (readL i.bytes i.ended (i.code, i.stage, i.id)).1).1).2.1, false, (endD S F (takesD S F (x0 dst0) (readL i.bytes i.ended (i.code, i.stage, i.id)).1).1).2.2, -1, if (endD S F (takesD S F (x0 dst0) (readL i.bytes i.ended (i.code, i.stage, i.id)).1).1).2.2 = 25 then (endD S F (takesD S F (x0 dst0) (readL i.bytes i.ended (i.code, i.stage, i.id)).1).1).1.id else 0⟩)
  else ((endD S F (takesD S F (x0 dst0) (readL i.bytes i.ended (i.code, i.stage, i.id)).1).1).1, ⟨joinL (endD S F (takesD S F (x0 dst0) (readL i.bytes i.ended (i.code, i.stage, i.id)).1).1).2.1, true, 0, 0, 0⟩)
def RunTo (w : World) (S : Script) (R : DSt × Strm) (e : Ending) (w' : World) : Prop :=
  ∃ v r own, e = .returned (.tuple #[v, .pointer (some ⟨r, 0, none⟩)]) ∧ IsStrms (w.heap.size ≤ ·) w' v [R.2] ∧ RAt w.heap.size r own S R.1 w' ∧ Below w.heap.size w w'
theorem at_new' (w : World) (o : Obj) {n : Nat} (h : n = w.heap.size) : (w.alloc o).heap[n]? = some o := by subst h; exact heap_alloc_last w o
theorem at_kept' {w : World} (o : Obj) {n : Nat} {x : Obj} (hx : w.heap[n]? = some x) : (w.alloc o).heap[n]? = some x := (Below.heap_alloc _ _ _ (Array.getElem?_eq_some_iff.1 hx).1).trans hx
theorem ref_made' {base r : Nat} {S : Script} {sv : Value} {w : World} (hh : w.heap[r]? = some (.cells #[sv, .slice none 0 0, .slice none 0 0, .int .i64 0, .int .i64 0] 53 (0, 0))) (hs : IsScript (· < base) w sv S) (hb : base ≤ r) :
    RAt base r (fun k => if k = r then 1 else 0) S dst0 w :=
  ⟨sv, .slice none 0 0, .slice none 0 0, hh, hs, World.ownsRow_nil _ _ _ _, World.ownsRow_nil _ _ _ _, by simp, fun k e => by simp [Value.ownBlock] at e, fun k e => by simp [Value.ownBlock] at e, fun k hk => by
    by_cases e : k = r
    · subst e
      exact ⟨hb, (Array.getElem?_eq_some_iff.1 hh).1⟩
    · simp [e] at hk⟩
section
variable {S : Script} {F : Bool}
def RunAt' (base q r : Nat) (own0 : Nat → Prop) (S : Script) (F : Bool) (L : Lines) (W0 : World) (i : Nat) (wr : World) : Prop :=
  ∃ x Ms nos, takesD S F (x0 dst0) (L.take i) = (x, 0) ∧ RdOk F x Ms ∧ nos.map fresh = x.rs ∧ DocLeft base q r own0 S F x.d x.run nos [] W0 wr
set_option maxRecDepth 100000 in
set_option maxHeartbeats 8000000 in
theorem docRun_any {p : Nat → Prop} (k n : Int) (va vb iv sv : Value) (i : Strm) (w : World) (hF : F = (n == 1)) (hI : IsStrms p w iv [i]) (hS : IsScript (· < w.heap.size) w sv S) (hS6 : S.length ≤ 1000000) (hl : i.bytes.length ≤ 4500) :
    Calls Tryz.prog 18 #[Pm.parV k n va vb, iv, sv] w (RunTo w S (runWant S F i)) := by
  obtain ⟨RW, hRW⟩ : ∃ RW, RW = runWant S F i := ⟨_, rfl⟩
  rw [← hRW]
  unfold runWant at hRW
  obtain ⟨hr64, hrl⟩ := readL_lines i.bytes i.ended (i.code, i.stage, i.id)
  have hfl := readL_fineL i.bytes i.ended (i.code, i.stage, i.id)
  obtain ⟨L, all, x1, x2, x3, hr⟩ : ∃ L all x1 x2 x3, readL i.bytes i.ended (i.code, i.stage, i.id) = (L, all, x1, x2, x3) := ⟨_, _, _, _, _, rfl⟩
  rw [hr] at hRW hr64 hrl hfl
  simp only at hRW hr64 hrl hfl
  obtain ⟨sa, sc, rfl, -⟩ := id hS
  obtain ⟨W0, hW0⟩ : ∃ W0, W0 = ((w.alloc (.cells #[.int .i64 k, .int .i64 n, va, vb] 24)).alloc (.cells #[.slice sa S.length sc, .slice none 0 0, .slice none 0 0, .int .i64 0, .int .i64 0] 53)).alloc (.cells #[.pointer (some ⟨w.heap.size + 1, 0, none⟩), .bool F, .slice none 0 0, .slice none 0 0, .string ByteArray.empty] 99) := ⟨_, rfl⟩
  have hsz0 : W0.heap.size = w.heap.size + 3 := by rw [hW0]; simp
  have hb0 : Below w.heap.size w W0 := by
    rw [hW0]
    exact (((Below.refl _ _).alloc (Nat.le_refl _) _).alloc (by simp) _).alloc (by simp; omega) _
  have hp0 : W0.cell? ⟨w.heap.size, 1, none⟩ = some (.int .i64 n) := by
    rw [cell_of_row _ _ _ _ _ _ (show W0.heap[w.heap.size]? = _ from by rw [hW0]; exact at_kept' _ (at_kept' _ (at_new' w _ rfl)))]; rfl
  have hd0 : W0.heap[w.heap.size + 1]? = some (.cells #[.slice sa S.length sc, .slice none 0 0, .slice none 0 0, .int .i64 0, .int .i64 0] 53 (0, 0)) := by
    rw [hW0]; exact at_kept' _ (at_new' _ _ (by simp))
  have hq0 : W0.heap[w.heap.size + 2]? = some (.cells #[.pointer (some ⟨w.heap.size + 1, 0, none⟩), .bool F, .slice none 0 0, .slice none 0 0, .string ByteArray.empty] 99 (0, 0)) := by
    rw [hW0]; exact at_new' _ _ (by simp)
  have hra := ref_made' (base := w.heap.size) hd0 (hS.below hb0) (by omega)
  have hdoc : DocAt w.heap.size (w.heap.size + 2) (w.heap.size + 1) (fun k => if k = w.heap.size + 1 then 1 else 0) S F dst0 [] [] [] (.slice none 0 0) (.slice none 0 0) W0 :=
    ⟨hq0, hra, World.ownsRow_nil _ _ _ _, World.ownsRow_nil _ _ _ _, by simp, by omega, (fun k e => by cases e), (fun k e => by cases e)⟩
  obtain ⟨_, _, e, hcs⟩ := hI.below hb0
  subst e
  obtain ⟨gb, off, bv, rfl, -, c0, c1, c2, c3, c4, hbytes⟩ := hcs 0 i rfl
  simp only [Nat.zero_mul, Nat.add_zero] at c0 c1 c2 c3 c4
  have hlines := lines_any bv i.bytes i.ended i.code i.stage i.id W0 hbytes (by omega)
  unfold ReadEnd at hlines
  rw [hr] at hlines
  simp only [readV] at hlines
  have hmid : W0.rangeAt gb off [bv, .bool i.ended, .int .i64 i.code, .int .i64 i.stage, .int .i64 i.id] := fun j v hv => by
    rcases j with _ | _ | _ | _ | _ | j
    · cases hv; exact c0
    · cases hv; exact c1
    · cases hv; exact c2
    · cases hv; exact c3
    · cases hv; exact c4
    · simp at hv
  obtain ⟨ab, cb, rfl, -, -⟩ := hbytes
  have HL := Lib.hid hlines
  have HMid := Lib.hid hmid
  have HB0 := Lib.hid hb0
  have HFl := Lib.hid hfl
  have HDoc := Lib.hid hdoc
  have HSz := Lib.hid hsz0
  have HRW := Lib.hid hRW
  have HLl := Lib.hid (show L.length ≤ 4501 by omega)
  have HS6 := Lib.hid hS6
  clear hlines hmid hb0 hfl hdoc hsz0 hRW hS6 hr64 hrl hr hcs hI hS hd0 hq0 hra hl c0 c1 c2 c3 c4 hp0
  unfold Pm.parV
  simp only [List.length_cons, List.length_nil, Nat.zero_add]
  go_enter Tryz.func18, Tryz.ntmps18
  go_upto_region 3 with fail
  rw [← hF]
  obtain ⟨q, hq⟩ : ∃ q, q = w.heap.size + 2 := ⟨_, rfl⟩
  obtain ⟨r, hr⟩ : ∃ r, r = w.heap.size + 1 := ⟨_, rfl⟩
  rw [← hq, ← hr] at HDoc
  have HQ := Lib.hid hq
  have HR := Lib.hid hr
  change Code.wp _ _ _ _ (((w.alloc (.cells #[.int .i64 k, .int .i64 n, va, vb] 24)).alloc (.cells #[.slice sa S.length sc, .slice none 0 0, .slice none 0 0, .int .i64 0, .int .i64 0] 53)).alloc (.cells #[.pointer (some ⟨w.heap.size + 1, 0, none⟩), .bool F, .slice none 0 0, .slice none 0 0, .string ByteArray.empty] 99))
  rw [← hW0]
  rw [show w.heap.size + 1 + 1 = w.heap.size + 2 from rfl, ← hr, ← hq]
  clear hq hr hW0 hF
  go_wp2_with (first | (refine wpList_load_mid rfl 59 (.tmp 24) rfl gb off rfl _ _ HMid.out Tryz.underlying59 rfl (by kernel_rfl) ?_))
  refine HL.out.mono ?_
  rintro e w1 ⟨lv, rfl, hown, hb1⟩
  obtain ⟨la, lc, rfl⟩ := Pm.owns_slice hown
  have hTx := isTexts_of_owns hown
  have hrow := heap_alloc_last w1 (.cells #[.slice la L.length lc, .bool all, .int .i64 x1, .int .i64 x2, .int .i64 x3] 70)
  have hal : Below w1.heap.size w1 (w1.alloc (.cells #[.slice la L.length lc, .bool all, .int .i64 x1, .int .i64 x2, .int .i64 x3] 70)) := (Below.refl w1.heap.size w1).alloc (Nat.le_refl _) _
  have hq1 : q < w1.heap.size := by have := hb1.size; have := HSz.out; have := HQ.out; omega
  have hr1 : r < w1.heap.size := by have := hb1.size; have := HSz.out; have := HR.out; omega
  have HTx := Lib.hid hTx
  have HB1 := Lib.hid hb1
  have HRow := Lib.hid hrow
  have HAl := Lib.hid hal
  have HQ1 := Lib.hid hq1
  have HR1 := Lib.hid hr1
  clear hown hTx hb1 hrow hal hq1 hr1 HL HMid
  go_wp2_with fail
  have hrow := HRow.out
  have hal := HAl.out
  change Code.wp _ _ _ _ (w1.alloc (.cells #[.slice la L.length lc, .bool all, .int .i64 x1, .int .i64 x2, .int .i64 x3] 70))
  clear HRow HAl
  generalize w1.alloc (.cells #[.slice la L.length lc, .bool all, .int .i64 x1, .int .i64 x2, .int .i64 x3] 70) = W2 at hrow hal ⊢
  have HRow := Lib.hid hrow
  have HAl := Lib.hid hal
  clear hrow hal
  obtain ⟨own0, hown0⟩ : ∃ own0, own0 = ownDoc (fun k => if k = r then 1 else 0) q (.slice none 0 0) (.slice none 0 0) := ⟨_, rfl⟩
  have ho0 : ∀ k, own0 k → k = r ∨ k = q := fun k e => by
    rw [hown0] at e
    rcases e with e | e | e | e
    · by_cases hk : k = r
      · exact .inl hk
      · simp [hk] at e
    · exact .inr e
    · cases e
    · cases e
  have hst : RunAt' w.heap.size q r own0 S F L W2 0 W2 := ⟨x0 dst0, [], [], rfl, rdOk_start, rfl, by
    rw [hown0]
    have hd := (HDoc.out.below HB1.out).below HAl.out
    exact hd.left (Below.refl _ _)⟩
  have HO0 := Lib.hid ho0
  have HSt := Lib.hid hst
  clear hown0 ho0 hst
  go_wp2_with fail
  go_loopw [11] (fun iv wr => ∃ j : Nat, iv = .int .i64 j ∧ j ≤ L.length ∧ RowKit.Hid (RunAt' w.heap.size q r own0 S F L W2 j wr)) (fun iv _ => L.length - (intOf iv).toNat)
  case atStart => exact ⟨0, rfl, Nat.zero_le _, HSt⟩
  case round =>
    clear HSt
    obtain ⟨j, rfl, hj, HI⟩ := hrel
    obtain ⟨x, Ms, nos, htk, hok, hn, ownR, uv, nv, hd, ho, hf⟩ := HI.out
    have hll := HLl.out
    have q1 : (0 : Int) ≤ (j : Int) := by omega
    have q3 : (j : Int) ≤ 4501 := by omega
    have hnl : nos.length ≤ 64 := by have := hok.T; have := hok.T64; rw [← hn, List.length_map] at *; omega
    have hrw := hf.heap HRow.out (fun e => by rcases HO0.out _ e with e | e; have := HR1.out; omega; have := HQ1.out; omega)
    have cL : wr.cell? ⟨w1.heap.size, 0, none⟩ = some (.slice la L.length lc) := by rw [cell_of_row _ _ _ _ _ _ hrw]; rfl
    have cA : wr.cell? ⟨w1.heap.size, 1, none⟩ = some (.bool all) := by rw [cell_of_row _ _ _ _ _ _ hrw]; rfl
    have hbw : Below w.heap.size w wr := (HB0.out.trans (HB1.out.mono HB0.out.size)).trans ((HAl.out.mono (by have := HB0.out.size; have := HB1.out.size; omega)).trans (hf.below (by have := HB0.out.size; have := HB1.out.size; have := HAl.out.size; omega) (fun k e => by rcases HO0.out _ e with e | e; have := HR.out; omega; have := HQ.out; omega)))
    by_cases hlt : j < L.length
    · obtain ⟨l, hl⟩ : ∃ l, L[j]? = some l := ⟨L[j], by simp⟩
      obtain ⟨_, _, e, hcl⟩ := (HTx.out.below HAl.out).frame hf (fun k hk e => by
        have hk : W0.heap.size ≤ k := hk
        have := HSz.out
        rcases HO0.out _ e with e | e
        · have := HR.out; omega
        · have := HQ.out; omega)
      cases e
      obtain ⟨gl, ol, rfl, -, cl⟩ := hcl j l hl
      have q2 : (j : Int) < (L.length : Int) := by omega
      have hl2 := HFl.out l (List.mem_of_getElem? hl)
      have htke := docTake_any hd hok.fit hnl HS6.out l hl2.1
      unfold TakeTo at htke
      have hti := take_is (S := S) hok hl2.1 hl2.2
      have hsx : (⟨x.d, x.run, nos.map fresh⟩ : SpD) = x := by rw [hn]
      rw [hsx] at htke
      have hstep : ∀ T, T = takeD S F x l → (T.2 ≠ 0 → takesD S F (x0 dst0) L = T) ∧ (T.2 = 0 → takesD S F (x0 dst0) (L.take (j + 1)) = (T.1, 0)) := fun T hT => by
        have hsplit : L = L.take j ++ l :: L.drop (j + 1) := by
          have := (List.take_append_drop j L).symm
          rwa [List.drop_eq_getElem_cons (show j < L.length from hlt), show L[j] = l from (List.getElem?_eq_some_iff.1 hl).2] at this
        refine ⟨fun h0 => ?_, fun h0 => ?_⟩
        · rw [hsplit, takesD_append, htk, if_neg (fun h => h rfl), takesD_cons, ← hT, if_pos h0]
        · rw [take_snoc hl, takesD_append, htk, if_neg (fun h => h rfl), takesD_cons, ← hT, if_neg (by rw [h0]; decide)]
          rfl
      obtain ⟨T, hT⟩ : ∃ T, T = takeD S F x l := ⟨_, rfl⟩
      have hstep := hstep T hT
      rw [← hT] at htke hti
      obtain ⟨E, hE⟩ : ∃ E, E = T.2 := ⟨_, rfl⟩
      rw [← hE] at htke
      obtain ⟨SL, hSL⟩ : ∃ T : ByteArray, strV l = .string T := ⟨_, rfl⟩
      rw [hSL] at cl htke
      have HTk := Lib.hid htke
      have HTi := Lib.hid hti
      have HStep := Lib.hid hstep
      have HE := Lib.hid hE
      have HO := Lib.hid ho
      have HF := Lib.hid hf
      have HBw := Lib.hid hbw
      have HLt := Lib.hid hlt
      clear htk hok hn hd ho hf hll hnl hrw hbw hlt hl hcl hl2 htke hti hsx hstep hT hE hSL hj HI cA
      go_wp2_with fail
      refine HTk.out.mono ?_
      rintro e w4 ⟨rfl, run', nos', hl4, hz4⟩
      by_cases h0 : E = 0
      · have f2 : (E != 0) = false := by simpa using h0
        have hE0 : T.2 = 0 := by rw [← HE.out]; exact h0
        obtain ⟨Ms', k1, -⟩ := HTi.out.2.2 hE0
        obtain ⟨z1, z2⟩ := hz4 h0
        have hn4 : RunAt' w.heap.size q r own0 S F L W2 (j + 1) w4 := ⟨T.1, Ms', nos', HStep.out.2 hE0, k1, z2, by rw [← z1]; exact DocLeft.then HF.out HO.out hl4⟩
        have HN4 := Lib.hid hn4
        clear h0 hE0 k1 z1 z2 hn4 hl4 hz4 HTk cL cl
        go_wp2_with fail
        go_roundw
        case rel => exact ⟨j + 1, by go_num, HLt.out, HN4⟩
        case measure => have := HLt.out; simp [intOf]; omega
      · have f2 : (E != 0) = true := by simpa using h0
        have hts := HStep.out.1 (by rw [← HE.out]; exact h0)
        have hrw2 := HRW.out
        rw [hts, if_pos (by rw [← HE.out]; exact h0)] at hrw2
        obtain ⟨own4, uv4, nv4, hd4, ho4, hf4⟩ := DocLeft.then HF.out HO.out hl4
        have hbf : Below w.heap.size w w4 := (HB0.out.trans (HB1.out.mono HB0.out.size)).trans ((HAl.out.mono (by have := HB0.out.size; have := HB1.out.size; omega)).trans (hf4.below (by have := HB0.out.size; have := HB1.out.size; have := HAl.out.size; omega) (fun k e => by rcases HO0.out _ e with e | e; have := HR.out; omega; have := HQ.out; omega)))
        have hfd := docFailed_any hd4 E
        have HFd := Lib.hid hfd
        have HD4 := Lib.hid hd4
        have HBf := Lib.hid hbf
        have HRw2 := Lib.hid hrw2
        clear h0 hts hrw2 hd4 ho4 hf4 hbf hfd hl4 hz4 HTk cL cl
        go_wp2_with fail
        refine HFd.out.mono ?_
        rintro e w5 ⟨v5, rfl, hs5, hb5⟩
        have HS5 := Lib.hid hs5
        have HB5 := Lib.hid hb5
        obtain ⟨a5, c5, e5, -⟩ := id hs5
        subst e5
        clear hs5 hb5 HFd
        go_wp2_with fail
        go_ret2
        refine ⟨_, r, own4, rfl, ?_, ?_, HBf.out.trans (HB5.out.mono HBf.out.size)⟩
        · rw [HRw2.out, ← HE.out]
          exact HS5.out.mono (fun k _ hk => Nat.le_trans HBf.out.size hk)
        · rw [HRw2.out]
          exact HD4.out.disk.below HB5.out
    · have q2 : ¬ (j : Int) < (L.length : Int) := by omega
      have e : L.take j = L := List.take_of_length_le (by omega)
      rw [e] at htk
      have hrw2 := HRW.out
      rw [htk, if_neg (fun h => h rfl)] at hrw2
      have HO := Lib.hid ho
      have HF := Lib.hid hf
      have HBw := Lib.hid hbw
      have HD := Lib.hid hd
      have HRn := Lib.hid hrw
      clear htk e hf ho hbw hll hj hlt HI
      cases hall : all with
      | false =>
        rw [hall] at hrw2
        simp only [if_true] at hrw2
        have HRw2 := Lib.hid hrw2
        rw [hall] at cA hrw
        have hmid : wr.rangeAt w1.heap.size 2 [.int .i64 x1, .int .i64 x2, .int .i64 x3] := fun j v hv => by
          rcases j with _ | _ | _ | j
          · cases hv; rw [cell_of_row _ _ _ _ _ _ hrw]; rfl
          · cases hv; rw [cell_of_row _ _ _ _ _ _ hrw]; rfl
          · cases hv; rw [cell_of_row _ _ _ _ _ _ hrw]; rfl
          · simp at hv
        have hout := out_any [] false x1 x2 x3 wr
        have hs0 : strV [] = .string ByteArray.empty := rfl
        rw [hs0] at hout
        have HOut := Lib.hid hout
        have HMid := Lib.hid hmid
        clear hrw2 hrw hok hn hd hnl hmid hout hs0
        go_wp2_with (refine wpList_load_mid rfl 57 (.tmp 50) rfl w1.heap.size 2 rfl _ _ HMid.out Tryz.underlying57 rfl (by kernel_rfl) ?_)
        refine HOut.out.mono ?_
        rintro e w5 ⟨v5, rfl, hs5, hb5⟩
        have HS5 := Lib.hid hs5
        have HB5 := Lib.hid hb5
        obtain ⟨a5, c5, e5, -⟩ := id hs5
        subst e5
        clear hs5 hb5 HOut
        go_wp2_with fail
        go_ret2
        refine ⟨_, r, ownR, rfl, ?_, ?_, HBw.out.trans (HB5.out.mono HBw.out.size)⟩
        · rw [HRw2.out]
          exact HS5.out.mono (fun k _ hk => Nat.le_trans HBw.out.size hk)
        · rw [HRw2.out]
          exact HD.out.disk.below HB5.out
      | true =>
        rw [hall] at hrw2 cA
        rw [if_neg (by decide)] at hrw2
        have hsx : (⟨x.d, x.run, nos.map fresh⟩ : SpD) = x := by rw [hn]
        have hend : Calls Tryz.prog 44 #[.pointer (some ⟨q, 0, none⟩)] wr (EndTo w.heap.size q r (ownDoc ownR q uv nv) S F wr (endD S F x)) := by
          by_cases hne : nos = []
          · subst hne
            have hxr : x.rs = [] := by rw [← hn]; rfl
            have h2 := weightL_length x.run
            have h3 := hok.wr
            have := docEnd_none hd (by omega) hok.fine
            have hz : endD S F x = (x.d, sortL F x.run, 0) := by unfold endD; rw [if_pos hxr]
            rw [hz]
            exact this
          · have := docEnd_some hd (by rw [hsx]; exact hok) hne HS6.out
            rw [hsx] at this
            exact this
        have hzi := endD_is (S := S) hok
        obtain ⟨Z, hZ⟩ : ∃ Z, Z = endD S F x := ⟨_, rfl⟩
        rw [← hZ] at hend hrw2
        obtain ⟨E, hE⟩ : ∃ E, E = Z.2.2 := ⟨_, rfl⟩
        rw [← hE] at hrw2
        unfold EndTo at hend
        rw [← hE] at hend
        have HEn := Lib.hid hend
        have HRw2 := Lib.hid hrw2
        clear hrw2 hrw hok hn hd hnl hsx hend hzi hZ hE
        go_wp2_with fail
        refine HEn.out.mono ?_
        rintro e w4 ⟨rfl, run', nos', hl4⟩
        obtain ⟨own4, uv4, nv4, hd4, ho4, hf4⟩ := DocLeft.then HF.out HO.out hl4
        have hbf : Below w.heap.size w w4 := (HB0.out.trans (HB1.out.mono HB0.out.size)).trans ((HAl.out.mono (by have := HB0.out.size; have := HB1.out.size; omega)).trans (hf4.below (by have := HB0.out.size; have := HB1.out.size; have := HAl.out.size; omega) (fun k e => by rcases HO0.out _ e with e | e; have := HR.out; omega; have := HQ.out; omega)))
        have HD4 := Lib.hid hd4
        have HBf := Lib.hid hbf
        by_cases h0 : E = 0
        · have f2 : (E != 0) = false := by simpa using h0
          have hrw2 := HRw2.out
          rw [if_neg (by rw [h0]; decide)] at hrw2
          have c4 := hd4.c4
          have hout := out_any (joinL Z.2.1) true 0 0 0 w4
          obtain ⟨ST, hST⟩ : ∃ T : ByteArray, strV (joinL Z.2.1) = .string T := ⟨_, rfl⟩
          rw [hST] at c4 hout
          have HOut := Lib.hid hout
          have HRw3 := Lib.hid hrw2
          clear h0 hrw2 hl4 ho4 hf4 hbf hd4 hout hST HEn cA
          go_wp2_with fail
          refine HOut.out.mono ?_
          rintro e w5 ⟨v5, rfl, hs5, hb5⟩
          have HS5 := Lib.hid hs5
          have HB5 := Lib.hid hb5
          obtain ⟨a5, c5, e5, -⟩ := id hs5
          subst e5
          clear hs5 hb5 HOut
          go_wp2_with fail
          go_ret2
          refine ⟨_, r, own4, rfl, ?_, ?_, HBf.out.trans (HB5.out.mono HBf.out.size)⟩
          · rw [HRw3.out]
            exact HS5.out.mono (fun k _ hk => Nat.le_trans HBf.out.size hk)
          · rw [HRw3.out]
            exact HD4.out.disk.below HB5.out
        · have f2 : (E != 0) = true := by simpa using h0
          have hrw2 := HRw2.out
          rw [if_pos h0] at hrw2
          have hfd := docFailed_any hd4 E
          have HFd := Lib.hid hfd
          have HRw3 := Lib.hid hrw2
          clear h0 hrw2 hl4 ho4 hf4 hbf hd4 hfd HEn cA
          go_wp2_with fail
          refine HFd.out.mono ?_
          rintro e w5 ⟨v5, rfl, hs5, hb5⟩
          have HS5 := Lib.hid hs5
          have HB5 := Lib.hid hb5
          obtain ⟨a5, c5, e5, -⟩ := id hs5
          subst e5
          clear hs5 hb5 HFd
          go_wp2_with fail
          go_ret2
          refine ⟨_, r, own4, rfl, ?_, ?_, HBf.out.trans (HB5.out.mono HBf.out.size)⟩
          · rw [HRw3.out]
            exact HS5.out.mono (fun k _ hk => Nat.le_trans HBf.out.size hk)
          · rw [HRw3.out]
            exact HD4.out.disk.below HB5.out
end

end Go.Proofs.YtpgigpajpcianaaGreatDoor

namespace Go.Proofs.YtpgigpajpcianaaGreatDoor
open Go.RowKit

theorem spMeans_case (S : Script) (F : Bool) (i : Strm) (D : DS SpS) (h : SortDrive S F i D) :
    (runWant S F i).1 = D.s.x.d ∧ D.got.outs 0 = (runWant S F i).2.bytes ∧ SameCase D.got [i] (runWant S F i).2 ∧ D.s.raw = (if D.got.err = 25 then (runWant S F i).2.id else 0) := by
  rw [h.d, h.out0, h.raw, h.err]
  unfold SameCase
  rw [h.need, h.err]
  obtain ⟨rd, hrd⟩ : ∃ rd, readL i.bytes i.ended (i.code, i.stage, i.id) = rd := ⟨_, rfl⟩
  unfold runWant
  rw [hrd]
  by_cases h0 : (takesD S F (x0 dst0) rd.1).2 ≠ 0
  · rw [spOut_fail S F i hrd h0, if_pos h0]
    refine ⟨rfl, rfl, .inr (.inl ⟨rfl, rfl, h0, rfl⟩), ?_⟩
    simp only
    split <;> rfl
  · rw [if_neg h0]
    have h0' : (takesD S F (x0 dst0) rd.1).2 = 0 := Classical.not_not.1 h0
    cases h2 : rd.2.1 with
    | true =>
      rw [spOut_end S F i hrd h0' h2, if_neg (by decide)]
      generalize endD S F (takesD S F (x0 dst0) rd.1).1 = Z
      by_cases h3 : Z.2.2 ≠ 0
      · rw [if_pos h3]
        refine ⟨rfl, rfl, .inr (.inl ⟨rfl, rfl, h3, rfl⟩), ?_⟩
        simp only
        split <;> rfl
      · rw [if_neg h3]
        have h3' : Z.2.2 = 0 := Classical.not_not.1 h3
        refine ⟨rfl, rfl, .inl ⟨rfl, rfl, h3'⟩, ?_⟩
        simp only [h3']
        rfl
    | false =>
      rw [if_pos rfl]
      rcases hc : cutL [] i.bytes with ⟨L, o⟩
      have hri := readL_is i hc
      rw [hrd] at hri
      cases o with
      | none =>
        rw [spOut_long S F i hrd h0' h2 (by rw [hc])]
        have hri : rd = (L, false, (20, -1, 0)) := hri
        subst hri
        exact ⟨rfl, rfl, .inr (.inl ⟨rfl, rfl, (show (20 : Int) ≠ 0 by decide), rfl⟩), rfl⟩
      | some d =>
        rw [spOut_open S F i hrd h0' h2 (by rw [hc]; simp)]
        have hri : rd = if i.ended = true then (L ++ (if d = [] then [] else [d]), true, (0, 0, 0)) else (L, false, (i.code, i.stage, i.id)) := hri
        by_cases he : i.ended = true
        · rw [if_pos he] at hri
          rw [hri] at h2
          cases h2
        · rw [if_neg he] at hri
          subst hri
          exact ⟨rfl, rfl, .inr (.inr ⟨rfl, rfl, 0, i, rfl, rfl, rfl, rfl, rfl⟩), rfl⟩
end Go.Proofs.YtpgigpajpcianaaGreatDoor
