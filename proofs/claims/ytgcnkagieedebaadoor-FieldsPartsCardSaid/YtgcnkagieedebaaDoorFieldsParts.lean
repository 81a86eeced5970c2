/- FieldsParts's walk. -/
import Derived.Test.YtgcnkagieedebaaDoorFieldsPartskit
import Derived.Test.YtgcnkagieedebaaDoorFieldsAwake
import Derived.Test.YtgcnkagieedebaaDoorGcopy
import Derived.Test.YtgcnkagieedebaaDoorRA
import Derived.Deep.RegionHeld3
namespace Go.Proofs.YtgcnkagieedebaaDoor
open Go.RowKit

section
variable {P : Program} {md : Region.Mode} {ops : Array Oper} {Q : Exit → Act → World → Prop} {S : World → Prop}
theorem anyG_takeY {i : Nat} {oi : Oper} {fuel : Nat} {listed : Array Bool} {a : Act} {w : World} (d : Tmp) (v : Value) (hi : ops[i]? = some oi) (hd : oi.dst = some d)
    (hs : Region.noSelect ops = true) (hf : Region.free md ops listed i = true) (hr : (Region.ready md ops listed).contains i = true)
    (hy : YieldsIf P ops S oi v a) (hS : S w)
    (h : AnyG P md ops Q S fuel (listed.setIfInBounds i true) (a.put (some d) v) w) : AnyG P md ops Q S (fuel + 1) listed a w := by
  rw [← hd] at h
  exact ⟨wpAnyH_take hi hs hf hr (fun _ _ _ h => h) hy hS h.out⟩
end
/-- The array of the fields alone, k of them laid: it lies in the block behind W0. -/
structure Cols (a : UInt8) (L : Lines) (W0 : World) (k : Nat) (wr : World) : Prop where
  le : k ≤ 16
  ex : ∃ cs : List Value, cs.length = k ∧ wr.heap[W0.heap.size]? = some (.cells (cs ++ List.replicate (16 - k) (Value.slice none 0 0)).toArray 67 (0, 0)) ∧ ∀ j c, cs[j]? = some c → IsTexts (W0.heap.size < ·) wr c (comesL (2 ^ j) [a] L)
  bel : Below W0.heap.size W0 wr
theorem Cols.lt {a : UInt8} {L : Lines} {W0 : World} {k : Nat} {wr : World} (h : Cols a L W0 k wr) : W0.heap.size < wr.heap.size := by
  obtain ⟨cs, -, hg, -⟩ := h.ex
  exact (Array.getElem?_eq_some_iff.1 hg).1
theorem Cols.keep {a : UInt8} {L : Lines} {W0 : World} {k : Nat} {wr W : World} (h : Cols a L W0 k wr) (hb : Below wr.heap.size wr W) : Cols a L W0 k W := by
  obtain ⟨cs, hl, hg, ht⟩ := h.ex
  exact ⟨h.le, ⟨cs, hl, (hb.block _ h.lt).trans hg, fun j c hj => (ht j c hj).below hb⟩, h.bel.trans (hb.mono h.bel.size)⟩
theorem Cols.start (a : UInt8) (L : Lines) (W0 : World) : Cols a L W0 0 (W0.alloc (.cells (List.replicate 16 (Value.slice none 0 0)).toArray 67)) :=
  ⟨Nat.zero_le _, ⟨[], rfl, heap_alloc_last W0 _, fun j c hj => by simp at hj⟩, (Below.refl _ _).alloc (Nat.le_refl _) _⟩
theorem Cols.there {a : UInt8} {L : Lines} {W0 : World} {k : Nat} {wr : World} (h : Cols a L W0 k wr) (hk : k < 16) : wr.cell? ⟨W0.heap.size, k, none⟩ = some (.slice none 0 0) ∧ wr.frozen? ⟨W0.heap.size, k, none⟩ = false := by
  obtain ⟨cs, hl, hg, ht⟩ := h.ex
  refine ⟨?_, by simp [World.frozen?, hg]⟩
  rw [cell_of_row _ _ _ _ _ _ hg, List.getElem?_toArray, List.getElem?_append_right (by omega), hl, Nat.sub_self, List.getElem?_replicate, if_pos (by omega)]
theorem Cols.put {a : UInt8} {L : Lines} {W0 : World} {k : Nat} {wr : World} {v : Value} (h : Cols a L W0 k wr) (hk : k < 16) (hv : IsTexts (W0.heap.size < ·) wr v (comesL (2 ^ k) [a] L)) : Cols a L W0 (k + 1) (wr.setCell ⟨W0.heap.size, k, none⟩ v) := by
  obtain ⟨cs, hl, hg, ht⟩ := h.ex
  have hf : Frame (· = W0.heap.size) wr (wr.setCell ⟨W0.heap.size, k, none⟩ v) := Frame.cell wr ⟨W0.heap.size, k, none⟩ v
  refine ⟨hk, ⟨cs ++ [v], by simp [hl], ?_, fun j c hj => ?_⟩, h.bel.setCell (p := ⟨W0.heap.size, k, none⟩) (Nat.le_refl _) v⟩
  · have h1 := setCell_row hg k v
    have e : 16 - k = (16 - (k + 1)) + 1 := by omega
    rw [h1, List.setIfInBounds_toArray, List.set_append_right _ _ (by omega), hl, Nat.sub_self, e, List.replicate_succ, List.set_cons_zero, List.append_assoc]
    rfl
  · by_cases hjk : j < cs.length
    · rw [List.getElem?_append_left hjk] at hj
      exact (ht j c hj).frame hf (fun b hb e => by omega)
    · rw [List.getElem?_append_right (by omega)] at hj
      have hj0 : j = k := by
        have := (List.getElem?_eq_some_iff.1 hj).1
        simp at this
        omega
      subst hj0
      rw [hl, Nat.sub_self] at hj
      cases hj
      exact hv.frame hf (fun b hb e => by omega)

theorem Cols.at {a : UInt8} {L : Lines} {W0 W : World} {k i : Nat} {l : List UInt8} (h : Cols a L W0 16 W) (hk : k < 16) (hl : L[i]? = some l) :
    ∃ g o cap, W.cell? ⟨W0.heap.size, k, none⟩ = some (.slice (some ⟨g, o, none⟩) L.length cap) ∧ W.cell? ⟨g, o + i, none⟩ = some (strV (lineF (2 ^ k) [a] l)) := by
  obtain ⟨cs, hcl, hg, ht⟩ := h.ex
  have hl2 : (comesL (2 ^ k) [a] L)[i]? = some (lineF (2 ^ k) [a] l) := by rw [comesL, List.getElem?_map, hl]; rfl
  obtain ⟨c, hc⟩ : ∃ c, cs[k]? = some c := ⟨cs[k]'(by omega), List.getElem?_eq_getElem (by omega)⟩
  obtain ⟨b, cap, hv, hcs⟩ := ht k c hc
  obtain ⟨g, o, rfl, -, hx⟩ := hcs i _ hl2
  refine ⟨g, o, cap, ?_, hx⟩
  rw [cell_of_row _ _ _ _ _ _ hg, List.getElem?_toArray, List.getElem?_append_left (by omega), hc, hv]
  simp [comesL]
theorem lineF_first (a : UInt8) (l : List UInt8) : lineF (2 ^ 0) [a] l = Lib.join ((partsL a l).take 1) [a] := by
  by_cases h1 : (partsL a l).length = 1
  · rw [lineF_one h1, List.take_of_length_le (by omega), join_partsL]
  · rw [lineF_bit h1]
    cases hp : partsL a l with
    | nil => exact absurd hp (partsL_ne a l)
    | cons p t =>
      unfold fieldAt
      rw [hp]
      exact (Lib.join_one p [a]).symm
/-- The array as it lies, cell by cell. -/
theorem Cols.all {a : UInt8} {L : Lines} {W0 W : World} (h : Cols a L W0 16 W) :
    ∃ c0 c1 c2 c3 c4 c5 c6 c7 c8 c9 c10 c11 c12 c13 c14 c15 : Value, W.heap[W0.heap.size]? = some (.cells #[c0, c1, c2, c3, c4, c5, c6, c7, c8, c9, c10, c11, c12, c13, c14, c15] 67 (0, 0)) := by
  obtain ⟨cs, hcl, hg, -⟩ := h.ex
  match cs, hcl, hg with
  | [c0, c1, c2, c3, c4, c5, c6, c7, c8, c9, c10, c11, c12, c13, c14, c15], _, hg => exact ⟨c0, c1, c2, c3, c4, c5, c6, c7, c8, c9, c10, c11, c12, c13, c14, c15, hg⟩

theorem fieldAt_len (a : UInt8) (l : List UInt8) (k : Nat) : (fieldAt a l k).length ≤ l.length := by
  unfold fieldAt
  cases h : (partsL a l)[k]? with
  | none => exact Nat.zero_le _
  | some p => exact partsL_part a l p (List.mem_of_getElem? h)
theorem Cols.bare {a : UInt8} {L : Lines} {W0 W : World} {i : Nat} {l : List UInt8} (h : Cols a L W0 16 W) (hl : L[i]? = some l) (hn : (partsL a l).length ≠ 1) (h64 : l.length ≤ 64) {cs : List Value}
    (hg : W.heap[W0.heap.size]? = some (.cells cs.toArray 67 (0, 0))) : Calls Tryd.prog 26 #[.int .u8 a.toNat, .int .i64 i, .agg cs.toArray] W (Pm.Gives W (.bool true)) :=
  bare_any a i cs (fieldAt a l) W fun k hk => by
    obtain ⟨g, o, cap, h1, h2⟩ := h.at hk hl
    rw [lineF_bit hn] at h2
    rw [cell_of_row _ _ _ _ _ _ hg, List.getElem?_toArray] at h1
    exact ⟨g, o, L.length, cap, h1, (List.getElem?_eq_some_iff.1 hl).1, h2, fieldAt_bare a l k, Nat.le_trans (fieldAt_len a l k) h64⟩

set_option maxRecDepth 100000 in
set_option maxHeartbeats 16000000 in
theorem partsLaw_any (a : UInt8) (xv cv : Value) (x : List UInt8) (cuts : List Int) (w : World) (hT : MaxTab w) (hX : IsBytes (· < w.heap.size) w xv x) (hC : IsInts (· < w.heap.size) w cv cuts) :
    Calls Tryd.prog 9 #[.int .u8 a.toNat, xv, cv] w (Pm.Gives w (.bool true)) := by
  have HT := Lib.hid (show ∀ W, Below w.heap.size w W → MaxTab W from fun W hb => hT.below hb)
  have HX := Lib.hid (show ∀ W, Below w.heap.size w W → IsBytes (· < w.heap.size) W xv x from fun W hb => hX.below hb)
  have HC := Lib.hid (show ∀ W, Below w.heap.size w W → IsInts (· < w.heap.size) W cv cuts from fun W hb => hC.below hb)
  obtain ⟨ax, cx, rfl, -, -⟩ := id hX
  obtain ⟨ac, cc, rfl, -⟩ := id hC
  clear hT hX hC
  obtain ⟨H, hH⟩ : ∃ H, H = heavyB [a] [] [] [cuts] := ⟨_, rfl⟩
  have HH := Lib.hid hH
  clear hH
  go_enter Tryd.func9, Tryd.ntmps9
  go_upto_region 2 with fail
  have hb0 : Below w.heap.size w ((w.alloc (.cells #[.int .u8 a.toNat] 5)).alloc (.cells #[.int .i64 7, .int .i64 65535, .slice (some ⟨w.heap.size, 0, none⟩) 1 1, .slice none 0 0] 24)) := ((Below.refl _ _).alloc (Nat.le_refl _) _).alloc (by simp) _
  have hr1 := heap_alloc_last (w.alloc (.cells #[.int .u8 a.toNat] 5)) (.cells #[.int .i64 7, .int .i64 65535, .slice (some ⟨w.heap.size, 0, none⟩) 1 1, .slice none 0 0] 24)
  rw [World.size_alloc] at hr1
  have hr0 := (((Below.refl (w.alloc (.cells #[.int .u8 a.toNat] 5)).heap.size (w.alloc (.cells #[.int .u8 a.toNat] 5))).alloc (Nat.le_refl _) (.cells #[.int .i64 7, .int .i64 65535, .slice (some ⟨w.heap.size, 0, none⟩) 1 1, .slice none 0 0] 24)).block w.heap.size (by simp)).trans (heap_alloc_last w (.cells #[.int .u8 a.toNat] 5))
  have hs0 : ((w.alloc (.cells #[.int .u8 a.toNat] 5)).alloc (.cells #[.int .i64 7, .int .i64 65535, .slice (some ⟨w.heap.size, 0, none⟩) 1 1, .slice none 0 0] 24)).heap.size = w.heap.size + 2 := by simp
  generalize (w.alloc (.cells #[.int .u8 a.toNat] 5)).alloc (.cells #[.int .i64 7, .int .i64 65535, .slice (some ⟨w.heap.size, 0, none⟩) 1 1, .slice none 0 0] 24) = Wp at hb0 hr0 hr1 hs0 ⊢
  have hP : ∀ W, Below Wp.heap.size Wp W → W.cell? ⟨w.heap.size + 1, 0, none⟩ = some (.int .i64 7) ∧ W.cell? ⟨w.heap.size + 1, 1, none⟩ = some (.int .i64 65535) ∧ W.cell? ⟨w.heap.size + 1, 2, none⟩ = some (.slice (some ⟨w.heap.size, 0, none⟩) 1 1) ∧ W.cell? ⟨w.heap.size + 1, 3, none⟩ = some (.slice none 0 0) := fun W hb => by
    have hr := (hb.block (w.heap.size + 1) (by omega)).trans hr1
    refine ⟨?_, ?_, ?_, ?_⟩
    all_goals
      rw [cell_of_row _ _ _ _ _ _ hr]
      rfl
  have hA : ∀ W, Below Wp.heap.size Wp W → Pm.IsBytes W (.slice (some ⟨w.heap.size, 0, none⟩) 1 1) [a] := fun W hb => by
    have hr := (hb.block w.heap.size (by omega)).trans hr0
    refine ⟨_, 1, rfl, Nat.le_refl _, fun j c hj => ⟨_, _, rfl, ?_⟩⟩
    match j, hj with
    | 0, hj =>
      simp at hj
      subst hj
      rw [cell_of_row _ _ _ _ _ _ hr]
      rfl
    | j + 1, hj => simp at hj
  have hY : ∀ W, Below Wp.heap.size Wp W → Below w.heap.size w W := fun W hb => hb0.trans (hb.mono hb0.size)
  have hcc := ints_list Wp (.slice ac cuts.length cc) cuts (fun _ => True) trivial ((HC.out _ hb0).mono (fun _ _ _ => trivial)) (0, 0)
  have hhv := heavy_any 7 65535 (.slice (some ⟨w.heap.size, 0, none⟩) 1 1) (.slice none 0 0) (.slice none 0 0) _ [a] [] [] [cuts] _ (hA _ ((Below.refl _ _).alloc (Nat.le_refl _) _)) (pm_nil _) (⟨none, 0, rfl, fun j t h => by simp at h⟩ : IsStrms (fun _ => True) _ _ []) hcc (by simp)
  rw [← HH.out] at hhv
  unfold Pm.parV at hhv
  have HP := Lib.hid hP
  have HA := Lib.hid hA
  have HY := Lib.hid hY
  have HHv := Lib.hid hhv
  obtain ⟨c0, c1, c2, c3⟩ := hP Wp (Below.refl _ _)
  have HSz := Lib.hid hs0
  clear hP hA hY hhv hb0 hr0 hr1 hs0 hcc
  go_wp2_with fail
  refine HHv.out.mono ?_
  rintro e w1 ⟨rfl, hb1⟩
  have hbp1 : Below Wp.heap.size Wp w1 := ((Below.refl _ _).alloc (Nat.le_refl _) _).trans (hb1.mono (by simp))
  have HBP1 := Lib.hid hbp1
  have HW1 := Lib.hid (HY.out _ hbp1)
  clear HHv hb1 hbp1 c0 c1 c2 c3
  cases H with
  | true =>
    go_wp2_with fail
    refine (awake_true _ (HT.out _ HW1.out)).mono ?_
    rintro e w2 ⟨rfl, hb2⟩
    go_wp2_with fail
    go_ret
    exact ⟨rfl, HW1.out.trans (hb2.mono HW1.out.size)⟩
  | false =>
    obtain ⟨-, -, -, -, sC⟩ := heavy_no HH.out.symm
    have sC1 := sC cuts List.mem_cons_self
    clear sC
    by_cases hlen : 1500 < x.length
    · have q1 : (1500 : Int) < (x.length : Int) := by omega
      go_wp2_with fail
      refine (awake_true _ (HT.out _ HW1.out)).mono ?_
      rintro e w2 ⟨rfl, hb2⟩
      go_wp2_with fail
      go_ret
      exact ⟨rfl, HW1.out.trans (hb2.mono HW1.out.size)⟩
    have q1 : ¬ (1500 : Int) < (x.length : Int) := by omega
    by_cases h10 : a = 10
    · have q2 : ((a.toNat : Int) == 10) = true := by subst h10; rfl
      go_wp2_with fail
      refine (awake_true _ (HT.out _ HW1.out)).mono ?_
      rintro e w2 ⟨rfl, hb2⟩
      go_wp2_with fail
      go_ret
      exact ⟨rfl, HW1.out.trans (hb2.mono HW1.out.size)⟩
    have q2 : ((a.toNat : Int) == 10) = false := by
      apply beq_false_of_ne
      intro e
      exact h10 (UInt8.toNat_inj.1 (by show a.toNat = 10; omega))
    go_wp2_with fail
    refine (linesOf_any _ x w1 (HX.out _ HW1.out) (by omega)).mono ?_
    rintro e w2 ⟨la, lc, rfl, hlc, hTx, hb2⟩
    clear q1 q2
    have hr64 := (readL_lines x true (0, 0, 0)).1
    have hrl := (readL_lines x true (0, 0, 0)).2
    have hcomes := fun N => readL_comes h10 N x
    obtain ⟨L, hL⟩ : ∃ L, L = (readL x true (0, 0, 0)).1 := ⟨_, rfl⟩
    obtain ⟨all, hall⟩ : ∃ all, all = (readL x true (0, 0, 0)).2.1 := ⟨_, rfl⟩
    rw [← hL] at hTx hlc hr64 hrl ⊢
    simp only [← hL] at hcomes
    rw [← hall]
    have HL := Lib.hid hL
    have HAll := Lib.hid hall
    have HTx := Lib.hid hTx
    have HR := Lib.hid hr64
    have HCo := Lib.hid hcomes
    have HBP2 := Lib.hid (HBP1.out.trans (hb2.mono HBP1.out.size))
    have HW2 := Lib.hid (HW1.out.trans (hb2.mono HW1.out.size))
    clear hL hall hTx hb2 hr64 hcomes
    cases all with
    | false =>
      go_wp2_with fail
      refine (awake_true _ (HT.out _ HW2.out)).mono ?_
      rintro e w3 ⟨rfl, hb3⟩
      go_wp2_with fail
      go_ret
      exact ⟨rfl, HW2.out.trans (hb3.mono HW2.out.size)⟩
    | true =>
      go_wp2_with fail
      have hcols := Cols.start a L w2
      have HBP3 := Lib.hid (HBP2.out.alloc HBP2.out.size (.cells (List.replicate 16 (Value.slice none 0 0)).toArray 67))
      change Code.wp _ _ _ _ (w2.alloc (.cells (List.replicate 16 (Value.slice none 0 0)).toArray 67))
      generalize w2.alloc (.cells (List.replicate 16 (Value.slice none 0 0)).toArray 67) = W0 at hcols HBP3 ⊢
      have HCols := Lib.hid hcols
      clear hcols
      go_loopw [11] (fun kv wr => ∃ k : Nat, kv = .int .i64 k ∧ Cols a L w2 k wr) (fun kv _ => 16 - (intOf kv).toNat)
      case atStart => exact ⟨0, rfl, HCols.out⟩
      case round =>
        obtain ⟨k, rfl, hcw⟩ := hrel
        have hk16 := hcw.le
        have hbr : Below Wp.heap.size Wp wr := HBP2.out.trans (hcw.bel.mono HBP2.out.size)
        have hwr : Below w.heap.size w wr := HY.out _ hbr
        have HCw := Lib.hid hcw
        have HBr := Lib.hid hbr
        have HWr := Lib.hid hwr
        clear hcw hbr hwr HCols
        by_cases hk : k < 16
        · have q0 : (0 : Int) ≤ (k : Int) := by omega
          have q1 : (k : Int) < 16 := by omega
          obtain ⟨N, hN⟩ : ∃ N : Nat, N = 2 ^ k := ⟨_, rfl⟩
          have hN2 : N ≤ 32768 := by
            rw [hN]
            exact (Nat.pow_le_pow_right (n := 2) (by decide) (by omega) : 2 ^ k ≤ 2 ^ 15)
          have hN1 : 1 ≤ N := by rw [hN]; exact Nat.two_pow_pos k
          have hpw : (2 : Int) ^ k = (N : Int) := by rw [hN]; push_cast; rfl
          have q2 : IntKind.i64.wrap ((2 : Int) ^ k) = (N : Int) := by
            rw [hpw]
            simp [IntKind.wrap, IntKind.bits, IntKind.signed]
            omega
          have HN := Lib.hid hN
          obtain ⟨c0, c1, c2, c3⟩ := HP.out _ HBr.out
          clear hpw hN
          go_upto_region 13 with fail
          have hr1 := heap_alloc_last wr (.cells #[.int .i64 7, .int .i64 N, .slice (some ⟨w.heap.size, 0, none⟩) 1 1, .slice none 0 0] 24)
          have hb1 : Below wr.heap.size wr (wr.alloc (.cells #[.int .i64 7, .int .i64 N, .slice (some ⟨w.heap.size, 0, none⟩) 1 1, .slice none 0 0] 24)) := (Below.refl _ _).alloc (Nat.le_refl _) _
          generalize wr.alloc (.cells #[.int .i64 7, .int .i64 N, .slice (some ⟨w.heap.size, 0, none⟩) 1 1, .slice none 0 0] 24) = W1 at hr1 hb1 ⊢
          have d0 : W1.cell? ⟨wr.heap.size, 0, none⟩ = some (.int .i64 7) := by rw [cell_of_row _ _ _ _ _ _ hr1]; rfl
          have d1 : W1.cell? ⟨wr.heap.size, 1, none⟩ = some (.int .i64 N) := by rw [cell_of_row _ _ _ _ _ _ hr1]; rfl
          have d2 : W1.cell? ⟨wr.heap.size, 2, none⟩ = some (.slice (some ⟨w.heap.size, 0, none⟩) 1 1) := by rw [cell_of_row _ _ _ _ _ _ hr1]; rfl
          have d3 : W1.cell? ⟨wr.heap.size, 3, none⟩ = some (.slice none 0 0) := by rw [cell_of_row _ _ _ _ _ _ hr1]; rfl
          have hbW1 : Below w.heap.size w W1 := HWr.out.trans (hb1.mono HWr.out.size)
          have hbA : Below w.heap.size w (W1.alloc (.cells #[.slice ax x.length cx] 22)) := hbW1.alloc hbW1.size _
          have hbP1 : Below Wp.heap.size Wp W1 := HBr.out.trans (hb1.mono HBr.out.size)
          have hbPA : Below Wp.heap.size Wp (W1.alloc (.cells #[.slice ax x.length cx] 22)) := hbP1.alloc hbP1.size _
          have hpc := pieces_new W1 (.slice ax x.length cx) x (· < (W1.alloc (.cells #[.slice ax x.length cx] 22)).heap.size) (by simp) ((HX.out _ hbW1).mono (fun k hk _ => by simp; omega)) (0, 0)
          have htold := told_any N (.slice (some ⟨w.heap.size, 0, none⟩) 1 1) (.slice none 0 0) (.slice ac cuts.length cc) _ [a] [] x cuts _ (HT.out _ hbA) (HA.out _ hbPA) (pm_nil _) hpc ((HC.out _ hbA).mono (fun k hk _ => hk)) (fields_takes hN1 (by omega) h10) ⟨by omega, rfl⟩ (by simp) (by simp) (by omega) (by omega)
          unfold Pm.parV at htold
          have HTold := Lib.hid htold
          have hb1A : Below wr.heap.size wr (W1.alloc (.cells #[.slice ax x.length cx] 22)) := hb1.alloc hb1.size _
          have HB1A := Lib.hid hb1A
          clear htold hpc hr1 hbA hbPA hbP1 hbW1 hb1 hb1A c0 c1 c2 c3
          go_wp2_with fail
          refine HTold.out.mono ?_
          clear HTold d0 d1 d2 d3
          rintro e w3 ⟨rfl, hb3⟩
          have HB3 := Lib.hid (HB1A.out.trans (hb3.mono HB1A.out.size))
          clear hb3
          obtain ⟨D, hD⟩ : ∃ D, D = drive (fieldsF N [a] []) [⟨x, true, 0, 0, 0⟩] cuts 100000 0 (start (fieldsF N [a] []) (fieldsI N [a] [])) := ⟨_, rfl⟩
          rw [← hD]
          obtain ⟨o0, ofine⟩ := fields_whole N a x cuts (by omega) (by omega) HAll.out.symm D hD
          rw [ofine]
          obtain ⟨F, S1, S2, S3, e0, -, -, -, hlit⟩ := got_lit D.got
          rw [o0, ← HL.out] at e0
          rw [hlit]
          have HF := Lib.hid e0
          clear hD o0 ofine e0 hlit
          go_upto_region 14 with fail
          have hr4 := heap_alloc_last w3 (.cells #[.string F, .string S1, .string S2, .string S3, .int .i64 D.got.need, .int .i64 D.got.err, .int .i64 D.got.held, .int .i64 (D.got.taken 0), .int .i64 (D.got.taken 1), .int .i64 (D.got.taken 2), .int .i64 (D.got.taken 3), .bool false] 42)
          have hb4 : Below w3.heap.size w3 (w3.alloc (.cells #[.string F, .string S1, .string S2, .string S3, .int .i64 D.got.need, .int .i64 D.got.err, .int .i64 D.got.held, .int .i64 (D.got.taken 0), .int .i64 (D.got.taken 1), .int .i64 (D.got.taken 2), .int .i64 (D.got.taken 3), .bool false] 42)) := (Below.refl _ _).alloc (Nat.le_refl _) _
          generalize w3.alloc (.cells #[.string F, .string S1, .string S2, .string S3, .int .i64 D.got.need, .int .i64 D.got.err, .int .i64 D.got.held, .int .i64 (D.got.taken 0), .int .i64 (D.got.taken 1), .int .i64 (D.got.taken 2), .int .i64 (D.got.taken 3), .bool false] 42) = W4 at hr4 hb4 ⊢
          have d0 : W4.cell? ⟨w3.heap.size, 0, none⟩ = some (.string F) := by rw [cell_of_row _ _ _ _ _ _ hr4]; rfl
          have hb4r : Below wr.heap.size wr W4 := HB3.out.trans (hb4.mono HB3.out.size)
          obtain ⟨ca, w5, hcv, -, hby, hb5⟩ := conv_str (joinL (comesL N [a] L)) W4
          rw [HF.out] at hcv
          have hco := HCo.out N
          have hjl : (joinL (comesL N [a] L)).length ≤ 1000000 := by
            have h1 := joinL_comes N a L
            have h2 := joinL_len HR.out
            omega
          have hlines := linesOf_any _ (joinL (comesL N [a] L)) w5 hby (Nat.le_trans hjl (by decide))
          have hcl : (comesL N [a] L).length = L.length := by simp [comesL]
          unfold LinesOf at hlines
          rw [hco] at hlines
          simp only [hcl] at hlines
          have hb5r : Below wr.heap.size wr w5 := hb4r.trans (hb5.mono hb4r.size)
          have HLines := Lib.hid hlines
          have HB5 := Lib.hid hb5r
          have HCl := Lib.hid hcl
          clear hr4 hb4 hb4r hby hb5 hco hjl hlines hcl hb5r
          go_wp2_with fail
          refine HLines.out.mono ?_
          rintro e w6 ⟨lb, lcb, rfl, hlcb, hTb, hb6⟩
          have hb6r : Below wr.heap.size wr w6 := HB5.out.trans (hb6.mono HB5.out.size)
          have hc6 := HCw.out.keep hb6r
          have hput := hc6.put hk (v := .slice lb L.length lcb) (by rw [← HN.out]; exact hTb.mono (fun b hb => by have := HCw.out.lt; have := HB5.out.size; omega))
          obtain ⟨t0, t1⟩ := hc6.there hk
          have HPut := Lib.hid hput
          clear hTb hb6 hb6r hc6 hput d0 hcv HLines
          go_wp2_with fail
          exact ⟨⟨k + 1, by go_num, HPut.out⟩, by simp [intOf]; omega⟩
        · have q1 : ¬ (k : Int) < 16 := by omega
          obtain rfl : k = 16 := by omega
          obtain ⟨c0, c1, c2, c3⟩ := HP.out _ HBr.out
          go_upto_region 18 with fail
          have hbA : Below w.heap.size w (wr.alloc (.cells #[.slice ax x.length cx] 22)) := HWr.out.alloc HWr.out.size _
          have hbPA : Below Wp.heap.size Wp (wr.alloc (.cells #[.slice ax x.length cx] 22)) := HBr.out.alloc HBr.out.size _
          have hpc := pieces_new wr (.slice ax x.length cx) x (· < (wr.alloc (.cells #[.slice ax x.length cx] 22)).heap.size) (by simp) ((HX.out _ HWr.out).mono (fun k hk _ => by simp; omega)) (0, 0)
          have htold := told_any 65535 (.slice (some ⟨w.heap.size, 0, none⟩) 1 1) (.slice none 0 0) (.slice ac cuts.length cc) _ [a] [] x cuts _ (HT.out _ hbA) (HA.out _ hbPA) (pm_nil _) hpc ((HC.out _ hbA).mono (fun k hk _ => hk)) (fields_takes (by decide) (Nat.le_refl _) h10) ⟨Nat.le_refl _, rfl⟩ (by simp) (by simp) (by omega) (by omega)
          unfold Pm.parV at htold
          rw [show ((65535 : Nat) : Int) = 65535 from rfl] at htold
          have HTold := Lib.hid htold
          have hb1A : Below wr.heap.size wr (wr.alloc (.cells #[.slice ax x.length cx] 22)) := (Below.refl _ _).alloc (Nat.le_refl _) _
          have HB1A := Lib.hid hb1A
          clear htold hpc hbA hbPA hb1A
          go_wp2_with fail
          refine HTold.out.mono ?_
          clear HTold c0 c1 c2 c3
          rintro e w3 ⟨rfl, hb3⟩
          have HB3 := Lib.hid (HB1A.out.trans (hb3.mono HB1A.out.size))
          clear hb3
          obtain ⟨D, hD⟩ : ∃ D, D = drive (fieldsF 65535 [a] []) [⟨x, true, 0, 0, 0⟩] cuts 100000 0 (start (fieldsF 65535 [a] []) (fieldsI 65535 [a] [])) := ⟨_, rfl⟩
          rw [← hD]
          obtain ⟨o0, ofine⟩ := fields_whole 65535 a x cuts (Nat.le_refl _) (by omega) HAll.out.symm D hD
          rw [ofine]
          obtain ⟨F, S1, S2, S3, e0, -, -, -, hlit⟩ := got_lit D.got
          rw [o0, ← HL.out] at e0
          rw [hlit]
          have HF := Lib.hid e0
          clear hD o0 ofine e0 hlit
          go_upto_region 19 with fail
          have hr4 := heap_alloc_last w3 (.cells #[.string F, .string S1, .string S2, .string S3, .int .i64 D.got.need, .int .i64 D.got.err, .int .i64 D.got.held, .int .i64 (D.got.taken 0), .int .i64 (D.got.taken 1), .int .i64 (D.got.taken 2), .int .i64 (D.got.taken 3), .bool false] 42)
          have hb4 : Below w3.heap.size w3 (w3.alloc (.cells #[.string F, .string S1, .string S2, .string S3, .int .i64 D.got.need, .int .i64 D.got.err, .int .i64 D.got.held, .int .i64 (D.got.taken 0), .int .i64 (D.got.taken 1), .int .i64 (D.got.taken 2), .int .i64 (D.got.taken 3), .bool false] 42)) := (Below.refl _ _).alloc (Nat.le_refl _) _
          generalize w3.alloc (.cells #[.string F, .string S1, .string S2, .string S3, .int .i64 D.got.need, .int .i64 D.got.err, .int .i64 D.got.held, .int .i64 (D.got.taken 0), .int .i64 (D.got.taken 1), .int .i64 (D.got.taken 2), .int .i64 (D.got.taken 3), .bool false] 42) = W4 at hr4 hb4 ⊢
          have d0 : W4.cell? ⟨w3.heap.size, 0, none⟩ = some (.string F) := by rw [cell_of_row _ _ _ _ _ _ hr4]; rfl
          have hb4r : Below wr.heap.size wr W4 := HB3.out.trans (hb4.mono HB3.out.size)
          obtain ⟨ca, w5, hcv, -, hby, hb5⟩ := conv_str (joinL (comesL 65535 [a] L)) W4
          rw [HF.out] at hcv
          have hco := HCo.out 65535
          have hjl : (joinL (comesL 65535 [a] L)).length ≤ 1000000 := by
            have h1 := joinL_comes 65535 a L
            have h2 := joinL_len HR.out
            omega
          have hlines := linesOf_any _ (joinL (comesL 65535 [a] L)) w5 hby (Nat.le_trans hjl (by decide))
          have hcl : (comesL 65535 [a] L).length = L.length := by simp [comesL]
          unfold LinesOf at hlines
          rw [hco] at hlines
          simp only [hcl] at hlines
          have hb5r : Below wr.heap.size wr w5 := hb4r.trans (hb5.mono hb4r.size)
          have HLines := Lib.hid hlines
          have HB5 := Lib.hid hb5r
          clear hr4 hb4 hb4r hby hb5 hco hjl hlines hcl hb5r
          go_wp2_with fail
          refine HLines.out.mono ?_
          rintro e w6 ⟨lb, lcb, rfl, hlcb, hTb, hb6⟩
          have hb6r : Below wr.heap.size wr w6 := HB5.out.trans (hb6.mono HB5.out.size)
          have HTw := Lib.hid (show ∀ W, Below w6.heap.size w6 W → IsTexts (fun _ => True) W (.slice lb L.length lcb) (comesL 65535 [a] L) from fun W hb => (hTb.mono (fun _ _ _ => trivial)).below hb)
          have HTl := Lib.hid (show ∀ W, Below w6.heap.size w6 W → IsTexts (fun _ => True) W (.slice la L.length lc) L from fun W hb => (HTx.out.mono (fun _ _ _ => trivial)).below (HCw.out.bel.trans ((hb6r.trans (hb.mono hb6r.size)).mono HCw.out.bel.size)))
          have HCs := Lib.hid (show ∀ W, Below w6.heap.size w6 W → Cols a L w2 16 W from fun W hb => HCw.out.keep (hb6r.trans (hb.mono hb6r.size)))
          have HW6 := Lib.hid (show ∀ W, Below w6.heap.size w6 W → Below w.heap.size w W from fun W hb => HWr.out.trans ((hb6r.trans (hb.mono hb6r.size)).mono HWr.out.size))
          have HB6 := Lib.hid (Below.refl w6.heap.size w6)
          clear hTb hb6 hb6r d0 hcv HLines HB5 HB3 HF HB1A HCw HBr HWr HTx
          go_upto_region 20 with fail
          by_cases hl0 : L.length = 0
          · rw [hl0]
            go_wp2_with fail
            go_loopw [21] (fun iv wr => iv = .int .i64 0 ∧ wr = w6) (fun _ _ => 0)
            case atStart => exact ⟨rfl, rfl⟩
            case round =>
              obtain ⟨rfl, rfl⟩ := hrel
              go_wp2_with fail
              refine (awake_true _ (HT.out _ (HW6.out _ (Below.refl _ _)))).mono ?_
              rintro e w7 ⟨rfl, hb7⟩
              go_wp2_with fail
              go_ret
              exact ⟨rfl, (HW6.out _ (Below.refl _ _)).trans (hb7.mono (HW6.out _ (Below.refl _ _)).size)⟩
          have q3 : (0 : Int) < (L.length : Int) := by omega
          go_wp2_with fail
          go_loopw [21] (fun iv wr => ∃ i : Nat, iv = .int .i64 i ∧ i ≤ L.length ∧ Below w6.heap.size w6 wr) (fun iv _ => L.length - (intOf iv).toNat)
          case atStart => exact ⟨0, rfl, Nat.zero_le _, HB6.out⟩
          case round =>
            obtain ⟨i, rfl, hi, hbi⟩ := hrel
            clear q3
            have HBi := Lib.hid hbi
            clear hbi
            by_cases hlt : i < L.length
            · obtain ⟨l, hl⟩ : ∃ l, L[i]? = some l := ⟨L[i]'hlt, List.getElem?_eq_getElem hlt⟩
              have hl64 := HR.out l (List.mem_of_getElem? hl)
              obtain ⟨gl, ol, hla, hcl⟩ : ∃ gl ol, la = some ⟨gl, ol, none⟩ ∧ ∀ W, Below w6.heap.size w6 W → W.cell? ⟨gl, ol + i, none⟩ = some (strV l) := by
                obtain ⟨_, _, e, hcs⟩ := HTl.out _ HBi.out
                cases e
                obtain ⟨gl, ol, hla, -, -⟩ := hcs i l hl
                refine ⟨gl, ol, hla, fun W hb => ?_⟩
                obtain ⟨_, _, e, hcs⟩ := HTl.out _ hb
                cases e
                obtain ⟨g2, o2, e2, -, hx⟩ := hcs i l hl
                rw [hla] at e2
                cases e2
                exact hx
              obtain ⟨gw, ow, hlb, hcw⟩ : ∃ gw ow, lb = some ⟨gw, ow, none⟩ ∧ ∀ W, Below w6.heap.size w6 W → W.cell? ⟨gw, ow + i, none⟩ = some (strV (lineF 65535 [a] l)) := by
                have hl2 : (comesL 65535 [a] L)[i]? = some (lineF 65535 [a] l) := by rw [comesL, List.getElem?_map, hl]; rfl
                obtain ⟨_, _, e, hcs⟩ := HTw.out _ HBi.out
                injection e with e1 e2 e3
                obtain ⟨gw, ow, hlb, -, -⟩ := hcs i _ hl2
                refine ⟨gw, ow, e1.trans hlb, fun W hb => ?_⟩
                obtain ⟨_, _, e, hcs⟩ := HTw.out _ hb
                injection e with f1 f2 f3
                obtain ⟨g2, o2, e2, -, hx⟩ := hcs i _ hl2
                rw [← f1, e1, hlb] at e2
                cases e2
                exact hx
              subst hla hlb
              obtain ⟨Sl, hSl⟩ : ∃ S : ByteArray, strV l = .string S := ⟨_, rfl⟩
              obtain ⟨np, hnp⟩ : ∃ np, np = (partsL a l).length := ⟨_, rfl⟩
              rw [hSl] at hcl
              have zl := strV_size hSl
              have HSl := Lib.hid hSl
              have HNp := Lib.hid hnp
              have HCl := Lib.hid hcl
              have HCw := Lib.hid hcw
              have HLi := Lib.hid hl
              have q0 : (0 : Int) ≤ (i : Int) := by omega
              have q1 : (i : Int) < (L.length : Int) := by omega
              clear hSl hnp hcl hcw hl
              go_wp2_with fail
              go_loopw [22, 23] (fun nv kv w7 => ∃ j : Nat, kv = .int .i64 j ∧ j ≤ l.length ∧ nv = .int .i64 (((l.take j).count a + 1 : Nat) : Int) ∧ w7 = wr) (fun _ kv _ => l.length - (intOf kv).toNat)
              case atStart => exact ⟨0, rfl, Nat.zero_le _, by simp, rfl⟩
              case round =>
                obtain ⟨j, rfl, hj, rfl, rfl⟩ := hrel
                have hc := HCl.out _ HBi.out
                obtain ⟨m, hm⟩ : ∃ m, m = (l.take j).count a := ⟨_, rfl⟩
                have hm64 : m ≤ 64 := by
                  have h1 := List.count_le_length (a := a) (l := l.take j)
                  rw [List.length_take] at h1
                  omega
                rw [← hm]
                have HM := Lib.hid hm
                clear hm
                by_cases hlj : j < l.length
                · obtain ⟨b, hb⟩ : ∃ b, l[j]? = some b := ⟨l[j]'hlj, List.getElem?_eq_getElem hlj⟩
                  have hz : j < Sl.size := by omega
                  have hSj : b = Sl[j]'hz := by
                    have e := HSl.out
                    unfold strV at e
                    injection e with e
                    subst e
                    have := (List.getElem?_eq_some_iff.1 hb).2
                    rw [← this]
                    rfl
                  have q4 : (0 : Int) ≤ (j : Int) := by omega
                  have q5 : (j : Int) < (l.length : Int) := by omega
                  have hct : (l.take (j + 1)).count a = m + if b = a then 1 else 0 := by
                    rw [take_snoc hb, List.count_append, ← HM.out]
                    by_cases hba : b = a
                    · subst hba; simp
                    · rw [if_neg hba]; simp [hba]
                  by_cases hba : b = a
                  · rw [if_pos hba] at hct
                    have t1 : ((b.toNat : Int) == (a.toNat : Int)) = true := by rw [hba]; simp
                    rw [hSj] at t1
                    have HCt := Lib.hid hct
                    clear hct hSj hb hba
                    go_wp2_with fail
                    exact ⟨⟨j + 1, by go_num, by omega, by rw [HCt.out]; go_num, trivial⟩, by simp [intOf]; omega⟩
                  · rw [if_neg hba] at hct
                    have t1 : ((b.toNat : Int) == (a.toNat : Int)) = false := by
                      apply beq_false_of_ne
                      intro e
                      exact hba (UInt8.toNat_inj.1 (by omega))
                    rw [hSj] at t1
                    have HCt := Lib.hid hct
                    clear hct hSj hb hba
                    go_wp2_with fail
                    exact ⟨⟨j + 1, by go_num, by omega, by rw [HCt.out], trivial⟩, by simp [intOf]; omega⟩
                · have q5 : ¬ (j : Int) < (l.length : Int) := by omega
                  obtain rfl : j = l.length := by omega
                  have hmn : m + 1 = np := by
                    rw [HNp.out, partsL_len, HM.out, List.take_length]
                  rw [hmn]
                  have hnp65 : np ≤ 65 := by omega
                  have hnp1 : 1 ≤ np := by omega
                  clear hmn hm64 HM
                  obtain ⟨g0, o0, cap0, k0, k0t⟩ := (HCs.out _ HBi.out).at (by decide : 0 < 16) HLi.out
                  rw [lineF_first] at k0t
                  obtain ⟨S0, hS0⟩ : ∃ S : ByteArray, strV (Lib.join ((partsL a l).take 1) [a]) = .string S := ⟨_, rfl⟩
                  rw [hS0] at k0t
                  have HS0 := Lib.hid hS0
                  clear hS0
                  go_wp2_with fail
                  go_loopw [24, 25] (fun sv kv w7 => ∃ k : Nat, kv = .int .i64 k ∧ 1 ≤ k ∧ k ≤ np ∧ k ≤ 16 ∧ sv = strV (Lib.join ((partsL a l).take k) [a]) ∧ Below w6.heap.size w6 w7) (fun _ kv _ => 16 - (intOf kv).toNat)
                  case atStart => exact ⟨1, rfl, Nat.le_refl _, hnp1, by decide, HS0.out.symm, HBi.out⟩
                  case round =>
                    obtain ⟨k, rfl, hk1, hkn, hk16, rfl, hb7⟩ := hrel
                    clear k0 k0t
                    have hjl : (Lib.join ((partsL a l).take k) [a]).length ≤ 64 := by
                      have h := join_take_le [a] (partsL a l) k
                      rw [join_partsL] at h
                      omega
                    obtain ⟨SV, hSV⟩ : ∃ S : ByteArray, strV (Lib.join ((partsL a l).take k) [a]) = .string S := ⟨_, rfl⟩
                    rw [hSV]
                    have zv := strV_size hSV
                    have HSV := Lib.hid hSV
                    have HB7 := Lib.hid hb7
                    clear hSV hb7
                    by_cases hlk : k < np ∧ k < 16
                    · obtain ⟨hlk, hlk16⟩ := hlk
                      have q6 : (k : Int) < (np : Int) := by omega
                      have q7 : (k : Int) < 16 := by omega
                      have q8 : (0 : Int) ≤ (k : Int) := by omega
                      have hnp2 : (partsL a l).length ≠ 1 := by rw [← HNp.out]; omega
                      obtain ⟨gk, ok, capk, e1, e2⟩ := (HCs.out w6 (Below.refl _ _)).at hlk16 HLi.out
                      rw [lineF_bit hnp2] at e2
                      obtain ⟨SF, hSF⟩ : ∃ S : ByteArray, strV (fieldAt a l k) = .string S := ⟨_, rfl⟩
                      rw [hSF] at e2
                      have zf := strV_size hSF
                      have hf1 := Pm.Below.cell (HB7.out) e1
                      have HE1 := Lib.hid (show ∀ W, Below w6.heap.size w6 W → W.cell? ⟨w2.heap.size, k, none⟩ = some (.slice (some ⟨gk, ok, none⟩) L.length capk) from fun W hb => Pm.Below.cell hb e1)
                      have HE2 := Lib.hid (show ∀ W, Below w6.heap.size w6 W → W.cell? ⟨gk, ok + i, none⟩ = some (.string SF) from fun W hb => Pm.Below.cell hb e2)
                      have hnext := join_next (a := a) (l := l) hk1 (by rw [← HNp.out]; exact hlk)
                      obtain ⟨SA, hSA⟩ : ∃ S : ByteArray, strV [a] = .string S := ⟨_, rfl⟩
                      have hfin : strV (Lib.join ((partsL a l).take (k + 1)) [a]) = .string (SV ++ SA ++ SF) := by
                        rw [hnext, ← List.append_assoc]
                        exact strV_add (strV_add HSV.out hSA) hSF
                      have hnl : (Lib.join ((partsL a l).take (k + 1)) [a]).length ≤ 64 := by
                        have h := join_take_le [a] (partsL a l) (k + 1)
                        rw [join_partsL] at h
                        omega
                      have za : SA.size = 1 := strV_size hSA
                      have hl3 := congrArg List.length hnext
                      simp only [List.length_append, List.length_singleton] at hl3
                      have hadd1 : (9223372036854775807 < SV.size + SA.size) = False := by simp; omega
                      have hadd2 : (9223372036854775807 < SV.size + SA.size + SF.size) = False := by simp; omega
                      have HFin := Lib.hid hfin
                      have HSA := Lib.hid hSA
                      clear hSF e1 e2 hf1 hnext hSA hfin hnl zv zf za hl3 hjl
                      go_upto_region 35 with fail
                      refine anyG_start (S := Below w6.heap.size w6) (by kernel_rfl) ?_
                      have hw := HB7.out.drew
                      generalize wr.drew = wd at hw ⊢
                      refine anyG_take (i := 0) 164 (.string SV) rfl rfl (by kernel_rfl) (by kernel_rfl) (by kernel_rfl) rfl (fun W h => by go_simp) hw ?_
                      try simp only [Act.put, List.setIfInBounds_toArray, List.set_cons_succ, List.set_cons_zero]
                      refine anyG_take (i := 1) 165 (.int .u8 a.toNat) rfl rfl (by kernel_rfl) (by kernel_rfl) (by kernel_rfl) rfl (fun W h => by go_simp) hw ?_
                      try simp only [Act.put, List.setIfInBounds_toArray, List.set_cons_succ, List.set_cons_zero]
                      refine anyG_take (i := 5) 169 (.int .i64 k) rfl rfl (by kernel_rfl) (by kernel_rfl) (by kernel_rfl) rfl (fun W h => by go_simp) hw ?_
                      try simp only [Act.put, List.setIfInBounds_toArray, List.set_cons_succ, List.set_cons_zero]
                      refine anyG_take (i := 6) 170 (.pointer (some ⟨w2.heap.size, k, none⟩)) rfl rfl (by kernel_rfl) (by kernel_rfl) (by kernel_rfl) rfl (fun W h => by go_simp) hw ?_
                      try simp only [Act.put, List.setIfInBounds_toArray, List.set_cons_succ, List.set_cons_zero]
                      refine anyG_take (i := 7) 171 (.slice (some ⟨gk, ok, none⟩) L.length capk) rfl rfl (by kernel_rfl) (by kernel_rfl) (by kernel_rfl) rfl (fun W h => by have c := HE1.out W h; go_simp) hw ?_
                      try simp only [Act.put, List.setIfInBounds_toArray, List.set_cons_succ, List.set_cons_zero]
                      refine anyG_take (i := 8) 172 (.int .i64 i) rfl rfl (by kernel_rfl) (by kernel_rfl) (by kernel_rfl) rfl (fun W h => by go_simp) hw ?_
                      try simp only [Act.put, List.setIfInBounds_toArray, List.set_cons_succ, List.set_cons_zero]
                      refine anyG_take (i := 9) 173 (.pointer (some ⟨gk, ok + i, none⟩)) rfl rfl (by kernel_rfl) (by kernel_rfl) (by kernel_rfl) rfl (fun W h => by go_simp) hw ?_
                      try simp only [Act.put, List.setIfInBounds_toArray, List.set_cons_succ, List.set_cons_zero]
                      refine anyG_take (i := 10) 174 (.string SF) rfl rfl (by kernel_rfl) (by kernel_rfl) (by kernel_rfl) rfl (fun W h => by have c := HE2.out W h; go_simp) hw ?_
                      try simp only [Act.put, List.setIfInBounds_toArray, List.set_cons_succ, List.set_cons_zero]
                      refine anyG_step (i := 2) rfl (by kernel_rfl) rfl (fun K hK => ?_)
                      go_simp
                      refine hK.out _ _ (hw.alloc hw.size _) ?_
                      clear hK K
                      try simp only [Act.put, List.setIfInBounds_toArray, List.set_cons_succ, List.set_cons_zero]
                      have hkc := Pm.conv_any (show Pm.IsBytes (wd.alloc (.cells #[.int .u8 a.toNat] 5)) (.slice (some ⟨wd.heap.size, 0, none⟩) 1 1) [a] from ⟨_, 1, rfl, Nat.le_refl _, fun j c hj => ⟨_, _, rfl, by
                        match j, hj with
                        | 0, hj =>
                          simp at hj
                          subst hj
                          rw [cell_of_row _ _ _ _ _ _ (heap_alloc_last wd _)]
                          rfl
                        | j + 1, hj => simp at hj⟩⟩)
                      rw [show Pm.strV [a] = .string SA from HSA.out] at hkc
                      have hw := hw.alloc hw.size (.cells #[.int .u8 a.toNat] 5)
                      generalize wd.alloc (.cells #[.int .u8 a.toNat] 5) = we at hw hkc ⊢
                      refine anyG_step (i := 3) rfl (by kernel_rfl) rfl (fun K hK => ?_)
                      go_simp
                      refine hK.out _ _ hw ?_
                      clear hK K hkc
                      try simp only [Act.put, List.setIfInBounds_toArray, List.set_cons_succ, List.set_cons_zero]
                      refine anyG_step (i := 4) rfl (by kernel_rfl) rfl (fun K hK => ?_)
                      go_simp
                      refine hK.out _ _ hw ?_
                      clear hK K
                      try simp only [Act.put, List.setIfInBounds_toArray, List.set_cons_succ, List.set_cons_zero]
                      refine anyG_step (i := 11) rfl (by kernel_rfl) rfl (fun K hK => ?_)
                      go_simp
                      refine hK.out _ _ hw ?_
                      clear hK K
                      try simp only [Act.put, List.setIfInBounds_toArray, List.set_cons_succ, List.set_cons_zero]
                      refine anyG_step (i := 12) rfl (by kernel_rfl) rfl (fun K hK => ?_)
                      go_simp
                      refine hK.out _ _ hw ?_
                      clear hK K
                      try simp only [Act.put, List.setIfInBounds_toArray, List.set_cons_succ, List.set_cons_zero]
                      refine anyG_done (by kernel_rfl) ?_
                      go_wp2_with fail
                      exact ⟨⟨k + 1, by go_num, by omega, by omega, by omega, HFin.out.symm, hw⟩, by simp [intOf]; omega⟩
                    · have hcols6 := HCs.out w6 (Below.refl _ _)
                      obtain ⟨c0, c1, c2, c3, c4, c5, c6, c7, c8, c9, c10, c11, c12, c13, c14, c15, hg6⟩ := hcols6.all
                      have hlt6 := hcols6.lt
                      have hgW : ∀ W, Below w6.heap.size w6 W → W.heap[w2.heap.size]? = some (.cells #[c0, c1, c2, c3, c4, c5, c6, c7, c8, c9, c10, c11, c12, c13, c14, c15] 67 (0, 0)) := fun W hb => (hb.block _ hlt6).trans hg6
                      have HCells := Lib.hid (show ∀ W, Below w6.heap.size w6 W → W.rangeAt w2.heap.size 0 [c0, c1, c2, c3, c4, c5, c6, c7, c8, c9, c10, c11, c12, c13, c14, c15] from fun W hb j v hv => by
                        rw [cell_of_row _ _ _ _ _ _ (hgW W hb), Nat.zero_add, List.getElem?_toArray]
                        exact hv)
                      have hu67 := Tryd.underlying67
                      have hz67 : (Tryd.prog.info? 67).map (·.size) = some [c0, c1, c2, c3, c4, c5, c6, c7, c8, c9, c10, c11, c12, c13, c14, c15].length := by kernel_rfl
                      have HBare := Lib.hid (show np ≠ 1 → ∀ W, Below w6.heap.size w6 W → Calls Tryd.prog 26 #[.int .u8 a.toNat, .int .i64 i, .agg #[c0, c1, c2, c3, c4, c5, c6, c7, c8, c9, c10, c11, c12, c13, c14, c15]] W (Pm.Gives W (.bool true)) from fun h W hb => (HCs.out W hb).bare HLi.out (by rw [← HNp.out]; exact h) hl64 (hgW W hb))
                      clear hcols6 hg6 hlt6 hgW
                      have hw := HB7.out
                      by_cases h16 : np ≤ 16
                      · obtain rfl : k = np := by
                          rcases Nat.lt_or_ge k np with h | h
                          · exact absurd ⟨h, by omega⟩ hlk
                          · omega
                        have q6 : ¬ (k : Int) < (k : Int) := by omega
                        have q7 : (k : Int) ≤ 16 := by omega
                        have e1 : SV = Sl := by
                          have h1 := HSV.out
                          rw [HNp.out, List.take_length, join_partsL] at h1
                          rw [HSl.out] at h1
                          injection h1 with h1
                          exact h1.symm
                        subst e1
                        have HZ := Lib.hid (show ∀ W, Below w6.heap.size w6 W → W.cell? ⟨gl, ol + i, none⟩ = some (.string SV) ∧ W.cell? ⟨gw, ow + i, none⟩ = some (.string SV) ∧ W.rangeAt w2.heap.size 0 [c0, c1, c2, c3, c4, c5, c6, c7, c8, c9, c10, c11, c12, c13, c14, c15] from fun W hb => ⟨HCl.out W hb, by rw [HCw.out W hb, lineF_all (by rw [← HNp.out]; exact h16), HSl.out], HCells.out W hb⟩)
                        by_cases h1 : k = 1
                        · subst h1
                          go_upto_region 36 with fail
                          refine region_stillG (by kernel_rfl) (by kernel_rfl) ?_
                          have hw := hw.drew
                          generalize wr.drew = wd at hw ⊢
                          obtain ⟨k1, k2, -⟩ := HZ.out _ hw
                          repeat (refine stillG_step (fun K hK => ?_); go_simp; refine hK.out _ ?_; clear hK K)
                          refine stillG_nil ?_
                          clear k1 k2
                          go_wp2_with fail
                          exact ⟨⟨i + 1, by go_num, by omega, hw⟩, by simp [intOf]; omega⟩
                        · have q8 : (1 : Int) < (k : Int) := by omega
                          go_upto_region 36 with fail
                          have hw := hw.drew
                          go_region_held3 (fun W => W.cell? ⟨gl, ol + i, none⟩ = some (.string SV) ∧ W.cell? ⟨gw, ow + i, none⟩ = some (.string SV) ∧ W.rangeAt w2.heap.size 0 [c0, c1, c2, c3, c4, c5, c6, c7, c8, c9, c10, c11, c12, c13, c14, c15])
                            (exact HZ.out _ hw)
                            (first | (go_at_call 26; refine (HBare.out h1 _ hw).mono ?_; rintro e w8 ⟨rfl, hb1⟩; have hw := hw.trans (hb1.mono hw.size); clear hb1))
                          all_goals
                            go_wp2_with fail
                            exact ⟨⟨i + 1, by go_num, by omega, hw⟩, by simp [intOf]; omega⟩
                      · obtain rfl : k = 16 := by
                          rcases Nat.lt_or_ge k 16 with h | h
                          · exact absurd ⟨by omega, h⟩ hlk
                          · omega
                        have q6 : (16 : Int) < (np : Int) := by omega
                        have q7 : ¬ (np : Int) ≤ 16 := by omega
                        have q8 : (1 : Int) < (np : Int) := by omega
                        have h1 : np ≠ 1 := by omega
                        go_upto_region 36 with fail
                        refine anyG_start (S := Below w6.heap.size w6) (by kernel_rfl) ?_
                        have hw := hw.drew
                        generalize wr.drew = wd at hw ⊢
                        refine anyG_take (i := 0) 176 (.int .i64 np) rfl rfl (by kernel_rfl) (by kernel_rfl) (by kernel_rfl) rfl (fun W h => by go_simp) hw ?_
                        try simp only [Act.put, List.setIfInBounds_toArray, List.set_cons_succ, List.set_cons_zero]
                        refine anyG_take (i := 1) 177 (.bool false) rfl rfl (by kernel_rfl) (by kernel_rfl) (by kernel_rfl) rfl (fun W h => by go_simp) hw ?_
                        try simp only [Act.put, List.setIfInBounds_toArray, List.set_cons_succ, List.set_cons_zero]
                        refine anyG_take (i := 2) 178 (.bool false) rfl rfl (by kernel_rfl) (by kernel_rfl) (by kernel_rfl) rfl (fun W h => by go_simp) hw ?_
                        try simp only [Act.put, List.setIfInBounds_toArray, List.set_cons_succ, List.set_cons_zero]
                        refine anyG_skip (i := 3) 179 rfl rfl (by kernel_rfl) (by kernel_rfl) (by kernel_rfl) rfl hw ?_
                        try simp only [Act.put, List.setIfInBounds_toArray, List.set_cons_succ, List.set_cons_zero]
                        refine anyG_skip (i := 4) 180 rfl rfl (by kernel_rfl) (by kernel_rfl) (by kernel_rfl) rfl hw ?_
                        try simp only [Act.put, List.setIfInBounds_toArray, List.set_cons_succ, List.set_cons_zero]
                        refine anyG_skip (i := 5) 181 rfl rfl (by kernel_rfl) (by kernel_rfl) (by kernel_rfl) rfl hw ?_
                        try simp only [Act.put, List.setIfInBounds_toArray, List.set_cons_succ, List.set_cons_zero]
                        refine anyG_skip (i := 6) 182 rfl rfl (by kernel_rfl) (by kernel_rfl) (by kernel_rfl) rfl hw ?_
                        try simp only [Act.put, List.setIfInBounds_toArray, List.set_cons_succ, List.set_cons_zero]
                        refine anyG_skip (i := 7) 183 rfl rfl (by kernel_rfl) (by kernel_rfl) (by kernel_rfl) rfl hw ?_
                        try simp only [Act.put, List.setIfInBounds_toArray, List.set_cons_succ, List.set_cons_zero]
                        refine anyG_skip (i := 8) 184 rfl rfl (by kernel_rfl) (by kernel_rfl) (by kernel_rfl) rfl hw ?_
                        try simp only [Act.put, List.setIfInBounds_toArray, List.set_cons_succ, List.set_cons_zero]
                        refine anyG_skip (i := 9) 185 rfl rfl (by kernel_rfl) (by kernel_rfl) (by kernel_rfl) rfl hw ?_
                        try simp only [Act.put, List.setIfInBounds_toArray, List.set_cons_succ, List.set_cons_zero]
                        refine anyG_skip (i := 10) 186 rfl rfl (by kernel_rfl) (by kernel_rfl) (by kernel_rfl) rfl hw ?_
                        try simp only [Act.put, List.setIfInBounds_toArray, List.set_cons_succ, List.set_cons_zero]
                        refine anyG_skip (i := 11) 187 rfl rfl (by kernel_rfl) (by kernel_rfl) (by kernel_rfl) rfl hw ?_
                        try simp only [Act.put, List.setIfInBounds_toArray, List.set_cons_succ, List.set_cons_zero]
                        refine anyG_skip (i := 12) 188 rfl rfl (by kernel_rfl) (by kernel_rfl) (by kernel_rfl) rfl hw ?_
                        try simp only [Act.put, List.setIfInBounds_toArray, List.set_cons_succ, List.set_cons_zero]
                        refine anyG_skip (i := 13) 189 rfl rfl (by kernel_rfl) (by kernel_rfl) (by kernel_rfl) rfl hw ?_
                        try simp only [Act.put, List.setIfInBounds_toArray, List.set_cons_succ, List.set_cons_zero]
                        refine anyG_skip (i := 14) 190 rfl rfl (by kernel_rfl) (by kernel_rfl) (by kernel_rfl) rfl hw ?_
                        try simp only [Act.put, List.setIfInBounds_toArray, List.set_cons_succ, List.set_cons_zero]
                        refine anyG_skip (i := 15) 191 rfl rfl (by kernel_rfl) (by kernel_rfl) (by kernel_rfl) rfl hw ?_
                        try simp only [Act.put, List.setIfInBounds_toArray, List.set_cons_succ, List.set_cons_zero]
                        refine anyG_skip (i := 16) 192 rfl rfl (by kernel_rfl) (by kernel_rfl) (by kernel_rfl) rfl hw ?_
                        try simp only [Act.put, List.setIfInBounds_toArray, List.set_cons_succ, List.set_cons_zero]
                        refine anyG_skip (i := 17) 193 rfl rfl (by kernel_rfl) (by kernel_rfl) (by kernel_rfl) rfl hw ?_
                        try simp only [Act.put, List.setIfInBounds_toArray, List.set_cons_succ, List.set_cons_zero]
                        refine anyG_skip (i := 18) 194 rfl rfl (by kernel_rfl) (by kernel_rfl) (by kernel_rfl) rfl hw ?_
                        try simp only [Act.put, List.setIfInBounds_toArray, List.set_cons_succ, List.set_cons_zero]
                        refine anyG_skip (i := 19) 195 rfl rfl (by kernel_rfl) (by kernel_rfl) (by kernel_rfl) rfl hw ?_
                        try simp only [Act.put, List.setIfInBounds_toArray, List.set_cons_succ, List.set_cons_zero]
                        refine anyG_take (i := 20) 196 (.bool false) rfl rfl (by kernel_rfl) (by kernel_rfl) (by kernel_rfl) rfl (fun W h => by go_simp) hw ?_
                        try simp only [Act.put, List.setIfInBounds_toArray, List.set_cons_succ, List.set_cons_zero]
                        refine anyG_take (i := 21) 197 (.bool false) rfl rfl (by kernel_rfl) (by kernel_rfl) (by kernel_rfl) rfl (fun W h => by go_simp) hw ?_
                        try simp only [Act.put, List.setIfInBounds_toArray, List.set_cons_succ, List.set_cons_zero]
                        refine anyG_take (i := 22) 198 (.int .i64 np) rfl rfl (by kernel_rfl) (by kernel_rfl) (by kernel_rfl) rfl (fun W h => by go_simp) hw ?_
                        try simp only [Act.put, List.setIfInBounds_toArray, List.set_cons_succ, List.set_cons_zero]
                        refine anyG_take (i := 23) 199 (.bool true) rfl rfl (by kernel_rfl) (by kernel_rfl) (by kernel_rfl) rfl (fun W h => by go_simp) hw ?_
                        try simp only [Act.put, List.setIfInBounds_toArray, List.set_cons_succ, List.set_cons_zero]
                        refine anyG_take (i := 24) 200 (.bool true) rfl rfl (by kernel_rfl) (by kernel_rfl) (by kernel_rfl) rfl (fun W h => by go_simp) hw ?_
                        try simp only [Act.put, List.setIfInBounds_toArray, List.set_cons_succ, List.set_cons_zero]
                        refine anyG_take (i := 25) 201 (.int .u8 a.toNat) rfl rfl (by kernel_rfl) (by kernel_rfl) (by kernel_rfl) rfl (fun W h => by go_simp) hw ?_
                        try simp only [Act.put, List.setIfInBounds_toArray, List.set_cons_succ, List.set_cons_zero]
                        refine anyG_take (i := 26) 202 (.int .i64 i) rfl rfl (by kernel_rfl) (by kernel_rfl) (by kernel_rfl) rfl (fun W h => by go_simp) hw ?_
                        try simp only [Act.put, List.setIfInBounds_toArray, List.set_cons_succ, List.set_cons_zero]
                        refine anyG_takeY (i := 27) 203 (.agg #[c0, c1, c2, c3, c4, c5, c6, c7, c8, c9, c10, c11, c12, c13, c14, c15]) rfl rfl (by kernel_rfl) (by kernel_rfl) (by kernel_rfl) (yieldsIf_load_mid rfl 67 (.tmp 10) rfl w2.heap.size 0 rfl [c0, c1, c2, c3, c4, c5, c6, c7, c8, c9, c10, c11, c12, c13, c14, c15] _ (fun W h => HCells.out W h) hu67 rfl hz67) hw ?_
                        try simp only [Act.put, List.setIfInBounds_toArray, List.set_cons_succ, List.set_cons_zero]
                        refine anyG_step (i := 28) rfl (by kernel_rfl) rfl (fun K hK => ?_)
                        go_simp
                        refine (HBare.out h1 _ hw).mono ?_
                        rintro e w8 ⟨rfl, hb1⟩
                        have hw := hw.trans (hb1.mono hw.size)
                        clear hb1
                        refine hK.out _ _ hw ?_
                        clear hK K
                        try simp only [Act.put, List.setIfInBounds_toArray, List.set_cons_succ, List.set_cons_zero]
                        refine anyG_take (i := 29) 205 (.bool false) rfl rfl (by kernel_rfl) (by kernel_rfl) (by kernel_rfl) rfl (fun W h => by go_simp) hw ?_
                        try simp only [Act.put, List.setIfInBounds_toArray, List.set_cons_succ, List.set_cons_zero]
                        refine anyG_take (i := 30) 206 (.bool false) rfl rfl (by kernel_rfl) (by kernel_rfl) (by kernel_rfl) rfl (fun W h => by go_simp) hw ?_
                        try simp only [Act.put, List.setIfInBounds_toArray, List.set_cons_succ, List.set_cons_zero]
                        refine anyG_take (i := 31) 207 (.bool false) rfl rfl (by kernel_rfl) (by kernel_rfl) (by kernel_rfl) rfl (fun W h => by go_simp) hw ?_
                        try simp only [Act.put, List.setIfInBounds_toArray, List.set_cons_succ, List.set_cons_zero]
                        refine anyG_done (by kernel_rfl) ?_
                        go_wp2_with fail
                        exact ⟨⟨i + 1, by go_num, by omega, hw⟩, by simp [intOf]; omega⟩
            · have q1 : ¬ (i : Int) < (L.length : Int) := by omega
              go_wp2_with fail
              refine (awake_true _ (HT.out _ (HW6.out _ HBi.out))).mono ?_
              rintro e w7 ⟨rfl, hb7⟩
              go_wp2_with fail
              go_ret
              exact ⟨rfl, (HW6.out _ HBi.out).trans (hb7.mono (HW6.out _ HBi.out).size)⟩

end Go.Proofs.YtgcnkagieedebaaDoor
