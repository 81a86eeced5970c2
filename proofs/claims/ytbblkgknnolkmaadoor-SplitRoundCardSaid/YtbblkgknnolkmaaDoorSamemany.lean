/- What the law's Same does, of several outputs. -/
import Derived.Test.YtbblkgknnolkmaaDoorSame
import Derived.Test.YtbblkgknnolkmaaDoorMidload
namespace Go.Proofs.YtbblkgknnolkmaaDoor
open Go.RowKit

theorem got_out {g : GotL} {S0 S1 S2 S3 : ByteArray} {k : Nat} (hk : k < 4) (e0 : strV (g.outs 0) = .string S0) (e1 : strV (g.outs 1) = .string S1) (e2 : strV (g.outs 2) = .string S2) (e3 : strV (g.outs 3) = .string S3) :
    ∃ S : ByteArray, strV (g.outs k) = .string S ∧ [Value.string S0, .string S1, .string S2, .string S3][k]? = some (.string S) := by
  obtain rfl | rfl | rfl | rfl : k = 0 ∨ k = 1 ∨ k = 2 ∨ k = 3 := by omega
  · exact ⟨S0, e0, rfl⟩
  · exact ⟨S1, e1, rfl⟩
  · exact ⟨S2, e2, rfl⟩
  · exact ⟨S3, e3, rfl⟩

set_option maxRecDepth 100000 in
set_option maxHeartbeats 8000000 in
theorem same_many {p q : Nat → Prop} (g : GotL) (iv wv : Value) (ins L : List Strm) (w : World) (hI : IsStrms p w iv ins) (hW : IsStrms q w wv L) (h4 : L.length ≤ 4) (h1 : ∀ (j : Nat) t, L[j]? = some t → g.outs j = t.bytes) (h2 : ∀ j, L.length ≤ j → g.outs j = []) (hC : ∀ t ∈ L, SameCase g ins t) :
    Calls Tryd.prog 18 #[.agg (gotA g), iv, wv] w (Pm.Gives w (.bool true)) := by
  obtain ⟨S0, S1, S2, S3, e0, e1, e2, e3, hlit⟩ := got_lit' g
  rw [hlit]
  have HI := Lib.hid (show ∀ W, Below w.heap.size w W → IsStrms p W iv ins from fun W hb => hI.below hb)
  have HW := Lib.hid (show ∀ W, Below w.heap.size w W → IsStrms q W wv L from fun W hb => hW.below hb)
  have hb0 : Below w.heap.size w (w.alloc (.cells #[.string S0, .string S1, .string S2, .string S3, .int .i64 g.need, .int .i64 g.err, .int .i64 g.held, .int .i64 (g.taken 0), .int .i64 (g.taken 1), .int .i64 (g.taken 2), .int .i64 (g.taken 3), .bool false] 42)) := (Below.refl _ _).alloc (Nat.le_refl _) _
  have hgW := heap_alloc_last w (.cells #[.string S0, .string S1, .string S2, .string S3, .int .i64 g.need, .int .i64 g.err, .int .i64 g.held, .int .i64 (g.taken 0), .int .i64 (g.taken 1), .int .i64 (g.taken 2), .int .i64 (g.taken 3), .bool false] 42)
  obtain ⟨ai, ci, rfl, -⟩ := hI
  obtain ⟨aw, cw, rfl, -⟩ := hW
  have HC := Lib.hid hC
  have H1 := Lib.hid h1
  have H2 := Lib.hid h2
  have HGo := Lib.hid (show ∀ k, k < 4 → ∃ S : ByteArray, strV (g.outs k) = .string S ∧ [Value.string S0, .string S1, .string S2, .string S3][k]? = some (.string S) from fun k hk => got_out hk e0 e1 e2 e3)
  clear hlit e0 e1 e2 e3 hC h1 h2
  go_enter Tryd.func18, Tryd.ntmps18
  go_wp2_with fail
  generalize w.alloc (.cells #[.string S0, .string S1, .string S2, .string S3, .int .i64 g.need, .int .i64 g.err, .int .i64 g.held, .int .i64 (g.taken 0), .int .i64 (g.taken 1), .int .i64 (g.taken 2), .int .i64 (g.taken 3), .bool false] 42) = W0 at hb0 hgW ⊢
  have HB0 := Lib.hid hb0
  have HGW := Lib.hid hgW
  clear hb0 hgW
  go_loopw [7, 8] (fun iv _ wr => ∃ k : Nat, iv = .int .i64 k ∧ k ≤ 4 ∧ wr = W0) (fun i _ _ => 4 - (intOf i).toNat)
  case atStart => exact ⟨0, rfl, Nat.zero_le _, rfl⟩
  case round =>
    obtain ⟨k, rfl, hk, rfl⟩ := hrel
    rename World => W0
    by_cases hk4 : k < 4
    · have q0 : (0 : Int) ≤ (k : Int) := by omega
      have q4 : (k : Int) < 4 := by omega
      obtain ⟨S, hS, hSk⟩ := HGo.out k hk4
      have c0 : W0.cell? ⟨w.heap.size, k, none⟩ = some (.string S) := by
        rw [cell_of_row _ _ _ _ _ _ HGW.out, ← hSk]
        obtain rfl | rfl | rfl | rfl : k = 0 ∨ k = 1 ∨ k = 2 ∨ k = 3 := by omega
        all_goals rfl
      clear hSk
      by_cases hl : k < L.length
      · obtain ⟨t, ht⟩ : ∃ t, L[k]? = some t := ⟨L[k]'hl, List.getElem?_eq_getElem hl⟩
        have q1 : (k : Int) < (L.length : Int) := by omega
        obtain ⟨_, _, e, hcs⟩ := HW.out _ HB0.out
        cases e
        obtain ⟨gb, off, bv, rfl, -, d0, -, -, -, -, hby⟩ := hcs k t ht
        have hcv := conv_any hby
        rw [← H1.out k t ht, hS] at hcv
        obtain ⟨ab, cb, rfl, -, -⟩ := hby
        clear hcs ht hS
        go_wp2_with fail
        go_roundw
        case rel => exact ⟨k + 1, by go_num, by omega, trivial⟩
        case measure => simp [intOf]; omega
      · have q1 : ¬ (k : Int) < (L.length : Int) := by omega
        have hz := H2.out k (by omega)
        rw [hz] at hS
        obtain rfl : S = ByteArray.empty := (Value.string.inj hS).symm
        clear hS hz
        go_wp2_with fail
        go_roundw
        case rel => exact ⟨k + 1, by go_num, by omega, trivial⟩
        case measure => simp [intOf]; omega
    · obtain rfl : k = 4 := by omega
      clear hk4
      go_wp2_with fail
      go_loopw [9, 10] (fun iv _ wr => ∃ k : Nat, iv = .int .i64 k ∧ k ≤ L.length ∧ Below W0.heap.size W0 wr) (fun i _ _ => L.length - (intOf i).toNat)
      case atStart => exact ⟨0, rfl, Nat.zero_le _, Below.refl _ _⟩
      case round =>
        obtain ⟨k, rfl, hk, hbr⟩ := hrel
        have HBr := Lib.hid hbr
        have hbw := HB0.out.trans (hbr.mono HB0.out.size)
        have HBw := Lib.hid hbw
        have hgr := (hbr.block w.heap.size (Array.getElem?_eq_some_iff.1 HGW.out).1).trans HGW.out
        by_cases hl : k < L.length
        · obtain ⟨t, ht⟩ : ∃ t, L[k]? = some t := ⟨L[k]'hl, List.getElem?_eq_getElem hl⟩
          have hcase := HC.out t (List.mem_of_getElem? ht)
          have HCase := Lib.hid hcase
          have q0 : (0 : Int) ≤ (k : Int) := by omega
          have q1 : (k : Int) < (L.length : Int) := by omega
          obtain ⟨_, _, e, hcs⟩ := HW.out _ hbw
          cases e
          obtain ⟨gb, off, bv, rfl, -, d0, d1, d2, d3, d4, hby⟩ := hcs k t ht
          have hmid := range5 d0 d1 d2 d3 d4
          obtain ⟨ab, cb, rfl, -, -⟩ := hby
          clear hcs ht hbr hcase d0 d1 d2 d3 d4
          rename World => wr
          go_upto_region 15 with (first | (refine wpList_load_mid rfl 61 (.tmp 41) rfl gb (off + k * 5) rfl _ _ hmid Tryd.underlying61 rfl (by kernel_rfl) ?_))
          have hb1 : Below wr.heap.size wr (wr.alloc (.cells #[.slice ab t.bytes.length cb, .bool t.ended, .int .i64 t.code, .int .i64 t.stage, .int .i64 t.id] 61)) := (Below.refl _ _).alloc (Nat.le_refl _) _
          have ht1 := heap_alloc_last wr (.cells #[.slice ab t.bytes.length cb, .bool t.ended, .int .i64 t.code, .int .i64 t.stage, .int .i64 t.id] 61)
          have hg1 := (hb1.block w.heap.size (Array.getElem?_eq_some_iff.1 hgr).1).trans hgr
          generalize wr.alloc (.cells #[.slice ab t.bytes.length cb, .bool t.ended, .int .i64 t.code, .int .i64 t.stage, .int .i64 t.id] 61) = W1 at hb1 hg1 ht1 ⊢
          have n4 : W1.cell? ⟨w.heap.size, 1 + 3, none⟩ = some (.int .i64 g.need) := by rw [cell_of_row _ _ _ _ _ _ hg1]; rfl
          have n5 : W1.cell? ⟨w.heap.size, 5, none⟩ = some (.int .i64 g.err) := by rw [cell_of_row _ _ _ _ _ _ hg1]; rfl
          have s1 : W1.cell? ⟨wr.heap.size, 1, none⟩ = some (.bool t.ended) := by rw [cell_of_row _ _ _ _ _ _ ht1]; rfl
          have s2 : W1.cell? ⟨wr.heap.size, 2, none⟩ = some (.int .i64 t.code) := by rw [cell_of_row _ _ _ _ _ _ ht1]; rfl
          have s3 : W1.cell? ⟨wr.heap.size, 3, none⟩ = some (.int .i64 t.stage) := by rw [cell_of_row _ _ _ _ _ _ ht1]; rfl
          have s4 : W1.cell? ⟨wr.heap.size, 4, none⟩ = some (.int .i64 t.id) := by rw [cell_of_row _ _ _ _ _ _ ht1]; rfl
          have HB1 := Lib.hid (HBr.out.trans (hb1.mono HBr.out.size))
          have HBw1 := Lib.hid (hbw.trans (hb1.mono hbw.size))
          have HT1 := Lib.hid ht1
          clear hb1 hg1 ht1 hmid hbw hgr
          rcases HCase.out with ⟨d1, d2, d3⟩ | ⟨d1, d2, d3, d4⟩ | ⟨d1, d2, m, i, d3, d4, d5, d6, d7⟩
          · rw [d1] at s1
            rw [d2] at n4
            rw [d3] at n5
            clear d1 d2 d3
            go_wp2_with fail
            go_roundw
            case rel =>
              iterate 66 (apply Exists.intro)
              exact ⟨⟨k + 1, by go_num, by omega, HB1.out⟩, rfl⟩
            case measure => simp [intOf]; omega
          · rw [d1] at s1
            rw [d2] at n4
            rw [d4] at s2
            have r1 : (g.err != 0) = true := by simpa using d3
            have r2 : (g.err == 0) = false := by simpa using d3
            clear d1 d2 d3 d4
            go_wp2_with fail
            go_roundw
            case rel =>
              iterate 66 (apply Exists.intro)
              exact ⟨⟨k + 1, by go_num, by omega, HB1.out⟩, rfl⟩
            case measure => simp [intOf]; omega
          · rw [d1] at s1
            rw [d2] at n5
            rw [d3] at n4
            rw [d5] at s2
            rw [d6] at s3
            rw [d7] at s4
            obtain ⟨_, _, e, hcs⟩ := HI.out W1 HBw1.out
            cases e
            obtain ⟨gi, oi, bi, rfl, -, -, -, i2, i3, i4, -⟩ := hcs m i d4
            have hm : m < ins.length := (List.getElem?_eq_some_iff.1 d4).1
            have r1 : (0 : Int) ≤ (m : Int) := by omega
            have r2 : (m : Int) < (ins.length : Int) := by omega
            have r3 : ¬ (ins.length : Int) ≤ (m : Int) := by omega
            have r4 : ¬ (m : Int) < 0 := by omega
            have r5 : ((m : Int) != -1) = true := by simp
            clear d1 d2 d3 d4 d5 d6 d7 hcs
            have hneq := neq_fault i.code i.stage i.id
            go_upto_region 21 with fail
            go_region
            go_wp2_with fail
            go_roundw
            case rel => exact ⟨k + 1, by go_num, by omega, HB1.out.drew⟩
            case measure => simp [intOf]; omega
        · obtain rfl : k = L.length := by omega
          have q1 : ¬ (L.length : Int) < (L.length : Int) := by omega
          clear hbr hbw hgr
          go_wp2_with fail
          go_ret
          exact ⟨rfl, HBw.out⟩

end Go.Proofs.YtbblkgknnolkmaaDoor
