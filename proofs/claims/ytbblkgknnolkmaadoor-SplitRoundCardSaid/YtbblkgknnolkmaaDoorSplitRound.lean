/- SplitRound's walk. -/
import Derived.Test.YtbblkgknnolkmaaDoorSplitTold
import Derived.Test.YtbblkgknnolkmaaDoorSplitLines
import Derived.Test.YtbblkgknnolkmaaDoorSplitDenote
import Derived.Test.YtbblkgknnolkmaaDoorGchunks
import Derived.Test.YtbblkgknnolkmaaDoorStrparts
import Derived.Test.YtbblkgknnolkmaaDoorTakeskit
import Derived.Test.YtbblkgknnolkmaaDoorRA
import Derived.Deep.RegionHeld3
namespace Go.Proofs.YtbblkgknnolkmaaDoor
open Go.RowKit

theorem nil_strms (w : World) : IsStrms (· < w.heap.size) w (.slice none 0 0) [] := ⟨none, 0, rfl, fun j t h => by simp at h⟩
theorem split_takeE (N : Nat) (h1 : 1 ≤ N) (h4 : N ≤ 4) : takeE 16 16 N [] [] = 0 := by
  obtain rfl | rfl | rfl | rfl : N = 1 ∨ N = 2 ∨ N = 3 ∨ N = 4 := by omega
  all_goals decide
/-- What comes to the outputs of a whole input. -/
theorem split_whole (N : Nat) (x : List UInt8) (cuts : List Int) (hok : splitOk N [] []) (hx : x.length ≤ 4000) (hall : (readL x true (0, 0, 0)).2.1 = true) (D : DS (LS Nat)) (hD : D = drive (splitF N [] []) [⟨x, true, 0, 0, 0⟩] cuts 100000 0 (start (splitF N [] []) (splitI N [] []))) :
    (∀ k, D.got.outs k = joinL (shareL N k 0 (readL x true (0, 0, 0)).1)) ∧ (decide (D.got.err = 0) && decide (D.got.need = -1)) = true := by
  obtain ⟨d1, d2, d3⟩ := split_drive N [] [] ⟨x, true, 0, 0, 0⟩ cuts hok hx
  rw [← hD] at d1 d2 d3
  refine ⟨fun k => by rw [d1, split_outs0, outN_ok hok.1 hok.2], ?_⟩
  obtain ⟨-, f2, -⟩ := run_final (splitT (outN N)) (fun _ _ => rfl) 0 x true (0, 0, 0)
  obtain ⟨q1, q2⟩ := f2 hall
  have hn : (splitFin N [] [] ⟨x, true, 0, 0, 0⟩).need = needOf (finalB (splitT (outN N)) ⟨true, false, [], 0⟩ x true).1 := rfl
  have he : (splitFin N [] [] ⟨x, true, 0, 0, 0⟩).err = (finalB (splitT (outN N)) ⟨true, false, [], 0⟩ x true).2.2 := rfl
  rw [d2, d3, hn, he, q2, needOf, q1]
  rfl

/-- What is left of the outputs when i lines have been taken. -/
def leftF (N : Nat) (L : Lines) (i : Nat) : Nat → List UInt8 := fun k => joinL (shareL N k i (L.drop i))
theorem leftF_next {N : Nat} {L : Lines} {i : Nat} {l : List UInt8} (h : L[i]? = some l) : leftF N L i = fun j => if j = i % N then (l ++ [10]) ++ leftF N L (i + 1) (i % N) else leftF N L (i + 1) j := by
  funext j
  unfold leftF
  rw [List.drop_eq_getElem_cons (List.getElem?_eq_some_iff.1 h).1, (List.getElem?_eq_some_iff.1 h).2, shareL]
  by_cases hj : i % N = j
  · subst hj
    rw [if_pos rfl, if_pos rfl]
    simp [joinL]
  · rw [if_neg hj, if_neg (Ne.symm hj)]
/-- In block G lies what was told: the outputs read so. -/
def GotAt (g : GotL) (f : Nat → List UInt8) (G : Nat) (w : World) : Prop :=
  w.heap[G]? = some (.cells #[strV (f 0), strV (f 1), strV (f 2), strV (f 3), .int .i64 g.need, .int .i64 g.err, .int .i64 g.held, .int .i64 (g.taken 0), .int .i64 (g.taken 1), .int .i64 (g.taken 2), .int .i64 (g.taken 3), .bool false] 42 (0, 0))
section
variable {g : GotL} {f : Nat → List UInt8} {G : Nat} {w : World}
theorem GotAt.cell (h : GotAt g f G w) {k : Nat} (hk : k < 4) : w.cell? ⟨G, k, none⟩ = some (strV (f k)) := by
  rw [cell_of_row _ _ _ _ _ _ h]
  obtain rfl | rfl | rfl | rfl : k = 0 ∨ k = 1 ∨ k = 2 ∨ k = 3 := by omega
  all_goals rfl
theorem GotAt.froz (h : GotAt g f G w) (o : Nat) : w.frozen? ⟨G, o, none⟩ = false := by
  unfold GotAt at h
  simp [World.frozen?, h]
theorem GotAt.store (h : GotAt g f G w) {k : Nat} (hk : k < 4) (y : List UInt8) : GotAt g (fun j => if j = k then y else f j) G (w.setCell ⟨G, k, none⟩ (strV y)) := by
  unfold GotAt
  rw [setCell_row h]
  obtain rfl | rfl | rfl | rfl : k = 0 ∨ k = 1 ∨ k = 2 ∨ k = 3 := by omega
  all_goals simp
theorem GotAt.drew (h : GotAt g f G w) : GotAt g f G w.drew := h
theorem GotAt.row (h : GotAt g f G w) : w.rangeAt G 0 [strV (f 0), strV (f 1), strV (f 2), strV (f 3)] := fun j v hv => by
  rw [Nat.zero_add, cell_of_row _ _ _ _ _ _ h]
  rcases j with _ | _ | _ | _ | j
  · exact hv
  · exact hv
  · exact hv
  · exact hv
  · simp at hv
end

set_option maxRecDepth 100000 in
set_option maxHeartbeats 16000000 in
theorem roundLaw_any (n : Int) (xv cv : Value) (x : List UInt8) (cuts : List Int) (w : World) (hT : Pm.Tab w) (hX : IsBytes (· < w.heap.size) w xv x) (hC : IsInts (· < w.heap.size) w cv cuts) :
    Calls Tryd.prog 9 #[.int .i64 n, xv, cv] w (Pm.Gives w (.bool true)) := by
  have HT := Lib.hid (show ∀ W, Below w.heap.size w W → Pm.Tab W from fun W hb => hT.below hb)
  have HX := Lib.hid (show ∀ W, Below w.heap.size w W → IsBytes (· < w.heap.size) W xv x from fun W hb => hX.below hb)
  have HC := Lib.hid (show ∀ W, Below w.heap.size w W → IsInts (· < w.heap.size) W cv cuts from fun W hb => hC.below hb)
  obtain ⟨ax, cx, rfl, -, -⟩ := id hX
  obtain ⟨ac, cc, rfl, -⟩ := id hC
  clear hT hX hC
  go_enter Tryd.func9, Tryd.ntmps9
  obtain ⟨H, hH⟩ : ∃ H, H = heavyB [] [] [] [cuts] := ⟨_, rfl⟩
  have HH := Lib.hid hH
  clear hH
  go_wp2_with fail
  have hbox : Below w.heap.size w (w.alloc (.cells #[.int .i64 16, .int .i64 n, .slice none 0 0, .slice none 0 0] 24)) := (Below.refl _ _).alloc (Nat.le_refl _) _
  have hbx2 : Below w.heap.size w ((w.alloc (.cells #[.int .i64 16, .int .i64 n, .slice none 0 0, .slice none 0 0] 24)).alloc (.cells #[.slice ac cuts.length cc] 37)) := hbox.alloc (by simp) _
  have hcc := ints_list (w.alloc (.cells #[.int .i64 16, .int .i64 n, .slice none 0 0, .slice none 0 0] 24)) (.slice ac cuts.length cc) cuts (fun _ => True) trivial ((HC.out _ hbox).mono (fun _ _ _ => trivial)) (0, 0)
  rw [World.size_alloc] at hcc
  have hheavy := heavy_any 16 n (.slice none 0 0) (.slice none 0 0) (.slice none 0 0) _ [] [] [] [cuts] _ (pm_nil _) (pm_nil _) (nil_strms _) hcc (by simp)
  unfold Pm.parV at hheavy
  refine hheavy.mono ?_
  clear hheavy hcc
  rintro e w1 ⟨rfl, hb1⟩
  obtain ⟨c0, c1, c2, c3⟩ := box_cells (((Below.refl _ _).alloc (Nat.le_refl _) _).trans (hb1.mono (by simp)))
  have hb := hbx2.trans (hb1.mono hbx2.size)
  have HW := Lib.hid hb
  have HBX := Lib.hid (show ∀ W, Below w1.heap.size w1 W → W.cell? ⟨w.heap.size, 0, none⟩ = some (.int .i64 16) ∧ W.cell? ⟨w.heap.size, 1, none⟩ = some (.int .i64 n) ∧ W.cell? ⟨w.heap.size, 2, none⟩ = some (.slice none 0 0) ∧ W.cell? ⟨w.heap.size, 3, none⟩ = some (.slice none 0 0) from fun W hb => ⟨Pm.Below.cell hb c0, Pm.Below.cell hb c1, Pm.Below.cell hb c2, Pm.Below.cell hb c3⟩)
  clear hbox hbx2 hb1 hb c0 c1 c2 c3
  rw [← HH.out]
  cases H with
  | true =>
    go_wp2_with fail
    refine (awake_true _ (HT.out _ HW.out)).mono ?_
    rintro e w2 ⟨rfl, hb2⟩
    go_wp2_with fail
    go_ret
    exact ⟨rfl, HW.out.trans (hb2.mono HW.out.size)⟩
  | false =>
    obtain ⟨-, -, -, -, sC⟩ := heavy_no HH.out.symm
    have hcl := sC cuts (by simp)
    clear sC
    by_cases hx : (2000 : Int) < (x.length : Int)
    · go_wp2_with fail
      refine (awake_true _ (HT.out _ HW.out)).mono ?_
      rintro e w2 ⟨rfl, hb2⟩
      go_wp2_with fail
      go_ret
      exact ⟨rfl, HW.out.trans (hb2.mono HW.out.size)⟩
    by_cases h0 : n < 1
    · go_wp2_with fail
      refine (awake_true _ (HT.out _ HW.out)).mono ?_
      rintro e w2 ⟨rfl, hb2⟩
      go_wp2_with fail
      go_ret
      exact ⟨rfl, HW.out.trans (hb2.mono HW.out.size)⟩
    by_cases h9 : 4 < n
    · go_wp2_with fail
      refine (awake_true _ (HT.out _ HW.out)).mono ?_
      rintro e w2 ⟨rfl, hb2⟩
      go_wp2_with fail
      go_ret
      exact ⟨rfl, HW.out.trans (hb2.mono HW.out.size)⟩
    obtain ⟨N, rfl⟩ : ∃ N : Nat, n = N := ⟨n.toNat, by omega⟩
    have hN1 : 1 ≤ N := by omega
    have hN4 : N ≤ 4 := by omega
    go_wp2_with fail
    refine (linesOf_any _ x w1 (HX.out _ HW.out) (by omega)).mono ?_
    rintro e w2 ⟨la, lc, rfl, hlc, hTx, hb2⟩
    have hr64 := (readL_lines x true (0, 0, 0)).1
    have hrl := (readL_lines x true (0, 0, 0)).2
    obtain ⟨L, hL⟩ : ∃ L, L = (readL x true (0, 0, 0)).1 := ⟨_, rfl⟩
    obtain ⟨all, hall⟩ : ∃ all, all = (readL x true (0, 0, 0)).2.1 := ⟨_, rfl⟩
    rw [← hL] at hTx hlc hr64 hrl ⊢
    rw [← hall]
    have HL := Lib.hid hL
    have HAll := Lib.hid hall
    have HTx := Lib.hid hTx
    have HR := Lib.hid hr64
    have HW2 := Lib.hid (HW.out.trans (hb2.mono HW.out.size))
    have HB2 := Lib.hid hb2
    clear hL hall hTx hb2 hr64
    cases all with
    | false =>
      go_wp2_with fail
      refine (awake_true _ (HT.out _ HW2.out)).mono ?_
      rintro e w3 ⟨rfl, hb3⟩
      go_wp2_with fail
      go_ret
      exact ⟨rfl, HW2.out.trans (hb3.mono HW2.out.size)⟩
    | true =>
      obtain ⟨c0, c1, c2, c3⟩ := HBX.out _ HB2.out
      go_wp2_with fail
      have hbA : Below w.heap.size w (w2.alloc (.cells #[.slice ax x.length cx] 22)) := HW2.out.alloc HW2.out.size _
      have hpc := pieces_new w2 (.slice ax x.length cx) x (· < (w2.alloc (.cells #[.slice ax x.length cx] 22)).heap.size) (by simp) ((HX.out _ HW2.out).mono (fun k hk _ => by simp; omega)) (0, 0)
      have htold := told_any N (.slice none 0 0) (.slice none 0 0) (.slice ac cuts.length cc) _ [] [] x cuts _ (HT.out _ hbA) (pm_nil _) (pm_nil _) hpc ((HC.out _ hbA).mono (fun k hk _ => hk)) (split_takeE N hN1 hN4) ⟨hN1, hN4⟩ (by simp) (by simp) (by omega) (by omega)
      unfold Pm.parV at htold
      refine htold.mono ?_
      clear htold hpc
      rintro e w3 ⟨rfl, hb3⟩
      obtain ⟨D, hD⟩ : ∃ D, D = drive (splitF N [] []) [⟨x, true, 0, 0, 0⟩] cuts 100000 0 (start (splitF N [] []) (splitI N [] [])) := ⟨_, rfl⟩
      rw [← hD]
      obtain ⟨o0, ofine⟩ := split_whole N x cuts ⟨hN1, hN4⟩ (by omega) HAll.out.symm D hD
      rw [ofine]
      have hlit : gotA D.got = #[strV (leftF N L 0 0), strV (leftF N L 0 1), strV (leftF N L 0 2), strV (leftF N L 0 3), .int .i64 D.got.need, .int .i64 D.got.err, .int .i64 D.got.held, .int .i64 (D.got.taken 0), .int .i64 (D.got.taken 1), .int .i64 (D.got.taken 2), .int .i64 (D.got.taken 3), .bool false] := by
        unfold leftF
        simp only [List.drop_zero]
        rw [HL.out, ← o0, ← o0, ← o0, ← o0]
        rfl
      rw [hlit]
      have HW3 := Lib.hid (hbA.trans (hb3.mono hbA.size))
      have HB23 := Lib.hid (((Below.refl w2.heap.size w2).alloc (Nat.le_refl _) (.cells #[.slice ax x.length cx] 22)).trans (hb3.mono (by simp)))
      clear hbA hb3 hD o0 ofine hlit c0 c1 c2 c3
      obtain ⟨g, hg⟩ : ∃ g : GotL, g = D.got := ⟨_, rfl⟩
      rw [← hg]
      clear hg
      obtain ⟨s0, e0⟩ : ∃ S : ByteArray, strV (leftF N L 0 0) = .string S := ⟨_, rfl⟩
      obtain ⟨s1, e1⟩ : ∃ S : ByteArray, strV (leftF N L 0 1) = .string S := ⟨_, rfl⟩
      obtain ⟨s2, e2⟩ : ∃ S : ByteArray, strV (leftF N L 0 2) = .string S := ⟨_, rfl⟩
      obtain ⟨s3, e3⟩ : ∃ S : ByteArray, strV (leftF N L 0 3) = .string S := ⟨_, rfl⟩
      rw [e0, e1, e2, e3]
      have HE := Lib.hid (And.intro e0 (And.intro e1 (And.intro e2 e3)))
      clear e0 e1 e2 e3
      go_upto_region 8 with fail
      have hr4 := heap_alloc_last w3 (.cells #[.string s0, .string s1, .string s2, .string s3, .int .i64 g.need, .int .i64 g.err, .int .i64 g.held, .int .i64 (g.taken 0), .int .i64 (g.taken 1), .int .i64 (g.taken 2), .int .i64 (g.taken 3), .bool false] 42)
      have hb4 : Below w3.heap.size w3 (w3.alloc (.cells #[.string s0, .string s1, .string s2, .string s3, .int .i64 g.need, .int .i64 g.err, .int .i64 g.held, .int .i64 (g.taken 0), .int .i64 (g.taken 1), .int .i64 (g.taken 2), .int .i64 (g.taken 3), .bool false] 42)) := (Below.refl _ _).alloc (Nat.le_refl _) _
      generalize w3.alloc (.cells #[.string s0, .string s1, .string s2, .string s3, .int .i64 g.need, .int .i64 g.err, .int .i64 g.held, .int .i64 (g.taken 0), .int .i64 (g.taken 1), .int .i64 (g.taken 2), .int .i64 (g.taken 3), .bool false] 42) = W4 at hr4 hb4 ⊢
      have hat : GotAt g (leftF N L 0) w3.heap.size W4 := by
        obtain ⟨e0, e1, e2, e3⟩ := HE.out
        unfold GotAt
        rw [e0, e1, e2, e3]
        exact hr4
      have HAt := Lib.hid hat
      have HB4 := Lib.hid hb4
      have HTl := Lib.hid (show ∀ W, Below w3.heap.size w3 W → IsTexts (w1.heap.size ≤ ·) W (.slice la L.length lc) L from fun W hb => HTx.out.below (HB23.out.trans (hb.mono HB23.out.size)))
      have HWW := Lib.hid (show ∀ W, Below w3.heap.size w3 W → Below w.heap.size w W from fun W hb => HW3.out.trans (hb.mono HW3.out.size))
      clear hr4 hb4 hat HE
      go_wp2_with fail
      go_loopw [12] (fun iv wr => ∃ i : Nat, iv = .int .i64 i ∧ i ≤ L.length ∧ GotAt g (leftF N L i) w3.heap.size wr ∧ Below w3.heap.size w3 wr) (fun iv _ => L.length - (intOf iv).toNat)
      case atStart => exact ⟨0, rfl, Nat.zero_le _, HAt.out, HB4.out⟩
      case round =>
        obtain ⟨i, rfl, hiL, hat, hbr⟩ := hrel
        have HBr := Lib.hid hbr
        by_cases hi : i < L.length
        · obtain ⟨l, hl⟩ : ∃ l, L[i]? = some l := ⟨L[i]'hi, List.getElem?_eq_getElem hi⟩
          have hl64 := HR.out l (List.mem_of_getElem? hl)
          obtain ⟨k, hk⟩ : ∃ k, k = i % N := ⟨_, rfl⟩
          have hkN : k < N := by rw [hk]; exact Nat.mod_lt _ (by omega)
          have hrem : (i : Int).tmod (N : Int) = (k : Int) := by
            rw [hk, Int.tmod_eq_emod_of_nonneg (by omega), Int.natCast_emod]
          have hnext := leftF_next (N := N) hl
          rw [← hk] at hnext
          obtain ⟨T, hT⟩ : ∃ T, T = leftF N L (i + 1) k := ⟨_, rfl⟩
          rw [← hT] at hnext
          obtain ⟨Sl, hSl⟩ : ∃ S : ByteArray, strV l = .string S := ⟨_, rfl⟩
          obtain ⟨SL, hSL⟩ : ∃ SL : ByteArray, SL = Sl ++ { data := #[10] } := ⟨_, rfl⟩
          have hSLs : strV (l ++ [10]) = .string SL := by rw [hSL]; exact strV_add hSl strV_end
          obtain ⟨S, hS⟩ : ∃ S : ByteArray, strV ((l ++ [10]) ++ T) = .string S := ⟨_, rfl⟩
          obtain ⟨t1, t2, t3⟩ := str_parts hSLs hS
          have zl := strV_size hSl
          have hck := hat.cell (k := k) (by omega)
          rw [hnext] at hck
          simp only [if_true] at hck
          rw [hS] at hck
          have z := hat.froz k
          have hst := hat.store (k := k) (by omega) T
          rw [t3] at hst
          have hleft : (fun j => if j = k then T else leftF N L i j) = leftF N L (i + 1) := by
            funext j
            by_cases hj : j = k
            · rw [if_pos hj, hj, hT]
            · rw [if_neg hj, hnext]
              simp only [if_neg hj]
          rw [hleft] at hst
          have hb5 := hbr.trans ((Frame.cell wr ⟨w3.heap.size, k, none⟩ (.string (S.extract SL.size S.size))).below hbr.size (fun j e => by have e' : j = w3.heap.size := e; omega))
          obtain ⟨_, _, e, hcl⟩ := HTl.out _ hbr
          cases e
          obtain ⟨gl, ol, rfl, -, hl0⟩ := hcl i l hl
          rw [hSl] at hl0
          have HSL := Lib.hid hSL
          have HSt := Lib.hid hst
          have HB5 := Lib.hid hb5
          have p1 : (i : Int) < (L.length : Int) := by omega
          have p0 : (0 : Int) ≤ (i : Int) := by omega
          have p2 : (0 : Int) ≤ (k : Int) := by omega
          have p3 : (k : Int) < 4 := by omega
          have p4 : ¬ (N : Int) = 0 := by omega
          have p5 : ((N : Int) == 0) = false := by simp; omega
          have u1 : ¬ (S.size : Int) < (SL.size : Int) := by omega
          have u2 : ¬ S.size < SL.size := by omega
          have u3 : (SL.size : Int) ≤ (S.size : Int) := by omega
          have u4 : (0 : Int) ≤ (SL.size : Int) := by omega
          have a1 : (9223372036854775807 < Sl.size + 1) = False := by simp; omega
          clear hl hk hnext hT hSl hSLs hS t3 hst hleft hb5 hcl hat hbr hSL
          go_upto_region 12 with fail
          rw [← HSL.out]
          clear hl0 a1
          go_upto_region 15 with fail
          have p6 : ¬ N = 0 := by omega
          go_wp2_with fail
          go_region
          go_wp2_with fail
          exact ⟨⟨i + 1, by go_num, by omega, HSt.out.drew, HB5.out.drew⟩, by simp [intOf]; omega⟩
        · obtain rfl : i = L.length := by omega
          have hz : ∀ k, strV (leftF N L L.length k) = .string ByteArray.empty := fun k => by
            unfold leftF
            rw [List.drop_length]
            rfl
          have k0 := hat.cell (k := 0) (by omega)
          have k1 := hat.cell (k := 1) (by omega)
          have k2 := hat.cell (k := 2) (by omega)
          have k3 := hat.cell (k := 3) (by omega)
          rw [hz] at k0 k1 k2 k3
          have q1 : ¬ (L.length : Int) < (L.length : Int) := by omega
          have hbw := HWW.out _ hbr
          have HBW := Lib.hid hbw
          have heq := fun W => (show (Op.equalIn 10000 39 (.agg #[.string ByteArray.empty, .string ByteArray.empty, .string ByteArray.empty, .string ByteArray.empty]) (.agg #[.string { data := #[] }, .string { data := #[] }, .string { data := #[] }, .string { data := #[] }])).run Tryd.prog W = .ok true W from eq_outs2 _ _ _ _ W)
          clear hz hat hbr hbw hi
          go_wp2_with fail
          refine (awake_true _ (HT.out _ HBW.out)).mono ?_
          rintro e w5 ⟨rfl, hb5⟩
          go_wp2_with fail
          go_ret
          exact ⟨rfl, HBW.out.trans (hb5.mono HBW.out.size)⟩

end Go.Proofs.YtbblkgknnolkmaaDoor
