/- JoinPairs's walk. -/
import Derived.Test.YtchepmikbnnnhaaDoorJoinTold
import Derived.Test.YtchepmikbnnnhaaDoorJoinHeavy
import Derived.Test.YtchepmikbnnnhaaDoorJoinLines
import Derived.Test.YtchepmikbnnnhaaDoorJoinRises
import Derived.Test.YtchepmikbnnnhaaDoorTakeskit
import Derived.Test.YtchepmikbnnnhaaDoorStrparts
namespace Go.Proofs.YtchepmikbnnnhaaDoor
open Go.RowKit

theorem nil_strms (w : World) : IsStrms (· < w.heap.size) w (.slice none 0 0) [] := ⟨none, 0, rfl, fun j t h => by simp at h⟩
theorem join_takeE (N : Nat) (a : UInt8) (h1 : 1 ≤ N) (h14 : N ≤ 14) (ha : a ≠ 10) : takeE 14 14 N [a] [] = 0 := by
  have hc : N = 1 ∨ N = 2 ∨ N = 3 ∨ N = 4 ∨ N = 5 ∨ N = 6 ∨ N = 7 ∨ N = 8 ∨ N = 9 ∨ N = 10 ∨ N = 11 ∨ N = 12 ∨ N = 13 ∨ N = 14 := by omega
  rcases hc with rfl | rfl | rfl | rfl | rfl | rfl | rfl | rfl | rfl | rfl | rfl | rfl | rfl | rfl
  all_goals simp [takeE, Pm.checkE, Pm.fits, Pm.kindOf, Pm.kinds, Pm.mayBe, Pm.tooMuch, ha]
theorem two_pieces {W : World} {xv yv : Value} {x y : List UInt8} {p : Nat → Prop} (hX : IsBytes p W xv x) (hY : IsBytes p W yv y) : IsPieces (· < (W.alloc (.cells #[xv, yv] 22)).heap.size) (W.alloc (.cells #[xv, yv] 22)) (.slice (some ⟨W.heap.size, 0, none⟩) 2 2) [x, y] := by
  have hb : Below W.heap.size W (W.alloc (.cells #[xv, yv] 22)) := (Below.refl _ _).alloc (Nat.le_refl _) _
  have hall : ∀ {v : Value} {z : List UInt8}, IsBytes p W v z → IsBytes (· < (W.alloc (.cells #[xv, yv] 22)).heap.size) (W.alloc (.cells #[xv, yv] 22)) v z := fun {v z} h => by
    obtain ⟨a, cap, rfl, hc, hx⟩ := h.below hb
    exact ⟨a, cap, rfl, hc, fun j c hj => by
      obtain ⟨gb, off, e, -, hh⟩ := hx j c hj
      exact ⟨gb, off, e, block_lt_of_cell hh, hh⟩⟩
  refine ⟨_, 2, rfl, fun j c hj => ?_⟩
  match j, hj with
  | 0, hj =>
    simp at hj
    subst hj
    exact ⟨_, 0, xv, rfl, by simp, by rw [cell_of_row _ _ _ _ _ _ (heap_alloc_last W _)]; rfl, hall hX⟩
  | 1, hj =>
    simp at hj
    subst hj
    exact ⟨_, 0, yv, rfl, by simp, by rw [cell_of_row _ _ _ _ _ _ (heap_alloc_last W _)]; rfl, hall hY⟩
  | j + 2, hj => simp at hj
theorem joinL_short2 : ∀ L : Lines, (∀ l ∈ L, l.length ≤ 130) → (joinL L).length ≤ 131 * L.length
  | [], _ => by simp [joinL]
  | x :: r, h => by
    have h1 := h x List.mem_cons_self
    have h2 := joinL_short2 r (fun y hy => h y (List.mem_cons_of_mem _ hy))
    have : (joinL (x :: r)).length = x.length + 1 + (joinL r).length := by simp [joinL]; omega
    rw [this, List.length_cons]
    omega
theorem allP_len (a : UInt8) (Y : Lines) : ∀ X : Lines, (allP a X Y).length ≤ X.length * Y.length
  | [] => by simp [allP]
  | l :: X => by
    have ih := allP_len a Y X
    have : allP a (l :: X) Y = ((Y.filter fun m => decide (keyL a m = keyL a l)).map fun m => pairL a l m) ++ allP a X Y := rfl
    rw [this, List.length_append, List.length_map, List.length_cons, Nat.succ_mul]
    have := List.length_filter_le (fun m => decide (keyL a m = keyL a l)) Y
    omega
theorem allP_size (a : UInt8) (X Y : Lines) (hX : X.length ≤ 1001) (hY : Y.length ≤ 1001) (hx : ∀ l ∈ X, l.length ≤ 64) (hy : ∀ l ∈ Y, l.length ≤ 64) : (joinL (allP a X Y)).length ≤ 131 * 1002001 := by
  have h1 := joinL_short2 (allP a X Y) (fun z hz => by
    unfold allP at hz
    obtain ⟨l, hl, hz⟩ := List.mem_flatMap.1 hz
    obtain ⟨m, hm, rfl⟩ := List.mem_map.1 hz
    exact pair_len a l m (hx l hl) (hy m (List.mem_filter.1 hm).1))
  have h2 := allP_len a Y X
  have h3 : X.length * Y.length ≤ 1001 * 1001 := Nat.mul_le_mul hX hY
  omega
theorem allP_take {a : UInt8} {X Y : Lines} {i : Nat} {l : List UInt8} (h : X[i]? = some l) : allP a (X.take (i + 1)) Y = allP a (X.take i) Y ++ (Y.filter fun m => decide (keyL a m = keyL a l)).map fun m => pairL a l m := by
  rw [List.take_add_one, h, allP_append]
  simp [allP]
/-- What comes of it. -/
theorem join_told (N : Nat) (a : UInt8) (x y : List UInt8) (cuts : List Int) (hok : joinOk N [a] []) (hx : x.length ≤ 1000) (hy : y.length ≤ 1000) (ox : rdOv ⟨x, true, 0, 0, 0⟩ = true) (oy : rdOv ⟨y, true, 0, 0, 0⟩ = true)
    (rx : risesL a N (rdW ⟨x, true, 0, 0, 0⟩) = true) (ry : risesL a N (rdW ⟨y, true, 0, 0, 0⟩) = true) (D : DS JS) (hD : D = drive (joinF N [a] []) (toldIns [x, y]) cuts 100000 0 (start (joinF N [a] []) (joinI N [a] []))) :
    D.got.outs 0 = joinL (allP a (rdW ⟨x, true, 0, 0, 0⟩) (rdW ⟨y, true, 0, 0, 0⟩)) ∧ (decide (D.got.err = 0) && decide (D.got.need = -1)) = true := by
  obtain ⟨d1, d2, d3⟩ := join_drive N [a] [] (toldIns [x, y]) cuts hok rfl (fun t ht => by
    obtain ⟨z, hz, rfl⟩ := List.mem_map.1 ht
    have hz2 : z = x ∨ z = y := by simpa using hz
    show z.length ≤ 4000
    rcases hz2 with rfl | rfl <;> omega)
  rw [← hD] at d1 d2 d3
  obtain ⟨p1, p2⟩ := pairs_all (N := N) (a := a) _ (startJ (insF (toldIns [x, y]))) (Nat.lt_succ_self _) (fun j hj => by
    obtain rfl | rfl : j = 0 ∨ j = 1 := by omega
    · exact ox
    · exact oy) (fun j hj => .inl ⟨rfl, by
    obtain rfl | rfl : j = 0 ∨ j = 1 := by omega
    · exact rx
    · exact ry⟩)
  have hn : (joinFin N [a] [] (toldIns [x, y])).need = -1 := by
    show joinNeed (settleJ N a (startJ (insF (toldIns [x, y])))) _ = -1
    unfold joinNeed
    rw [p2]
  have he : (joinFin N [a] [] (toldIns [x, y])).err = 0 := by
    show joinErr (settleJ N a (startJ (insF (toldIns [x, y])))) _ = 0
    unfold joinErr
    rw [p2]
  refine ⟨?_, by rw [d2, d3, hn, he]; rfl⟩
  rw [d1]
  show joinL (settleJ N a (startJ (insF (toldIns [x, y])))).1 = _
  rw [p1]
  rfl

set_option maxRecDepth 100000 in
set_option maxHeartbeats 16000000 in
theorem pairsLaw_any (n : Int) (a : UInt8) (xv yv cv : Value) (x y : List UInt8) (cuts : List Int) (w : World) (hT : MaxTab w) (hX : IsBytes (· < w.heap.size) w xv x) (hY : IsBytes (· < w.heap.size) w yv y) (hC : IsInts (· < w.heap.size) w cv cuts) :
    Calls Tryd.prog 9 #[.int .i64 n, .int .u8 a.toNat, xv, yv, cv] w (Pm.Gives w (.bool true)) := by
  have HT := Lib.hid (show ∀ W, Below w.heap.size w W → MaxTab W from fun W hb => hT.below hb)
  have HX := Lib.hid (show ∀ W, Below w.heap.size w W → IsBytes (· < w.heap.size) W xv x from fun W hb => hX.below hb)
  have HY := Lib.hid (show ∀ W, Below w.heap.size w W → IsBytes (· < w.heap.size) W yv y from fun W hb => hY.below hb)
  have HC := Lib.hid (show ∀ W, Below w.heap.size w W → IsInts (· < w.heap.size) W cv cuts from fun W hb => hC.below hb)
  obtain ⟨ax, cx, rfl, -, -⟩ := id hX
  obtain ⟨ay, cy, rfl, -, -⟩ := id hY
  obtain ⟨ac, cc, rfl, -⟩ := id hC
  clear hT hX hY hC
  go_enter Tryd.func9, Tryd.ntmps9
  obtain ⟨H, hH⟩ : ∃ H, H = heavyB [a] [] [] [cuts] := ⟨_, rfl⟩
  have HH := Lib.hid hH
  clear hH
  go_wp2_with fail
  have hbA : Below w.heap.size w (w.alloc (.cells #[.int .u8 a.toNat] 5)) := (Below.refl _ _).alloc (Nat.le_refl _) _
  have hbB : Below w.heap.size w ((w.alloc (.cells #[.int .u8 a.toNat] 5)).alloc (.cells #[.int .i64 14, .int .i64 n, .slice (some ⟨w.heap.size, 0, none⟩) 1 1, .slice none 0 0] 24)) := hbA.alloc (by simp) _
  have hA0 := (bytes_new w [a] (0, 0)).below ((Below.refl _ _).alloc (Nat.le_refl _) (.cells #[.int .i64 14, .int .i64 n, .slice (some ⟨w.heap.size, 0, none⟩) 1 1, .slice none 0 0] 24))
  have hA0 : Pm.IsBytes ((w.alloc (.cells #[.int .u8 a.toNat] 5)).alloc (.cells #[.int .i64 14, .int .i64 n, .slice (some ⟨w.heap.size, 0, none⟩) 1 1, .slice none 0 0] 24)) (.slice (some ⟨w.heap.size, 0, none⟩) 1 1) [a] := hA0.toPm
  have hbox : ∀ W, Below ((w.alloc (.cells #[.int .u8 a.toNat] 5)).alloc (.cells #[.int .i64 14, .int .i64 n, .slice (some ⟨w.heap.size, 0, none⟩) 1 1, .slice none 0 0] 24)).heap.size ((w.alloc (.cells #[.int .u8 a.toNat] 5)).alloc (.cells #[.int .i64 14, .int .i64 n, .slice (some ⟨w.heap.size, 0, none⟩) 1 1, .slice none 0 0] 24)) W →
      W.cell? ⟨w.heap.size + 1, 0, none⟩ = some (.int .i64 14) ∧ W.cell? ⟨w.heap.size + 1, 1, none⟩ = some (.int .i64 n) ∧ W.cell? ⟨w.heap.size + 1, 2, none⟩ = some (.slice (some ⟨w.heap.size, 0, none⟩) 1 1) ∧ W.cell? ⟨w.heap.size + 1, 3, none⟩ = some (.slice none 0 0) := fun W hb => by
    have := box_cells (w := w.alloc (.cells #[.int .u8 a.toNat] 5)) hb
    simpa using this
  have hszB : ((w.alloc (.cells #[.int .u8 a.toNat] 5)).alloc (.cells #[.int .i64 14, .int .i64 n, .slice (some ⟨w.heap.size, 0, none⟩) 1 1, .slice none 0 0] 24)).heap.size = w.heap.size + 2 := by simp
  generalize (w.alloc (.cells #[.int .u8 a.toNat] 5)).alloc (.cells #[.int .i64 14, .int .i64 n, .slice (some ⟨w.heap.size, 0, none⟩) 1 1, .slice none 0 0] 24) = WB at hbB hA0 hbox hszB ⊢
  have hbC : Below WB.heap.size WB (WB.alloc (.cells #[.slice ac cuts.length cc] 37)) := (Below.refl _ _).alloc (Nat.le_refl _) _
  have hcc := ints_list WB (.slice ac cuts.length cc) cuts (fun _ => True) trivial ((HC.out _ hbB).mono (fun _ _ _ => trivial)) (0, 0)
  have hheavy := heavy_any 14 n (.slice (some ⟨w.heap.size, 0, none⟩) 1 1) (.slice none 0 0) (.slice none 0 0) _ [a] [] [] [cuts] _ (hA0.below hbC) (pm_nil _) (nil_strms _) hcc (by simp)
  unfold Pm.parV at hheavy
  rw [hszB] at hheavy
  refine hheavy.mono ?_
  clear hheavy hcc
  rintro e w1 ⟨rfl, hb1⟩
  have HB1 := Lib.hid (hbC.trans (hb1.mono hbC.size))
  have HA0 := Lib.hid hA0
  have HBox := Lib.hid hbox
  have HW := Lib.hid (show ∀ W, Below w1.heap.size w1 W → Below w.heap.size w W ∧ Below WB.heap.size WB W from fun W hb => by
    have h2 := HB1.out.trans (hb.mono HB1.out.size)
    exact ⟨hbB.trans (h2.mono hbB.size), h2⟩)
  clear hbA hbB hA0 hbox hszB hbC hb1
  rw [← HH.out]
  have HAw := Lib.hid (show ∀ W, Below w1.heap.size w1 W → Calls Tryd.prog 11 #[] W fun e w' => e = .returned (.bool true) ∧ Below W.heap.size W w' from fun W hb => awake_true _ (HT.out _ (HW.out _ hb).1))
  cases H with
  | true =>
    go_wp2_with fail
    refine (HAw.out _ (Below.refl _ _)).mono ?_
    rintro e wq ⟨rfl, hbq⟩
    go_wp2_with fail
    go_ret
    exact ⟨rfl, (HW.out _ (hbq)).1⟩
  | false =>
    obtain ⟨-, -, -, -, sC⟩ := heavy_no HH.out.symm
    have hcl := sC cuts (by simp)
    clear sC
    by_cases kx : (1000 : Int) < (x.length : Int)
    · go_wp2_with fail
      refine (HAw.out _ (Below.refl _ _)).mono ?_
      rintro e wq ⟨rfl, hbq⟩
      go_wp2_with fail
      go_ret
      exact ⟨rfl, (HW.out _ (hbq)).1⟩
    by_cases ky : (1000 : Int) < (y.length : Int)
    · go_wp2_with fail
      refine (HAw.out _ (Below.refl _ _)).mono ?_
      rintro e wq ⟨rfl, hbq⟩
      go_wp2_with fail
      go_ret
      exact ⟨rfl, (HW.out _ (hbq)).1⟩
    by_cases k1 : n < 1
    · go_wp2_with fail
      refine (HAw.out _ (Below.refl _ _)).mono ?_
      rintro e wq ⟨rfl, hbq⟩
      go_wp2_with fail
      go_ret
      exact ⟨rfl, (HW.out _ (hbq)).1⟩
    by_cases k14 : 14 < n
    · go_wp2_with fail
      refine (HAw.out _ (Below.refl _ _)).mono ?_
      rintro e wq ⟨rfl, hbq⟩
      go_wp2_with fail
      go_ret
      exact ⟨rfl, (HW.out _ (hbq)).1⟩
    by_cases h10 : a = 10
    · have t1 : ((a.toNat : Int) == 10) = true := by simp [h10]
      go_wp2_with fail
      refine (HAw.out _ (Below.refl _ _)).mono ?_
      rintro e wq ⟨rfl, hbq⟩
      go_wp2_with fail
      go_ret
      exact ⟨rfl, (HW.out _ (hbq)).1⟩
    have t1 : ((a.toNat : Int) == 10) = false := by
      simp
      intro e
      exact h10 (UInt8.toNat_inj.1 (by simp; omega))
    have HTen := Lib.hid h10
    obtain ⟨N, rfl⟩ : ∃ N : Nat, n = N := ⟨n.toNat, by omega⟩
    have n1 : 1 ≤ N := by omega
    have n14 : N ≤ 14 := by omega
    clear h10
    have hlx := linesOf_any (.slice ax x.length cx) x w1 (HX.out _ (HW.out _ (Below.refl _ _)).1) (by omega)
    obtain ⟨L, hL⟩ : ∃ L, L = rdW ⟨x, true, 0, 0, 0⟩ := ⟨_, rfl⟩
    obtain ⟨ov1, ho1⟩ : ∃ ov, ov = rdOv ⟨x, true, 0, 0, 0⟩ := ⟨_, rfl⟩
    obtain ⟨M, hM⟩ : ∃ L, L = rdW ⟨y, true, 0, 0, 0⟩ := ⟨_, rfl⟩
    obtain ⟨ov2, ho2⟩ : ∃ ov, ov = rdOv ⟨y, true, 0, 0, 0⟩ := ⟨_, rfl⟩
    have hli : Calls Tryd.prog 24 #[.slice ax x.length cx] w1 (fun e w' => ∃ la lc, e = .returned (.tuple #[.slice la L.length lc, .bool ov1]) ∧ IsTexts (w1.heap.size ≤ ·) w' (.slice la L.length lc) L ∧ Below w1.heap.size w1 w') := by
      rw [hL, ho1]
      refine hlx.mono ?_
      rintro e w' ⟨la, lc, h1, -, h3, h4⟩
      exact ⟨la, lc, h1, h3, h4⟩
    have hlj : ∀ W, Below w1.heap.size w1 W → Calls Tryd.prog 24 #[.slice ay y.length cy] W (fun e w' => ∃ la lc, e = .returned (.tuple #[.slice la M.length lc, .bool ov2]) ∧ IsTexts (W.heap.size ≤ ·) w' (.slice la M.length lc) M ∧ Below W.heap.size W w') := fun W hb => by
      rw [hM, ho2]
      refine (linesOf_any (.slice ay y.length cy) y W (HY.out _ (HW.out _ hb).1) (by omega)).mono ?_
      rintro e w' ⟨la, lc, h1, -, h3, h4⟩
      exact ⟨la, lc, h1, h3, h4⟩
    have hLs : (∀ l ∈ L, l.length ≤ 64) ∧ L.length ≤ 1001 := by
      rw [hL]
      have := readL_lines x true (0, 0, 0)
      exact ⟨this.1, by have h := this.2; show (readL x true (0, 0, 0)).1.length ≤ 1001; omega⟩
    have hMs : (∀ l ∈ M, l.length ≤ 64) ∧ M.length ≤ 1001 := by
      rw [hM]
      have := readL_lines y true (0, 0, 0)
      exact ⟨this.1, by have h := this.2; show (readL y true (0, 0, 0)).1.length ≤ 1001; omega⟩
    have HLi := Lib.hid hli
    have HLj := Lib.hid hlj
    have HLs := Lib.hid hLs
    have HMs := Lib.hid hMs
    have HL := Lib.hid hL
    have HM := Lib.hid hM
    have HO1 := Lib.hid ho1
    have HO2 := Lib.hid ho2
    clear hlx hli hlj hLs hMs hL hM ho1 ho2
    go_wp2_with fail
    refine HLi.out.mono ?_
    rintro e w2 ⟨la, lc, rfl, htx, hb2⟩
    have HTx := Lib.hid htx
    have HB2 := Lib.hid hb2
    clear htx hb2 HLi
    go_wp2_with fail
    refine (HLj.out _ HB2.out).mono ?_
    rintro e w3 ⟨ma, mc, rfl, hty, hb3⟩
    have HTx3 := Lib.hid (HTx.out.below hb3)
    have HTy3 := Lib.hid hty
    have HB3 := Lib.hid (HB2.out.trans (hb3.mono HB2.out.size))
    clear hty hb3 HLj HTx
    cases ov1 with
    | false =>
      go_wp2_with fail
      refine (HAw.out _ (HB3.out)).mono ?_
      rintro e wq ⟨rfl, hbq⟩
      go_wp2_with fail
      go_ret
      exact ⟨rfl, (HW.out _ (((HB3.out).trans (hbq.mono (HB3.out).size)))).1⟩
    | true =>
    cases ov2 with
    | false =>
      go_wp2_with fail
      refine (HAw.out _ (HB3.out)).mono ?_
      rintro e wq ⟨rfl, hbq⟩
      go_wp2_with fail
      go_ret
      exact ⟨rfl, (HW.out _ (((HB3.out).trans (hbq.mono (HB3.out).size)))).1⟩
    | true =>
    have hr1 := rises_any N a _ L w3 n1 n14 HTx3.out (by have := HLs.out.2; omega) (fun l hl => by have := HLs.out.1 l hl; omega)
    have hr2 := fun d => rises_any N a _ M (w3.drewN d) n1 n14 (HTy3.out.below (w' := w3.drewN d) ⟨rfl, rfl, rfl, Nat.le_refl _, fun _ _ => rfl⟩) (by have := HMs.out.2; omega) (fun l hl => by have := HMs.out.1 l hl; omega)
    obtain ⟨R1, hR1⟩ : ∃ R, R = risesL a N L := ⟨_, rfl⟩
    obtain ⟨R2, hR2⟩ : ∃ R, R = risesL a N M := ⟨_, rfl⟩
    rw [← hR1] at hr1
    rw [← hR2] at hr2
    have HR1 := Lib.hid hR1
    have HR2 := Lib.hid hR2
    have HRi1 := Lib.hid hr1
    have HRi2 := Lib.hid hr2
    clear hr1 hr2 hR1 hR2
    go_wp2_with fail
    refine HRi1.out.mono ?_
    rintro e w4 ⟨rfl, d1, rfl⟩
    have HRj := Lib.hid (HRi2.out d1)
    have HB4 := Lib.hid (below_drewN HB3.out d1)
    have HTx4 := Lib.hid (HTx3.out.below (w' := w3.drewN d1) ⟨rfl, rfl, rfl, Nat.le_refl _, fun _ _ => rfl⟩)
    have HTy4 := Lib.hid (HTy3.out.below (w' := w3.drewN d1) ⟨rfl, rfl, rfl, Nat.le_refl _, fun _ _ => rfl⟩)
    clear HRi1 HRi2 HTx3 HTy3 HB3
    generalize w3.drewN d1 = w4 at HRj HB4 HTx4 HTy4 ⊢
    cases R1 with
    | false =>
      go_wp2_with fail
      refine (HAw.out _ (HB4.out)).mono ?_
      rintro e wq ⟨rfl, hbq⟩
      go_wp2_with fail
      go_ret
      exact ⟨rfl, (HW.out _ (((HB4.out).trans (hbq.mono (HB4.out).size)))).1⟩
    | true =>
    go_wp2_with fail
    refine HRj.out.mono ?_
    rintro e w5 ⟨rfl, d2, rfl⟩
    have HB5 := Lib.hid (below_drewN HB4.out d2)
    have HTx5 := Lib.hid (HTx4.out.below (w' := w4.drewN d2) ⟨rfl, rfl, rfl, Nat.le_refl _, fun _ _ => rfl⟩)
    have HTy5 := Lib.hid (HTy4.out.below (w' := w4.drewN d2) ⟨rfl, rfl, rfl, Nat.le_refl _, fun _ _ => rfl⟩)
    clear HRj HTx4 HTy4 HB4
    generalize w4.drewN d2 = w5 at HB5 HTx5 HTy5 ⊢
    cases R2 with
    | false =>
      go_wp2_with fail
      refine (HAw.out _ (HB5.out)).mono ?_
      rintro e wq ⟨rfl, hbq⟩
      go_wp2_with fail
      go_ret
      exact ⟨rfl, (HW.out _ (((HB5.out).trans (hbq.mono (HB5.out).size)))).1⟩
    | true =>
    have hok : joinOk N [a] [] := ⟨⟨n1, n14⟩, rfl⟩
    obtain ⟨D, hD⟩ : ∃ D, D = drive (joinF N [a] []) (toldIns [x, y]) cuts 100000 0 (start (joinF N [a] []) (joinI N [a] [])) := ⟨_, rfl⟩
    obtain ⟨o0, ofine⟩ := join_told N a x y cuts hok (by omega) (by omega) HO1.out.symm HO2.out.symm (by rw [← HL.out]; exact HR1.out.symm) (by rw [← HM.out]; exact HR2.out.symm) D hD
    rw [← HL.out, ← HM.out] at o0
    obtain ⟨hbw, hbB⟩ := HW.out _ HB5.out
    have hal : Below w5.heap.size w5 (w5.alloc (.cells #[.slice ax x.length cx, .slice ay y.length cy] 22)) := (Below.refl _ _).alloc (Nat.le_refl _) _
    have htold := told_any N (.slice (some ⟨w.heap.size, 0, none⟩) 1 1) (.slice none 0 0) (.slice ac cuts.length cc) (.slice (some ⟨w5.heap.size, 0, none⟩) 2 2) [a] [] [x, y] cuts (w5.alloc (.cells #[.slice ax x.length cx, .slice ay y.length cy] 22)) (HT.out _ (hbw.trans (hal.mono hbw.size))) (HA0.out.below (hbB.trans (hal.mono hbB.size))) (pm_nil _) (two_pieces (HX.out _ hbw) (HY.out _ hbw)) ((HC.out _ (hbw.trans (hal.mono hbw.size))).mono (fun k hk _ => hk)) (join_takeE N a n1 n14 HTen.out) hok (by simp) (by simp) rfl (by simp) (fun z hz => by
      have hz2 : z = x ∨ z = y := by simpa using hz
      rcases hz2 with rfl | rfl <;> omega) (by omega)
    unfold Pm.parV at htold
    rw [← hD] at htold
    obtain ⟨c0, c1, c2, c3⟩ := HBox.out _ hbB
    have HTo := Lib.hid htold
    have HO0 := Lib.hid o0
    have HFine := Lib.hid ofine
    have HAl := Lib.hid (HB5.out.trans (hal.mono HB5.out.size))
    clear hok hD o0 ofine hbw hbB hal htold
    go_wp2_with fail
    refine HTo.out.mono ?_
    rintro e w6 ⟨rfl, hb6⟩
    rw [HFine.out]
    obtain ⟨S0, S1, S2, S3, e0, -, -, -, hlit⟩ := got_lit D.got
    rw [hlit]
    rw [HO0.out] at e0
    have HE0 := Lib.hid e0
    have HB6 := Lib.hid (HAl.out.trans (hb6.mono HAl.out.size))
    have hx5 : ∀ {q : Nat → Prop} {v : Value} {Z : Lines}, IsTexts q w5 v Z → IsTexts q w6 v Z := fun h => (h.below ((Below.refl _ _).alloc (Nat.le_refl _) _)).below hb6
    have HTx6 := Lib.hid (hx5 HTx5.out)
    have HTy6 := Lib.hid (hx5 HTy5.out)
    clear hlit e0 c0 c1 c2 c3 hb6 hx5 HTx5 HTy5
    go_upto_region 9 with fail
    have hal : Below w6.heap.size w6 (w6.alloc (.cells #[.string S0, .string S1, .string S2, .string S3, .int .i64 D.got.need, .int .i64 D.got.err, .int .i64 D.got.held, .int .i64 (D.got.taken 0), .int .i64 (D.got.taken 1), .int .i64 (D.got.taken 2), .int .i64 (D.got.taken 3), .bool false] 42)) := (Below.refl _ _).alloc (Nat.le_refl _) _
    have hg0 : (w6.alloc (.cells #[.string S0, .string S1, .string S2, .string S3, .int .i64 D.got.need, .int .i64 D.got.err, .int .i64 D.got.held, .int .i64 (D.got.taken 0), .int .i64 (D.got.taken 1), .int .i64 (D.got.taken 2), .int .i64 (D.got.taken 3), .bool false] 42)).cell? ⟨w6.heap.size, 0, none⟩ = some (.string S0) := by rw [cell_of_row _ _ _ _ _ _ (heap_alloc_last w6 _)]; rfl
    have HB7 := Lib.hid (HB6.out.trans (hal.mono HB6.out.size))
    have HTx7 := Lib.hid (HTx6.out.below hal)
    have HTy7 := Lib.hid (HTy6.out.below hal)
    clear hal HTx6 HTy6
    generalize (w6.alloc (.cells #[.string S0, .string S1, .string S2, .string S3, .int .i64 D.got.need, .int .i64 D.got.err, .int .i64 D.got.held, .int .i64 (D.got.taken 0), .int .i64 (D.got.taken 1), .int .i64 (D.got.taken 2), .int .i64 (D.got.taken 3), .bool false] 42)) = w7 at hg0 HB7 HTx7 HTy7 ⊢
    obtain ⟨SA, hSA⟩ : ∃ S : ByteArray, strV [a] = .string S := ⟨_, rfl⟩
    have hcv : (convert 22 9 (.slice (some ⟨w7.heap.size, 0, none⟩) 1 1)).run Tryd.prog (w7.alloc (.cells #[.int .u8 a.toNat] 5)) = .ok (.string SA) (w7.alloc (.cells #[.int .u8 a.toNat] 5)) := by
      have := Pm.conv_any (IsBytes.toPm (bytes_new w7 [a] (0, 0)))
      rw [← hSA]
      exact this
    have zA := strV_size hSA
    have k2 : SA.size ≤ 1 := by rw [zA]; simp
    have HSA := Lib.hid hSA
    clear zA hSA
    go_upto_region 10 with fail
    have hal : Below w7.heap.size w7 (w7.alloc (.cells #[.int .u8 a.toNat] 5)) := (Below.refl _ _).alloc (Nat.le_refl _) _
    have hg0 : (w7.alloc (.cells #[.int .u8 a.toNat] 5)).cell? ⟨w6.heap.size, 0, none⟩ = some (.string S0) := by rw [hal.cell (block_lt_of_cell hg0)]; exact hg0
    have HB8 := Lib.hid (HB7.out.trans (hal.mono HB7.out.size))
    have hTx := fun W (hb : Below (w7.alloc (.cells #[.int .u8 a.toNat] 5)).heap.size (w7.alloc (.cells #[.int .u8 a.toNat] 5)) W) => (HTx7.out.below hal).below hb
    have hTy := fun W (hb : Below (w7.alloc (.cells #[.int .u8 a.toNat] 5)).heap.size (w7.alloc (.cells #[.int .u8 a.toNat] 5)) W) => (HTy7.out.below hal).below hb
    clear hal hcv HTx7 HTy7 HB7
    change Code.wp _ _ _ _ (w7.alloc (.cells #[.int .u8 a.toNat] 5))
    generalize w7.alloc (.cells #[.int .u8 a.toNat] 5) = w8 at hg0 HB8 hTx hTy ⊢
    have HTx := Lib.hid hTx
    have HTy := Lib.hid hTy
    have HG0 := Lib.hid hg0
    obtain ⟨nL, hnL⟩ : ∃ n, n = L.length := ⟨_, rfl⟩
    obtain ⟨nM, hnM⟩ : ∃ n, n = M.length := ⟨_, rfl⟩
    rw [← hnL, ← hnM]
    rw [← hnL] at HTx
    rw [← hnM] at HTy
    have HnL := Lib.hid hnL
    have HnM := Lib.hid hnM
    have hLl : nL ≤ 1001 := by rw [hnL]; exact HLs.out.2
    have hMl : nM ≤ 1001 := by rw [hnM]; exact HMs.out.2
    have b1 : (nL : Int) ≤ 1001 := by omega
    have b2 : (nM : Int) ≤ 1001 := by omega
    clear hTx hTy hg0 hnL hnM
    go_wp2_with fail
    go_loopw [19, 20] (fun sv iv wr => ∃ i : Nat, sv = strV (joinL (allP a (L.take i) M)) ∧ iv = .int .i64 i ∧ i ≤ nL ∧ Below w8.heap.size w8 wr) (fun _ iv _ => nL - (intOf iv).toNat)
    case atStart => exact ⟨0, rfl, rfl, Nat.zero_le _, Below.refl _ _⟩
    case round =>
      obtain ⟨i, rfl, rfl, hi, hbr⟩ := hrel
      rename World => WR
      have HBr := Lib.hid hbr
      obtain ⟨T1, hT1⟩ : ∃ S : ByteArray, strV (joinL (allP a (L.take i) M)) = .string S := ⟨_, rfl⟩
      rw [hT1]
      have HT1 := Lib.hid hT1
      clear hbr hT1
      by_cases hlt : i < nL
      · obtain ⟨l, hl⟩ : ∃ l, L[i]? = some l := ⟨L[i]'(by rw [← HnL.out]; exact hlt), List.getElem?_eq_getElem _⟩
        have q1 : (0 : Int) ≤ (i : Int) := by omega
        have q2 : (i : Int) < (nL : Int) := by omega
        obtain ⟨_, _, e1, hx1⟩ := HTx.out WR HBr.out
        cases e1
        obtain ⟨b0, o0, rfl, -, hx1⟩ := hx1 i l hl
        obtain ⟨SL, hSL⟩ : ∃ S : ByteArray, strV l = .string S := ⟨_, rfl⟩
        obtain ⟨SK, hSK⟩ : ∃ S : ByteArray, strV (keyL a l) = .string S := ⟨_, rfl⟩
        obtain ⟨SX, hSX⟩ : ∃ S : ByteArray, strV (restL a l) = .string S := ⟨_, rfl⟩
        have hl64 := HLs.out.1 l (List.mem_of_getElem? hl)
        have zK := strV_size hSK
        have zX := strV_size hSX
        have rX := key_rest_len a l
        have k1s : SK.size ≤ 64 := by omega
        have k3 : SX.size ≤ 64 := by omega
        have hky := parted_any a l WR (by omega)
        rw [hSL, hSK, hSX] at hky
        rw [hSL] at hx1
        have HKy := Lib.hid hky
        have HL1 := Lib.hid hl
        have HSK := Lib.hid hSK
        have HSX := Lib.hid hSX
        have HL64 := Lib.hid hl64
        clear hky hl hSL hSK hSX zK zX rX hl64
        go_wp2_with fail
        refine HKy.out.mono ?_
        rintro e wq ⟨rfl, m1, rfl⟩
        have HBr2 := Lib.hid (below_drewN HBr.out m1)
        clear hx1 HKy HBr
        generalize WR.drewN m1 = WR at HBr2 ⊢
        go_wp2_with fail
        go_loopw [19, 23] (fun sv kv wr => ∃ k : Nat, sv = strV (joinL (allP a (L.take i) M) ++ joinL (((M.take k).filter fun m => decide (keyL a m = keyL a l)).map fun m => pairL a l m)) ∧ kv = .int .i64 k ∧ k ≤ nM ∧ Below w8.heap.size w8 wr) (fun _ kv _ => nM - (intOf kv).toNat)
        case atStart => exact ⟨0, by simpa [joinL] using HT1.out.symm, rfl, Nat.zero_le _, HBr2.out⟩
        case round =>
          obtain ⟨k, rfl, rfl, hk, hbr⟩ := hrel
          rename World => WJ
          have HBj := Lib.hid hbr
          obtain ⟨T2, hT2⟩ : ∃ S : ByteArray, strV (joinL (allP a (L.take i) M) ++ joinL (((M.take k).filter fun m => decide (keyL a m = keyL a l)).map fun m => pairL a l m)) = .string S := ⟨_, rfl⟩
          rw [hT2]
          have HT2 := Lib.hid hT2
          have z2 := strV_size hT2
          have hz2 : T2.size ≤ 300000000 := by
            have g1 := allP_size a (L.take i) M (by rw [List.length_take]; have := HLs.out.2; omega) HMs.out.2 (fun x hx => HLs.out.1 x (List.mem_of_mem_take hx)) HMs.out.1
            have g2 := allP_size a [l] (M.take k) (by simp) (by rw [List.length_take]; have := HMs.out.2; omega) (fun x hx => by rw [List.mem_singleton.1 hx]; exact HL64.out) (fun x hx => HMs.out.1 x (List.mem_of_mem_take hx))
            have g3 : allP a [l] (M.take k) = ((M.take k).filter fun m => decide (keyL a m = keyL a l)).map fun m => pairL a l m := by simp [allP]
            rw [g3] at g2
            rw [z2, List.length_append]
            omega
          clear hbr hT2 z2
          by_cases hkt : k < nM
          · obtain ⟨m, hm⟩ : ∃ m, M[k]? = some m := ⟨M[k]'(by rw [← HnM.out]; exact hkt), List.getElem?_eq_getElem _⟩
            have q3 : (0 : Int) ≤ (k : Int) := by omega
            have q4 : (k : Int) < (nM : Int) := by omega
            obtain ⟨_, _, e1, hx2⟩ := HTy.out WJ HBj.out
            cases e1
            obtain ⟨b1', o1, rfl, -, hx2⟩ := hx2 k m hm
            obtain ⟨SM, hSM⟩ : ∃ S : ByteArray, strV m = .string S := ⟨_, rfl⟩
            obtain ⟨SO, hSO⟩ : ∃ S : ByteArray, strV (keyL a m) = .string S := ⟨_, rfl⟩
            obtain ⟨SY, hSY⟩ : ∃ S : ByteArray, strV (restL a m) = .string S := ⟨_, rfl⟩
            have hm64 := HMs.out.1 m (List.mem_of_getElem? hm)
            have zY := strV_size hSY
            have rY := key_rest_len a m
            have k4 : SY.size ≤ 64 := by omega
            have hky := parted_any a m WJ (by omega)
            rw [hSM, hSO, hSY] at hky
            rw [hSM] at hx2
            obtain ⟨-, d2⟩ := str_less hSO HSK.out
            have HKz := Lib.hid hky
            have HM1 := Lib.hid hm
            have HSY := Lib.hid hSY
            clear hky hm hSM hSO hSY zY rY hm64
            go_wp2_with fail
            refine HKz.out.mono ?_
            rintro e wq ⟨rfl, m2, rfl⟩
            have HBk := Lib.hid (below_drewN HBj.out m2)
            clear hx2 HKz HBj
            generalize WJ.drewN m2 = WJ at HBk ⊢
            by_cases he : keyL a m = keyL a l
            · have e1 : (SO.toList == SK.toList) = true := by rw [d2]; exact decide_eq_true he
              have HE := Lib.hid he
              clear d2 he
              have a1 := add_fits (S := T2) (T := SK) (by omega) (by omega)
              have a2 := add_fits (S := T2 ++ SK) (T := SA) (by rw [ByteArray.size_append]; omega) (by omega)
              have a3 := add_fits (S := T2 ++ SK ++ SA) (T := SX) (by rw [ByteArray.size_append, ByteArray.size_append]; omega) (by omega)
              have a4 := add_fits (S := T2 ++ SK ++ SA ++ SX) (T := SA) (by rw [ByteArray.size_append, ByteArray.size_append, ByteArray.size_append]; omega) (by omega)
              have a5 := add_fits (S := T2 ++ SK ++ SA ++ SX ++ SA) (T := SY) (by rw [ByteArray.size_append, ByteArray.size_append, ByteArray.size_append, ByteArray.size_append]; omega) (by omega)
              have a6 := add_fits (S := T2 ++ SK ++ SA ++ SX ++ SA ++ SY) (T := { data := #[10] }) (by rw [ByteArray.size_append, ByteArray.size_append, ByteArray.size_append, ByteArray.size_append, ByteArray.size_append]; omega) (by decide)
              have c2 : T2.size + SK.size + SA.size ≤ 1000000000 := by omega
              have c3 : T2.size + SK.size + SA.size + SX.size ≤ 1000000000 := by omega
              have c4 : T2.size + SK.size + SA.size + SX.size + SA.size ≤ 1000000000 := by omega
              have c5 : T2.size + SK.size + SA.size + SX.size + SA.size + SY.size ≤ 1000000000 := by omega
              have hfin := strV_add (strV_add (strV_add (strV_add (strV_add (strV_add HT2.out HSK.out) HSA.out) HSX.out) HSA.out) HSY.out) strV_nl
              have HFin := Lib.hid hfin
              clear hfin
              go_wp2_with fail
              go_roundw
              case rel =>
                refine ⟨k + 1, ?_, by go_num, by omega, HBk.out⟩
                rw [← HFin.out]
                congr 1
                rw [List.take_add_one, HM1.out]
                simp only [Option.toList_some, List.filter_append, List.map_append, joinL_append]
                rw [List.filter_cons_of_pos (by simpa using HE.out)]
                simp only [List.filter_nil, List.map_cons, List.map_nil, pair_eq]
                simp [joinL]
              case measure => simp [intOf]; omega
            · have e1 : (SO.toList == SK.toList) = false := by rw [d2]; exact decide_eq_false he
              have HE := Lib.hid he
              clear d2 he
              go_wp2_with fail
              go_roundw
              case rel =>
                refine ⟨k + 1, ?_, by go_num, by omega, HBk.out⟩
                rw [← HT2.out, List.take_add_one, HM1.out]
                simp only [Option.toList_some, List.filter_append, List.map_append, joinL_append]
                rw [List.filter_cons_of_neg (by simpa using HE.out)]
                simp [joinL]
              case measure => simp [intOf]; omega
          · have q4 : ¬ (k : Int) < (nM : Int) := by omega
            have HTk := Lib.hid (show M.take k = M from List.take_of_length_le (by have := HnM.out; omega))
            go_wp2_with fail
            go_roundw
            case rel =>
              refine ⟨i + 1, ?_, by go_num, by omega, HBj.out⟩
              rw [allP_take HL1.out, joinL_append, ← HT2.out, HTk.out]
            case measure => simp [intOf]; omega
      · have hfull : allP a (L.take i) M = allP a L M := by rw [List.take_of_length_le (by rw [← HnL.out]; omega)]
        have q3 : ¬ (i : Int) < (nL : Int) := by omega
        have hs : T1 = S0 := by
          have h1 := HT1.out
          rw [hfull, HE0.out] at h1
          injection h1 with h1
          exact h1.symm
        subst hs
        have hg0 : WR.cell? ⟨w6.heap.size, 0, none⟩ = some (.string T1) := by rw [HBr.out.cell (block_lt_of_cell HG0.out)]; exact HG0.out
        have HBz := Lib.hid (HB8.out.trans (HBr.out.mono HB8.out.size))
        clear hfull
        go_wp2_with fail
        refine (HAw.out _ HBz.out).mono ?_
        rintro e wq ⟨rfl, hbq⟩
        go_wp2_with fail
        go_ret
        exact ⟨rfl, (HW.out _ (HBz.out.trans (hbq.mono HBz.out.size))).1⟩

end Go.Proofs.YtchepmikbnnnhaaDoor
