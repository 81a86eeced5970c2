/- PasteColumns's walk. -/
import Derived.Test.YteghdepedlaneaaDoorPasteTold
import Derived.Test.YteghdepedlaneaaDoorPasteHeavy
import Derived.Test.YteghdepedlaneaaDoorPasteLines
import Derived.Test.YteghdepedlaneaaDoorPsC
import Derived.Test.YteghdepedlaneaaDoorTakeskit
import Derived.Test.YteghdepedlaneaaDoorStrparts
namespace Go.Proofs.YteghdepedlaneaaDoor
open Go.RowKit

theorem nil_strms (w : World) : IsStrms (· < w.heap.size) w (.slice none 0 0) [] := ⟨none, 0, rfl, fun j t h => by simp at h⟩
theorem paste_takeE (N : Nat) (a : UInt8) (h1 : 1 ≤ N) (h4 : N ≤ 4) (ha : a ≠ 10) : takeE 13 13 N [a] [] = 0 := by
  obtain rfl | rfl | rfl | rfl : N = 1 ∨ N = 2 ∨ N = 3 ∨ N = 4 := by omega
  all_goals simp [takeE, Pm.checkE, Pm.fits, Pm.kindOf, Pm.kinds, Pm.mayBe, Pm.tooMuch, ha]
theorem one_byte (w : World) (a : UInt8) (q : Nat → Prop) (hq : q w.heap.size) (m : Nat × Nat) : IsBytes q (w.alloc (.cells #[.int .u8 a.toNat] 5 m)) (.slice (some ⟨w.heap.size, 0, none⟩) 1 1) [a] := by
  refine ⟨_, 1, rfl, Nat.le_refl _, fun j c hj => ?_⟩
  match j, hj with
  | 0, hj =>
    simp at hj
    subst hj
    refine ⟨_, 0, rfl, hq, ?_⟩
    rw [Nat.zero_add, cell_of_row _ _ _ _ _ _ (heap_alloc_last w _)]
    rfl
  | j + 1, hj => simp at hj

theorem pm_bytes {p : Nat → Prop} {w : World} {v : Value} {x : List UInt8} (h : IsBytes p w v x) : Pm.IsBytes w v x := by
  obtain ⟨a, cap, rfl, hc, hx⟩ := h
  exact ⟨a, cap, rfl, hc, fun j c hj => by
    obtain ⟨gb, off, e, -, hh⟩ := hx j c hj
    exact ⟨gb, off, e, hh⟩⟩
theorem IsPieces.mono' {p q : Nat → Prop} {w : World} {v : Value} {L : List (List UInt8)} (h : IsPieces p w v L) (hpq : ∀ k, k < w.heap.size → p k → q k) : IsPieces q w v L := by
  obtain ⟨a, cap, rfl, hc⟩ := h
  refine ⟨a, cap, rfl, fun j c hj => ?_⟩
  obtain ⟨gb, off, bv, rfl, hp, hx, hb⟩ := hc j c hj
  exact ⟨gb, off, bv, rfl, hpq _ (block_lt_of_cell hx) hp, hx, hb.mono hpq⟩
theorem told_ov (xs : List (List UInt8)) (N : Nat) (ho : ∀ k, k < N → rdOv (insF (toldIns xs) k) = true) : ∀ j, j < N → (startT (insF (toldIns xs))).ov j = true := fun j hj => ho j hj
theorem paste_told (xs : List (List UInt8)) (A : List UInt8) (cuts : List Int) (hok : pasteOk xs.length A []) (hx : ∀ x ∈ xs, x.length ≤ 1000) (ho : ∀ k, k < xs.length → rdOv (insF (toldIns xs) k) = true) (D : DS PS) (hD : D = drive (pasteF xs.length A []) (toldIns xs) cuts 100000 0 (start (pasteF xs.length A []) (pasteI xs.length A []))) :
    D.got.outs 0 = rowsC xs.length A (insF (toldIns xs)) 0 (maxN (fun j => (rdW (insF (toldIns xs) j)).length) xs.length) ∧ (decide (D.got.err = 0) && decide (D.got.need = -1)) = true ∧ ∀ j, j < xs.length → cW (rdW (insF (toldIns xs) j)) ≤ 1001 := by
  have hl : (toldIns xs).length = xs.length := by rw [toldIns, List.length_map]
  have hmem : ∀ t ∈ toldIns xs, t.bytes.length ≤ 1000 := fun t ht => by
    obtain ⟨x, h, rfl⟩ := List.mem_map.1 ht
    exact hx x h
  obtain ⟨d1, d2, d3⟩ := paste_drive xs.length A [] (toldIns xs) cuts hok hl (fun t ht => by have := hmem t ht; omega)
  rw [← hD] at d1 d2 d3
  have hf : ∀ j, j < xs.length → cW (rdW (insF (toldIns xs) j)) ≤ 1001 := fun j hj => by
    have hi : (toldIns xs)[j]? = some ((toldIns xs)[j]'(by omega)) := List.getElem?_eq_getElem (by omega)
    rw [insF_at hi]
    have h2 := rdW_cW ((toldIns xs)[j]'(by omega))
    have h3 := hmem _ (List.mem_of_getElem? hi)
    omega
  obtain ⟨c1, c2⟩ := columns (A := A) (f := insF (toldIns xs)) (fun j hj => by have := hf j hj; omega) hok.1.1 (maxN (fun j => (rdW (insF (toldIns xs) j)).length) xs.length) 0 (startT (insF (toldIns xs))) docAt_start rfl rfl (told_ov xs _ ho) (.inl (Nat.zero_add _))
  have hn : (pasteFin xs.length A [] (toldIns xs)).need = -1 := by
    show pasteNeed _ _ _ = -1
    unfold pasteNeed
    rw [if_neg (by omega)]
  have he : (pasteFin xs.length A [] (toldIns xs)).err = 0 := by
    show pasteErr _ _ _ = 0
    unfold pasteErr
    rw [if_neg (fun h => by omega)]
  exact ⟨by rw [d1]; exact c1, by rw [d2, d3, hn, he]; rfl, hf⟩
set_option maxRecDepth 100000 in
set_option maxHeartbeats 16000000 in
theorem columnsLaw_any (a : UInt8) (iv cv : Value) (xs : List (List UInt8)) (cuts : List Int) (w : World) (hT : Pm.Tab w) (hI : IsPieces (· < w.heap.size) w iv xs) (hC : IsInts (· < w.heap.size) w cv cuts) :
    Calls Tryd.prog 9 #[.int .u8 a.toNat, iv, cv] w (Pm.Gives w (.bool true)) := by
  have HT := Lib.hid (show ∀ W, Below w.heap.size w W → Pm.Tab W from fun W hb => hT.below hb)
  have HI := Lib.hid (show ∀ W, Below w.heap.size w W → IsPieces (· < w.heap.size) W iv xs from fun W hb => hI.below hb)
  have HC := Lib.hid (show ∀ W, Below w.heap.size w W → IsInts (· < w.heap.size) W cv cuts from fun W hb => hC.below hb)
  obtain ⟨ai, ci, rfl, -⟩ := id hI
  obtain ⟨ac, cc, rfl, -⟩ := id hC
  clear hT hI hC
  go_enter Tryd.func9, Tryd.ntmps9
  obtain ⟨H, hH⟩ : ∃ H, H = heavyB [a] [] [] [cuts] := ⟨_, rfl⟩
  have HH := Lib.hid hH
  clear hH
  go_wp2_with fail
  have hbA : Below w.heap.size w (w.alloc (.cells #[.int .u8 a.toNat] 5)) := (Below.refl _ _).alloc (Nat.le_refl _) _
  have hbB : Below w.heap.size w ((w.alloc (.cells #[.int .u8 a.toNat] 5)).alloc (.cells #[.int .i64 13, .int .i64 xs.length, .slice (some ⟨w.heap.size, 0, none⟩) 1 1, .slice none 0 0] 24)) := hbA.alloc (by simp) _
  have hA0 := (one_byte w a (fun _ => True) trivial (0, 0)).below ((Below.refl _ _).alloc (Nat.le_refl _) (.cells #[.int .i64 13, .int .i64 xs.length, .slice (some ⟨w.heap.size, 0, none⟩) 1 1, .slice none 0 0] 24))
  have hbox : ∀ W, Below ((w.alloc (.cells #[.int .u8 a.toNat] 5)).alloc (.cells #[.int .i64 13, .int .i64 xs.length, .slice (some ⟨w.heap.size, 0, none⟩) 1 1, .slice none 0 0] 24)).heap.size ((w.alloc (.cells #[.int .u8 a.toNat] 5)).alloc (.cells #[.int .i64 13, .int .i64 xs.length, .slice (some ⟨w.heap.size, 0, none⟩) 1 1, .slice none 0 0] 24)) W →
      W.cell? ⟨w.heap.size + 1, 0, none⟩ = some (.int .i64 13) ∧ W.cell? ⟨w.heap.size + 1, 1, none⟩ = some (.int .i64 xs.length) ∧ W.cell? ⟨w.heap.size + 1, 2, none⟩ = some (.slice (some ⟨w.heap.size, 0, none⟩) 1 1) ∧ W.cell? ⟨w.heap.size + 1, 3, none⟩ = some (.slice none 0 0) := fun W hb => by
    have := box_cells (w := w.alloc (.cells #[.int .u8 a.toNat] 5)) hb
    simpa using this
  have hszB : ((w.alloc (.cells #[.int .u8 a.toNat] 5)).alloc (.cells #[.int .i64 13, .int .i64 xs.length, .slice (some ⟨w.heap.size, 0, none⟩) 1 1, .slice none 0 0] 24)).heap.size = w.heap.size + 2 := by simp
  generalize (w.alloc (.cells #[.int .u8 a.toNat] 5)).alloc (.cells #[.int .i64 13, .int .i64 xs.length, .slice (some ⟨w.heap.size, 0, none⟩) 1 1, .slice none 0 0] 24) = WB at hbB hA0 hbox hszB ⊢
  have hbC : Below WB.heap.size WB (WB.alloc (.cells #[.slice ac cuts.length cc] 37)) := (Below.refl _ _).alloc (Nat.le_refl _) _
  have hcc := ints_list WB (.slice ac cuts.length cc) cuts (fun _ => True) trivial ((HC.out _ hbB).mono (fun _ _ _ => trivial)) (0, 0)
  have hheavy := heavy_any 13 xs.length (.slice (some ⟨w.heap.size, 0, none⟩) 1 1) (.slice none 0 0) (.slice none 0 0) _ [a] [] [] [cuts] _ (pm_bytes (hA0.below hbC)) (pm_nil _) (nil_strms _) hcc (by simp)
  unfold Pm.parV at hheavy
  rw [hszB] at hheavy
  refine hheavy.mono ?_
  clear hheavy hcc
  rintro e w1 ⟨rfl, hb1⟩
  have HB1 := Lib.hid (hbC.trans (hb1.mono hbC.size))
  have HBB := Lib.hid hbB
  have HA0 := Lib.hid hA0
  have HBox := Lib.hid hbox
  have HW := Lib.hid (show ∀ W, Below w1.heap.size w1 W → Below w.heap.size w W ∧ Below WB.heap.size WB W from fun W hb => by
    have h2 := HB1.out.trans (hb.mono HB1.out.size)
    exact ⟨hbB.trans (h2.mono hbB.size), h2⟩)
  have HSz := Lib.hid hszB
  clear hbA hbB hA0 hbox hszB hbC hb1
  rw [← HH.out]
  have HAw := Lib.hid (show ∀ W, Below w1.heap.size w1 W → Calls Tryd.prog 11 #[] W fun e w' => e = .returned (.bool true) ∧ Below W.heap.size W w' from fun W hb => awake_true _ (HT.out _ (HW.out _ hb).1))
  cases H with
  | true =>
    go_wp2_with fail
    refine (HAw.out _ (Below.refl _ _)).mono ?_
    rintro e w2 ⟨rfl, hb2⟩
    go_wp2_with fail
    go_ret
    exact ⟨rfl, (HW.out _ hb2).1⟩
  | false =>
    obtain ⟨-, -, -, -, sC⟩ := heavy_no HH.out.symm
    have hcl := sC cuts (by simp)
    clear sC
    by_cases h1 : (xs.length : Int) < 1
    · go_wp2_with fail
      refine (HAw.out _ (Below.refl _ _)).mono ?_
      rintro e w2 ⟨rfl, hb2⟩
      go_wp2_with fail
      go_ret
      exact ⟨rfl, (HW.out _ hb2).1⟩
    by_cases h4 : (4 : Int) < (xs.length : Int)
    · go_wp2_with fail
      refine (HAw.out _ (Below.refl _ _)).mono ?_
      rintro e w2 ⟨rfl, hb2⟩
      go_wp2_with fail
      go_ret
      exact ⟨rfl, (HW.out _ hb2).1⟩
    by_cases h10 : a = 10
    · have t1 : ((a.toNat : Int) == 10) = true := by simp [h10]
      go_wp2_with fail
      refine (HAw.out _ (Below.refl _ _)).mono ?_
      rintro e w2 ⟨rfl, hb2⟩
      go_wp2_with fail
      go_ret
      exact ⟨rfl, (HW.out _ hb2).1⟩
    have t1 : ((a.toNat : Int) == 10) = false := by
      simp
      intro e
      exact h10 (UInt8.toNat_inj.1 (by simp; omega))
    have HTen := Lib.hid h10
    clear h10
    go_wp2_with fail
    go_loopw [8, 9, 10] (fun lv rv jv wr => ∃ (u : Value) (rs : List (Value × Lines)), u = lv ∧ rv = .int .i64 (maxN (fun j => (rdW (insF (toldIns xs) j)).length) rs.length : Nat) ∧ jv = .int .i64 rs.length ∧ rs.length ≤ xs.length ∧
        (∀ (k : Nat) p, rs[k]? = some p → ∃ x, xs[k]? = some x ∧ p.2 = rdW (insF (toldIns xs) k) ∧ rdOv (insF (toldIns xs) k) = true ∧ x.length ≤ 1000) ∧ AllIn w1.heap.size rs u wr ∧ Below w1.heap.size w1 wr) (fun _ _ jv _ => xs.length - (intOf jv).toNat)
    case atStart => exact ⟨_, [], rfl, rfl, rfl, Nat.zero_le _, fun k p h => by simp at h, AllIn.nil _ _, Below.refl _ _⟩
    case round =>
      obtain ⟨lv, rs, rfl, rfl, rfl, hrl, hrs, hall, hbr⟩ := hrel
      rename World => WR
      obtain ⟨la0, lc0, hlv⟩ := owns_slice hall.row
      subst hlv
      have HRs := Lib.hid hrs
      have HAll := Lib.hid hall
      have HBr := Lib.hid hbr
      have HLt := Lib.hid hrl
      clear hrs hall hbr
      by_cases hlt : rs.length < xs.length
      · obtain ⟨x, hx⟩ : ∃ x, xs[rs.length]? = some x := ⟨xs[rs.length]'hlt, List.getElem?_eq_getElem hlt⟩
        have hF : insF (toldIns xs) rs.length = ⟨x, true, 0, 0, 0⟩ := insF_at (by rw [toldIns, List.getElem?_map, hx]; rfl)
        obtain ⟨_, _, e, hcs⟩ := HI.out _ (HW.out _ HBr.out).1
        cases e
        obtain ⟨gb, off, bv, rfl, -, c0, hby⟩ := hcs _ x hx
        have hby0 := hby
        obtain ⟨ax, cx, rfl, -, -⟩ := hby
        have HBy := Lib.hid hby0
        have HX := Lib.hid hx
        have HF := Lib.hid hF
        have HC0 := Lib.hid c0
        have q0 : (0 : Int) ≤ (rs.length : Int) := by omega
        have q1 : (rs.length : Int) < (xs.length : Int) := by omega
        have hszr := HBr.out.size
        clear hcs hx hF hby0
        by_cases hl : (1000 : Int) < (x.length : Int)
        · go_wp2_with fail
          refine (HAw.out _ HBr.out).mono ?_
          rintro e w2 ⟨rfl, hb2⟩
          go_wp2_with fail
          go_ret
          exact ⟨rfl, (HW.out _ (HBr.out.trans (hb2.mono HBr.out.size))).1⟩
        have HLi := Lib.hid (linesOf_any (.slice ax x.length cx) x WR HBy.out (by omega))
        obtain ⟨L, hL⟩ : ∃ L, L = rdW (insF (toldIns xs) rs.length) := ⟨_, rfl⟩
        obtain ⟨all, hal⟩ : ∃ all, all = rdOv (insF (toldIns xs) rs.length) := ⟨_, rfl⟩
        have hli : Calls Tryd.prog 24 #[.slice ax x.length cx] WR (fun e w' => ∃ la lc, e = .returned (.tuple #[.slice la L.length lc, .bool all]) ∧ L.length ≤ lc ∧ IsTexts (WR.heap.size ≤ ·) w' (.slice la L.length lc) L ∧ Below WR.heap.size WR w') := by
          rw [hL, hal, HF.out]
          exact HLi.out
        have HLn := Lib.hid hli
        have HL := Lib.hid hL
        have HAl := Lib.hid hal
        clear hli hL hal HLi
        go_wp2_with fail
        refine HLn.out.mono ?_
        rintro e w2 ⟨la, lc, rfl, hlc, htx, hb2⟩
        have HTx := Lib.hid htx
        have HB2 := Lib.hid hb2
        have HBr2 := Lib.hid (HBr.out.trans (hb2.mono HBr.out.size))
        have hsz2 := hb2.size
        clear htx hb2 c0
        cases all with
        | false =>
          go_wp2_with fail
          refine (HAw.out _ HBr2.out).mono ?_
          rintro e w2 ⟨rfl, hb2⟩
          go_wp2_with fail
          go_ret
          exact ⟨rfl, (HW.out _ (HBr2.out.trans (hb2.mono HBr2.out.size))).1⟩
        | true =>
          go_wp2_with fail
          go_loopw [13] (fun kv wr => ∃ k : Nat, kv = .int .i64 k ∧ k ≤ x.length ∧ wr = w2) (fun kv _ => x.length - (intOf kv).toNat)
          case atStart => exact ⟨0, rfl, Nat.zero_le _, rfl⟩
          case round =>
            obtain ⟨k, rfl, hkx, rfl⟩ := hrel
            rename World => w2
            have c0 := (Below.toFrame HB2.out fun _ => False).cell? HC0.out (fun h => h)
            by_cases hk : k < x.length
            · obtain ⟨c, hc⟩ : ∃ c, x[k]? = some c := ⟨x[k]'hk, List.getElem?_eq_getElem hk⟩
              obtain ⟨_, _, e, -, hcx⟩ := HBy.out.below HB2.out
              cases e
              obtain ⟨gx, ox, rfl, -, hxx⟩ := hcx k c hc
              have q2 : (0 : Int) ≤ (k : Int) := by omega
              have q3 : (k : Int) < (x.length : Int) := by omega
              clear hc hcx
              by_cases hca : c = a
              · have t2 : ((c.toNat : Int) == (a.toNat : Int)) = true := by simp [hca]
                go_wp2_with fail
                refine (HAw.out _ HBr2.out).mono ?_
                rintro e w2 ⟨rfl, hb2⟩
                go_wp2_with fail
                go_ret
                exact ⟨rfl, (HW.out _ (HBr2.out.trans (hb2.mono HBr2.out.size))).1⟩
              · have t2 : ((c.toNat : Int) == (a.toNat : Int)) = false := by
                  simp
                  intro e
                  exact hca (UInt8.toNat_inj.1 (by omega))
                clear hca
                go_wp2_with fail
                go_roundw
                case rel => exact ⟨k + 1, by go_num, by omega, trivial⟩
                case measure => simp [intOf]; omega
            · have q3 : ¬ (k : Int) < (x.length : Int) := by omega
              go_wp2_with (at_builtin; refine wpList_append_all rfl (.tmp 89) (.tmp 91) rfl (.slice la L.length lc, L) w2.heap.size rfl ((HAll.out.below HB2.out).below ((Below.refl w2.heap.size w2).alloc (Nat.le_refl _) _)) rfl (heap_alloc_last w2 _) ⟨_, _, rfl, hlc⟩ (texts_mono (HTx.out.below ((Below.refl w2.heap.size w2).alloc (Nat.le_refl _) _)) (fun k _ hk e => by have := (HAll.out.row.lt k e).2; omega)) (by omega) (by simp; omega) ?_; intro v' w3 hall3 hg3; have HAll3 := Lib.hid hall3; have HG3 := Lib.hid hg3; clear hall3 hg3)
              go_roundw
              case rel =>
                refine ⟨_, rs ++ [(.slice la L.length lc, L)], rfl, ?_, by rw [List.length_append, List.length_singleton]; go_num, by simp; omega, fun k p hk => ?_, HAll3.out, ?_⟩
                · rw [List.length_append, List.length_singleton, maxN, ← HL.out]
                  congr 1
                  omega
                · by_cases hkr : k < rs.length
                  · rw [List.getElem?_append_left hkr] at hk
                    exact HRs.out k p hk
                  · rw [List.getElem?_append_right (by omega)] at hk
                    have h0 : k - rs.length = 0 := by
                      have := (List.getElem?_eq_some_iff.1 hk).1
                      simp at this
                      omega
                    have hkk : k = rs.length := by omega
                    subst hkk
                    rw [h0] at hk
                    simp at hk
                    subst hk
                    exact ⟨x, HX.out, HL.out, HAl.out.symm, by omega⟩
                · have hb3 := HBr2.out.alloc HBr2.out.size (.cells #[.slice la L.length lc] 65)
                  exact hb3.grown HG3.out hb3.size (fun k e => (HAll.out.row.lt k e).1)
              case measure => simp [intOf]; omega
      · have hle : rs.length = xs.length := by omega
        have q1 : ¬ (rs.length : Int) < (xs.length : Int) := by omega
        have hget : ∀ k, k < xs.length → ∃ lv x, rs[k]? = some (lv, rdW (insF (toldIns xs) k)) ∧ xs[k]? = some x ∧ rdOv (insF (toldIns xs) k) = true ∧ x.length ≤ 1000 := fun k hk => by
          have h2 : rs[k]? = some (rs[k]'(by omega)) := List.getElem?_eq_getElem (by omega)
          obtain ⟨x, h3, h4, h5, h6⟩ := HRs.out k _ h2
          exact ⟨(rs[k]'(by omega)).1, x, by rw [h2, ← h4], h3, h5, h6⟩
        have hlens : ∀ x ∈ xs, x.length ≤ 1000 := fun x hx => by
          obtain ⟨k, hk⟩ := List.mem_iff_getElem?.1 hx
          obtain ⟨_, y, -, h3, -, h6⟩ := hget k (List.getElem?_eq_some_iff.1 hk).1
          rw [hk] at h3
          cases h3
          exact h6
        have hcell0 : ∃ G cap, la0 = some ⟨G, 0, none⟩ ∧ lc0 = cap ∧ ∀ k, k < xs.length → ∀ W, Below WR.heap.size WR W → ∃ la lc, W.cell? ⟨G, k, none⟩ = some (.slice la (rdW (insF (toldIns xs) k)).length lc) ∧ ∀ n l, (rdW (insF (toldIns xs) k))[n]? = some l → ∃ gb off, la = some ⟨gb, off, none⟩ ∧ W.cell? ⟨gb, off + n, none⟩ = some (strV l) := by
          obtain ⟨_, _, h0, -⟩ := hget 0 (by omega)
          obtain ⟨G, cap, _, _, hv, -⟩ := HAll.out.at h0
          cases hv
          refine ⟨G, _, rfl, rfl, fun k hk W hb => ?_⟩
          obtain ⟨_, _, hk0, -⟩ := hget k hk
          obtain ⟨G', cap', la, lc, hv', k1, k2⟩ := (HAll.out.below hb).at hk0
          cases hv'
          exact ⟨la, lc, k1, k2⟩
        obtain ⟨G, cap, hla, hlc, hcell⟩ := hcell0
        subst hla hlc
        have HCell := Lib.hid hcell
        have hok : pasteOk xs.length [a] [] := ⟨⟨by omega, by omega⟩, rfl⟩
        obtain ⟨D, hD⟩ : ∃ D, D = drive (pasteF xs.length [a] []) (toldIns xs) cuts 100000 0 (start (pasteF xs.length [a] []) (pasteI xs.length [a] [])) := ⟨_, rfl⟩
        obtain ⟨o0, ofine, hcw⟩ := paste_told xs [a] cuts hok hlens (fun k hk => by obtain ⟨_, _, -, -, h, -⟩ := hget k hk; exact h) D hD
        obtain ⟨hbw, hbB⟩ := HW.out _ HBr.out
        have htold := told_any xs.length (.slice (some ⟨w.heap.size, 0, none⟩) 1 1) (.slice none 0 0) (.slice ac cuts.length cc) (.slice ai xs.length ci) [a] [] xs cuts WR (HT.out _ hbw) (pm_bytes (HA0.out.below hbB)) (pm_nil _) ((HI.out _ hbw).mono' (fun k hk _ => hk)) ((HC.out _ hbw).mono (fun k hk _ => hk)) (paste_takeE xs.length a (by omega) (by omega) HTen.out) hok (by simp) (by simp) rfl (by omega) (fun x hx => by have := hlens x hx; omega) (by omega)
        unfold Pm.parV at htold
        rw [← hD] at htold
        obtain ⟨c0, c1, c2, c3⟩ := HBox.out _ hbB
        have HTo := Lib.hid htold
        have HO0 := Lib.hid o0
        have HFine := Lib.hid ofine
        have HCw := Lib.hid hcw
        obtain ⟨rows, hrows⟩ : ∃ rows, rows = maxN (fun j => (rdW (insF (toldIns xs) j)).length) xs.length := ⟨_, rfl⟩
        rw [hle, ← hrows]
        rw [← hrows] at HO0
        have hrle : rows ≤ 1001 := by
          rcases Nat.eq_zero_or_pos rows with h | h
          · omega
          · obtain ⟨j, j1, j2⟩ := (maxN_lt (fun j => (rdW (insF (toldIns xs) j)).length) (rows - 1) xs.length).1 (by omega)
            have h3 := hcw j j1
            have h4 := cW_len (rdW (insF (toldIns xs) j))
            omega
        have HRows := Lib.hid hrows
        clear hget hlens hcell hok hD o0 ofine hcw hbw hbB htold hrows hle hlt
        go_wp2_with fail
        refine HTo.out.mono ?_
        rintro e w3 ⟨rfl, hb3⟩
        rw [HFine.out]
        obtain ⟨S0, S1, S2, S3, e0, -, -, -, hlit⟩ := got_lit D.got
        rw [hlit]
        rw [HO0.out] at e0
        have HE0 := Lib.hid e0
        have HB3 := Lib.hid hb3
        clear hlit e0 c0 c1 c2 c3 hb3
        go_wp2_with fail
        obtain ⟨SA, hSA⟩ : ∃ S : ByteArray, strV [a] = .string S := ⟨_, rfl⟩
        have HSA := Lib.hid hSA
        have hconv : ∀ W : World, (convert 22 9 (.slice (some ⟨W.heap.size, 0, none⟩) 1 1)).run Tryd.prog (W.alloc (.cells #[.int .u8 a.toNat] 5)) = .ok (.string SA) (W.alloc (.cells #[.int .u8 a.toNat] 5)) := fun W => by
          rw [← hSA]
          exact conv_any (one_byte W a (fun _ => True) trivial (0, 0))
        have HConv := Lib.hid hconv
        clear hSA hconv
        go_loopw [16, 17] (fun tv rv wr => ∃ (r : Nat) (S : ByteArray), tv = .string S ∧ strV (rowsC xs.length [a] (insF (toldIns xs)) r (rows - r)) = .string S ∧ rv = .int .i64 r ∧ r ≤ rows ∧ Below WR.heap.size WR wr) (fun _ rv _ => rows - (intOf rv).toNat)
        case atStart => exact ⟨0, _, rfl, HE0.out, rfl, Nat.zero_le _, HB3.out.alloc HB3.out.size _⟩
        case round =>
          obtain ⟨r, S, rfl, hS, rfl, hrr, hbr3⟩ := hrel
          rename World => W5
          have HS3 := Lib.hid hS
          have HBr3 := Lib.hid hbr3
          clear hS hbr3
          by_cases hlt3 : r < rows
          · have q3 : (r : Int) < (rows : Int) := by omega
            have hS4 := HS3.out
            rw [show rows - r = (rows - (r + 1)) + 1 by omega, rowsC] at hS4
            have HS4 := Lib.hid hS4
            clear hS4
            go_wp2_with fail
            go_loopw [16, 18] (fun tv iv wr => ∃ (i : Nat) (S : ByteArray), tv = .string S ∧ strV (tailC xs.length [a] (insF (toldIns xs)) r i (xs.length - i) ++ rowsC xs.length [a] (insF (toldIns xs)) (r + 1) (rows - (r + 1))) = .string S ∧ iv = .int .i64 i ∧ i ≤ xs.length ∧ Below WR.heap.size WR wr) (fun _ iv _ => xs.length - (intOf iv).toNat)
            case atStart => exact ⟨0, _, rfl, HS4.out, rfl, Nat.zero_le _, HBr3.out⟩
            case round =>
              obtain ⟨i, S, rfl, hS, rfl, hii, hbr4⟩ := hrel
              rename World => W6
              have HS := Lib.hid hS
              have HBr4 := Lib.hid hbr4
              have q0 : (0 : Int) ≤ (i : Int) := by omega
              have q00 : (0 : Int) ≤ (r : Int) := by omega
              by_cases hlt4 : i < xs.length
              · obtain ⟨la, lc, k1, k2⟩ := HCell.out i hlt4 W6 hbr4
                have hcw := HCw.out i hlt4
                have q5 : (i : Int) < (xs.length : Int) := by omega
                have q55 : (i : Int) < (rs.length : Int) := by omega
                have kc := HConv.out W6
                clear hS hbr4
                by_cases hn : r < (rdW (insF (toldIns xs) i)).length
                · by_cases hlast : i + 1 = xs.length
                  · obtain ⟨l, hl⟩ : ∃ l, (rdW (insF (toldIns xs) i))[r]? = some l := ⟨(rdW (insF (toldIns xs) i))[r]'hn, List.getElem?_eq_getElem hn⟩
                    obtain ⟨gx, ox, rfl, hx⟩ := k2 r l hl
                    obtain ⟨Sl, hSl⟩ : ∃ S : ByteArray, strV l = .string S := ⟨_, rfl⟩
                    rw [hSl] at hx
                    have hfld : fldC (insF (toldIns xs)) r i = l := by rw [fldC, hl]; rfl
                    have q6 : (r : Int) < ((rdW (insF (toldIns xs) i)).length : Int) := by omega
                    have hl1 := cW_mem _ l (List.mem_of_getElem? hl)
                    have t3 : ((i : Int) == (xs.length : Int) - 1) = true := by simp; omega
                    have hends : endsC xs.length [a] i = [10] := if_pos (by omega)
                    obtain ⟨SE, hSE0, hSE⟩ : ∃ S : ByteArray, S = { data := #[10] } ∧ strV [10] = .string S := ⟨_, rfl, rfl⟩
                    have zl := strV_size hSl
                    have zE := strV_size hSE
                    have b2 : SE.size ≤ 100 := by rw [zE]; simp
                    have b3 : Sl.size + SE.size ≤ 100000 := by omega
                    have a1 := add_fits (S := Sl) (T := SE) (by omega) (by omega)
                    have hadd := strV_add hSl hSE
                    have htl : tailC xs.length [a] (insF (toldIns xs)) r i (xs.length - i) = (l ++ [10]) ++ tailC xs.length [a] (insF (toldIns xs)) r (i + 1) (xs.length - (i + 1)) := by
                      rw [show xs.length - i = (xs.length - (i + 1)) + 1 by omega, tailC, hfld, hends]
                    have hS2 := HS.out
                    rw [htl, List.append_assoc] at hS2
                    have hparts := str_parts hadd hS2
                    have HParts := Lib.hid hparts
                    subst hSE0
                    clear hadd htl hS2 hSl hSE hl hends hfld zl zE hl1 hparts
                    go_upto_region 36 with fail
                    obtain ⟨SX, hSX⟩ : ∃ SX, SX = Sl ++ ({ data := #[10] } : ByteArray) := ⟨_, rfl⟩
                    rw [← hSX] at HParts ⊢
                    obtain ⟨p1, p2, p3⟩ := HParts.out
                    have HP3 := Lib.hid p3
                    have b1 : ¬ (S.size : Int) < (SX.size : Int) := by omega
                    have b4 : (SX.size : Int) ≤ (S.size : Int) := by omega
                    clear hSX p3 HParts a1 b2 b3 p1
                    go_wp2_with fail
                    go_roundw
                    case rel => exact ⟨i + 1, _, rfl, HP3.out, by go_num, by omega, HBr4.out.alloc HBr4.out.size _⟩
                    case measure => simp [intOf]; omega
                  · obtain ⟨l, hl⟩ : ∃ l, (rdW (insF (toldIns xs) i))[r]? = some l := ⟨(rdW (insF (toldIns xs) i))[r]'hn, List.getElem?_eq_getElem hn⟩
                    obtain ⟨gx, ox, rfl, hx⟩ := k2 r l hl
                    obtain ⟨Sl, hSl⟩ : ∃ S : ByteArray, strV l = .string S := ⟨_, rfl⟩
                    rw [hSl] at hx
                    have hfld : fldC (insF (toldIns xs)) r i = l := by rw [fldC, hl]; rfl
                    have q6 : (r : Int) < ((rdW (insF (toldIns xs) i)).length : Int) := by omega
                    have hl1 := cW_mem _ l (List.mem_of_getElem? hl)
                    have t3 : ((i : Int) == (xs.length : Int) - 1) = false := by simp; omega
                    have hends : endsC xs.length [a] i = [a] := if_neg (by omega)
                    obtain ⟨SE, hSE0, hSE⟩ : ∃ S : ByteArray, S = SA ∧ strV [a] = .string S := ⟨_, rfl, HSA.out⟩
                    have zl := strV_size hSl
                    have zE := strV_size hSE
                    have b2 : SE.size ≤ 100 := by rw [zE]; simp
                    have b3 : Sl.size + SE.size ≤ 100000 := by omega
                    have a1 := add_fits (S := Sl) (T := SE) (by omega) (by omega)
                    have hadd := strV_add hSl hSE
                    have htl : tailC xs.length [a] (insF (toldIns xs)) r i (xs.length - i) = (l ++ [a]) ++ tailC xs.length [a] (insF (toldIns xs)) r (i + 1) (xs.length - (i + 1)) := by
                      rw [show xs.length - i = (xs.length - (i + 1)) + 1 by omega, tailC, hfld, hends]
                    have hS2 := HS.out
                    rw [htl, List.append_assoc] at hS2
                    have hparts := str_parts hadd hS2
                    have HParts := Lib.hid hparts
                    subst hSE0
                    clear hadd htl hS2 hSl hSE hl hends hfld zl zE hl1 hparts
                    go_upto_region 36 with fail
                    obtain ⟨SX, hSX⟩ : ∃ SX, SX = Sl ++ SE := ⟨_, rfl⟩
                    rw [← hSX] at HParts ⊢
                    obtain ⟨p1, p2, p3⟩ := HParts.out
                    have HP3 := Lib.hid p3
                    have b1 : ¬ (S.size : Int) < (SX.size : Int) := by omega
                    have b4 : (SX.size : Int) ≤ (S.size : Int) := by omega
                    clear hSX p3 HParts a1 b2 b3 p1
                    go_wp2_with fail
                    go_roundw
                    case rel => exact ⟨i + 1, _, rfl, HP3.out, by go_num, by omega, HBr4.out.alloc HBr4.out.size _⟩
                    case measure => simp [intOf]; omega
                · by_cases hlast : i + 1 = xs.length
                  · obtain ⟨l, hl⟩ : ∃ l : List UInt8, l = [] := ⟨_, rfl⟩
                    obtain ⟨Sl, hSl⟩ : ∃ S : ByteArray, S = { data := #[] } ∧ strV l = .string S := ⟨_, rfl, by rw [hl]; rfl⟩
                    obtain ⟨hSl0, hSl⟩ := hSl
                    have hfld : fldC (insF (toldIns xs)) r i = l := by rw [fldC, List.getElem?_eq_none (by omega), hl]; rfl
                    have q6 : ¬ (r : Int) < ((rdW (insF (toldIns xs) i)).length : Int) := by omega
                    have hl1 : l.length + 1 ≤ 1001 := by rw [hl]; simp
                    have t3 : ((i : Int) == (xs.length : Int) - 1) = true := by simp; omega
                    have hends : endsC xs.length [a] i = [10] := if_pos (by omega)
                    obtain ⟨SE, hSE0, hSE⟩ : ∃ S : ByteArray, S = { data := #[10] } ∧ strV [10] = .string S := ⟨_, rfl, rfl⟩
                    have zl := strV_size hSl
                    have zE := strV_size hSE
                    have b2 : SE.size ≤ 100 := by rw [zE]; simp
                    have b3 : Sl.size + SE.size ≤ 100000 := by omega
                    have a1 := add_fits (S := Sl) (T := SE) (by omega) (by omega)
                    have hadd := strV_add hSl hSE
                    have htl : tailC xs.length [a] (insF (toldIns xs)) r i (xs.length - i) = (l ++ [10]) ++ tailC xs.length [a] (insF (toldIns xs)) r (i + 1) (xs.length - (i + 1)) := by
                      rw [show xs.length - i = (xs.length - (i + 1)) + 1 by omega, tailC, hfld, hends]
                    have hS2 := HS.out
                    rw [htl, List.append_assoc] at hS2
                    have hparts := str_parts hadd hS2
                    have HParts := Lib.hid hparts
                    subst hSE0
                    subst hSl0
                    clear hadd htl hS2 hSl hSE hl hends hfld zl zE hl1 hparts
                    go_upto_region 36 with fail
                    obtain ⟨SX, hSX⟩ : ∃ SX, SX = ({ data := #[] } : ByteArray) ++ ({ data := #[10] } : ByteArray) := ⟨_, rfl⟩
                    rw [← hSX] at HParts ⊢
                    obtain ⟨p1, p2, p3⟩ := HParts.out
                    have HP3 := Lib.hid p3
                    have b1 : ¬ (S.size : Int) < (SX.size : Int) := by omega
                    have b4 : (SX.size : Int) ≤ (S.size : Int) := by omega
                    clear hSX p3 HParts a1 b2 b3 p1
                    go_wp2_with fail
                    go_roundw
                    case rel => exact ⟨i + 1, _, rfl, HP3.out, by go_num, by omega, HBr4.out.alloc HBr4.out.size _⟩
                    case measure => simp [intOf]; omega
                  · obtain ⟨l, hl⟩ : ∃ l : List UInt8, l = [] := ⟨_, rfl⟩
                    obtain ⟨Sl, hSl⟩ : ∃ S : ByteArray, S = { data := #[] } ∧ strV l = .string S := ⟨_, rfl, by rw [hl]; rfl⟩
                    obtain ⟨hSl0, hSl⟩ := hSl
                    have hfld : fldC (insF (toldIns xs)) r i = l := by rw [fldC, List.getElem?_eq_none (by omega), hl]; rfl
                    have q6 : ¬ (r : Int) < ((rdW (insF (toldIns xs) i)).length : Int) := by omega
                    have hl1 : l.length + 1 ≤ 1001 := by rw [hl]; simp
                    have t3 : ((i : Int) == (xs.length : Int) - 1) = false := by simp; omega
                    have hends : endsC xs.length [a] i = [a] := if_neg (by omega)
                    obtain ⟨SE, hSE0, hSE⟩ : ∃ S : ByteArray, S = SA ∧ strV [a] = .string S := ⟨_, rfl, HSA.out⟩
                    have zl := strV_size hSl
                    have zE := strV_size hSE
                    have b2 : SE.size ≤ 100 := by rw [zE]; simp
                    have b3 : Sl.size + SE.size ≤ 100000 := by omega
                    have a1 := add_fits (S := Sl) (T := SE) (by omega) (by omega)
                    have hadd := strV_add hSl hSE
                    have htl : tailC xs.length [a] (insF (toldIns xs)) r i (xs.length - i) = (l ++ [a]) ++ tailC xs.length [a] (insF (toldIns xs)) r (i + 1) (xs.length - (i + 1)) := by
                      rw [show xs.length - i = (xs.length - (i + 1)) + 1 by omega, tailC, hfld, hends]
                    have hS2 := HS.out
                    rw [htl, List.append_assoc] at hS2
                    have hparts := str_parts hadd hS2
                    have HParts := Lib.hid hparts
                    subst hSE0
                    subst hSl0
                    clear hadd htl hS2 hSl hSE hl hends hfld zl zE hl1 hparts
                    go_upto_region 36 with fail
                    obtain ⟨SX, hSX⟩ : ∃ SX, SX = ({ data := #[] } : ByteArray) ++ SE := ⟨_, rfl⟩
                    rw [← hSX] at HParts ⊢
                    obtain ⟨p1, p2, p3⟩ := HParts.out
                    have HP3 := Lib.hid p3
                    have b1 : ¬ (S.size : Int) < (SX.size : Int) := by omega
                    have b4 : (SX.size : Int) ≤ (S.size : Int) := by omega
                    clear hSX p3 HParts a1 b2 b3 p1
                    go_wp2_with fail
                    go_roundw
                    case rel => exact ⟨i + 1, _, rfl, HP3.out, by go_num, by omega, HBr4.out.alloc HBr4.out.size _⟩
                    case measure => simp [intOf]; omega
              · have hieq : i = xs.length := by omega
                have q5 : ¬ (i : Int) < (xs.length : Int) := by omega
                have hS5 := HS.out
                rw [hieq, Nat.sub_self, tailC, List.nil_append] at hS5
                have HS5 := Lib.hid hS5
                clear hS5 hS hbr4 hieq
                go_wp2_with fail
                go_roundw
                case rel => exact ⟨r + 1, S, rfl, HS5.out, by go_num, by omega, HBr4.out⟩
                case measure => simp [intOf]; omega
          · have hreq : r = rows := by omega
            have q3 : ¬ (r : Int) < (rows : Int) := by omega
            have hS5 := HS3.out
            rw [hreq, Nat.sub_self, rowsC] at hS5
            obtain rfl : S = { data := #[] } := by injection hS5 with h; exact h.symm
            clear hS5 hreq
            go_wp2_with fail
            refine (HAw.out _ (HBr.out.trans (HBr3.out.mono HBr.out.size))).mono ?_
            rintro e w5 ⟨rfl, hb5⟩
            go_wp2_with fail
            go_ret
            exact ⟨rfl, (HW.out _ ((HBr.out.trans (HBr3.out.mono HBr.out.size)).trans (hb5.mono (HBr.out.trans (HBr3.out.mono HBr.out.size)).size))).1⟩

end Go.Proofs.YteghdepedlaneaaDoor
