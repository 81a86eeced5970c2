/- ChainJoins's walk. -/
import Derived.Test.YtnodnbinfhildaaDoorChainTold
import Derived.Test.YtnodnbinfhildaaDoorChainHeavy
import Derived.Test.YtnodnbinfhildaaDoorTakeskit
namespace Go.Proofs.YtnodnbinfhildaaDoor
open Go.RowKit

theorem nil_strms (w : World) : IsStrms (· < w.heap.size) w (.slice none 0 0) [] := ⟨none, 0, rfl, fun j t h => by simp at h⟩
theorem chain_takeE (N : Nat) (h1 : 1 ≤ N) (h4 : N ≤ 4) : takeE 12 12 N [] [] = 0 := by
  obtain rfl | rfl | rfl | rfl : N = 1 ∨ N = 2 ∨ N = 3 ∨ N = 4 := by omega
  all_goals decide
theorem chainL_told (xs : List (List UInt8)) : chainL (toldIns xs) = xs.flatten ∧ chainK (toldIns xs) = xs.length := by
  induction xs with
  | nil => exact ⟨rfl, rfl⟩
  | cons x r ih =>
    obtain ⟨h1, h2⟩ := ih
    constructor
    · show x ++ (if true = true then chainL (toldIns r) else []) = _
      rw [if_pos rfl, h1, List.flatten_cons]
    · show (if true = true then chainK (toldIns r) + 1 else 0) = _
      rw [if_pos rfl, h2, List.length_cons]
theorem chain_told (N : Nat) (xs : List (List UInt8)) (cuts : List Int) (hok : chainOk N [] []) (hlen : xs.length = N) (hx : ∀ x ∈ xs, x.length ≤ 4000) (D : DS Nat) (hD : D = drive (chainF N [] []) (toldIns xs) cuts 100000 0 (start (chainF N [] []) (chainI N [] []))) :
    D.got.outs 0 = xs.flatten ∧ (decide (D.got.err = 0) && decide (D.got.need = -1)) = true := by
  have hl : (toldIns xs).length = N := by rw [toldIns, List.length_map, hlen]
  obtain ⟨d1, d2, d3⟩ := chain_drive N [] [] (toldIns xs) cuts hok hl (fun t ht => by
    obtain ⟨x, h, rfl⟩ := List.mem_map.1 ht
    exact hx x h)
  rw [← hD] at d1 d2 d3
  obtain ⟨h1, h2⟩ := chainL_told xs
  have hn : (chainFin N [] [] (toldIns xs)).need = -1 := by
    show (if chainK (toldIns xs) < (toldIns xs).length then (chainK (toldIns xs) : Int) else -1) = -1
    rw [if_neg (by omega)]
  have he : (chainFin N [] [] (toldIns xs)).err = 0 := rfl
  have ho : (chainFin N [] [] (toldIns xs)).outs 0 = xs.flatten := h1
  exact ⟨by rw [d1, ho], by rw [d2, d3, hn, he]; rfl⟩
theorem flatten_le (xs : List (List UInt8)) (k : Nat) (h : ∀ (j : Nat) x, xs[j]? = some x → j < k → x.length ≤ 1000) : (xs.take k).flatten.length ≤ 1000 * k := by
  induction k with
  | zero => simp
  | succ k ih =>
    have hih := ih (fun j x hx hj => h j x hx (by omega))
    cases hk : xs[k]? with
    | none =>
      have := List.getElem?_eq_none_iff.1 hk
      rw [List.take_of_length_le (by omega)] at hih ⊢
      omega
    | some x =>
      rw [take_snoc hk, List.flatten_append, List.length_append]
      have := h k x hk (by omega)
      have h3 : [x].flatten.length = x.length := by simp
      omega

theorem IsPieces.mono {p q : Nat → Prop} {w : World} {v : Value} {L : List (List UInt8)} (h : IsPieces p w v L) (hpq : ∀ k, k < w.heap.size → p k → q k) : IsPieces q w v L := by
  obtain ⟨a, cap, rfl, hc⟩ := h
  refine ⟨a, cap, rfl, fun j c hj => ?_⟩
  obtain ⟨gb, off, bv, rfl, hp, hx, hb⟩ := hc j c hj
  exact ⟨gb, off, bv, rfl, hpq _ (block_lt_of_cell hx) hp, hx, hb.mono hpq⟩

set_option maxRecDepth 100000 in
set_option maxHeartbeats 16000000 in
theorem joinsLaw_any (iv cv : Value) (xs : List (List UInt8)) (cuts : List Int) (w : World) (hT : Pm.Tab w) (hI : IsPieces (· < w.heap.size) w iv xs) (hC : IsInts (· < w.heap.size) w cv cuts) :
    Calls Tryd.prog 9 #[iv, cv] w (Pm.Gives w (.bool true)) := by
  have HT := Lib.hid (show ∀ W, Below w.heap.size w W → Pm.Tab W from fun W hb => hT.below hb)
  have HI := Lib.hid (show ∀ W, Below w.heap.size w W → IsPieces (· < w.heap.size) W iv xs from fun W hb => hI.below hb)
  have HC := Lib.hid (show ∀ W, Below w.heap.size w W → IsInts (· < w.heap.size) W cv cuts from fun W hb => hC.below hb)
  obtain ⟨ai, ci, rfl, -⟩ := id hI
  obtain ⟨ac, cc, rfl, -⟩ := id hC
  obtain ⟨N, hN⟩ : ∃ N, N = xs.length := ⟨_, rfl⟩
  have HN := Lib.hid hN
  clear hT hI hC hN
  go_enter Tryd.func9, Tryd.ntmps9
  obtain ⟨H, hH⟩ : ∃ H, H = heavyB [] [] [] [cuts] := ⟨_, rfl⟩
  have HH := Lib.hid hH
  clear hH
  go_wp2_with fail
  have hbox : Below w.heap.size w (w.alloc (.cells #[.int .i64 12, .int .i64 xs.length, .slice none 0 0, .slice none 0 0] 24)) := (Below.refl _ _).alloc (Nat.le_refl _) _
  have hbx2 : Below w.heap.size w ((w.alloc (.cells #[.int .i64 12, .int .i64 xs.length, .slice none 0 0, .slice none 0 0] 24)).alloc (.cells #[.slice ac cuts.length cc] 37)) := hbox.alloc (by simp) _
  have hcc := ints_list (w.alloc (.cells #[.int .i64 12, .int .i64 xs.length, .slice none 0 0, .slice none 0 0] 24)) (.slice ac cuts.length cc) cuts (fun _ => True) trivial ((HC.out _ hbox).mono (fun _ _ _ => trivial)) (0, 0)
  rw [World.size_alloc] at hcc
  have hheavy := heavy_any 12 xs.length (.slice none 0 0) (.slice none 0 0) (.slice none 0 0) _ [] [] [] [cuts] _ (pm_nil _) (pm_nil _) (nil_strms _) hcc (by simp)
  unfold Pm.parV at hheavy
  refine hheavy.mono ?_
  clear hheavy hcc
  rintro e w1 ⟨rfl, hb1⟩
  obtain ⟨c0, c1, c2, c3⟩ := box_cells (((Below.refl _ _).alloc (Nat.le_refl _) _).trans (hb1.mono (by simp)))
  have hb := hbx2.trans (hb1.mono hbx2.size)
  have HW := Lib.hid hb
  have HBX := Lib.hid (show ∀ W, Below w1.heap.size w1 W → W.cell? ⟨w.heap.size, 0, none⟩ = some (.int .i64 12) ∧ W.cell? ⟨w.heap.size, 1, none⟩ = some (.int .i64 xs.length) ∧ W.cell? ⟨w.heap.size, 2, none⟩ = some (.slice none 0 0) ∧ W.cell? ⟨w.heap.size, 3, none⟩ = some (.slice none 0 0) from fun W hb => ⟨Pm.Below.cell hb c0, Pm.Below.cell hb c1, Pm.Below.cell hb c2, Pm.Below.cell hb c3⟩)
  clear hbox hbx2 hb1 hb c0 c1 c2 c3
  rw [← HH.out]
  cases H with
  | true =>
    go_wp2_with fail
    refine (awake_true _ (HT.out _ HW.out)).mono ?_
    rintro e w2 ⟨rfl, hb2⟩
    go_wp2_with fail
    go_ret
    exact ⟨rfl, HW.out.trans (hb2.mono HW.out.size)⟩
  | false =>
    obtain ⟨-, -, -, -, sC⟩ := heavy_no HH.out.symm
    have hcl := sC cuts (by simp)
    clear sC
    by_cases h1 : (xs.length : Int) < 1
    · go_wp2_with fail
      refine (awake_true _ (HT.out _ HW.out)).mono ?_
      rintro e w2 ⟨rfl, hb2⟩
      go_wp2_with fail
      go_ret
      exact ⟨rfl, HW.out.trans (hb2.mono HW.out.size)⟩
    by_cases h4 : (4 : Int) < (xs.length : Int)
    · go_wp2_with fail
      refine (awake_true _ (HT.out _ HW.out)).mono ?_
      rintro e w2 ⟨rfl, hb2⟩
      go_wp2_with fail
      go_ret
      exact ⟨rfl, HW.out.trans (hb2.mono HW.out.size)⟩
    have hok : chainOk xs.length [] [] := ⟨by omega, by omega⟩
    have HOk := Lib.hid hok
    have hle4 : xs.length ≤ 4 := by omega
    have HRf := Lib.hid (Below.refl w1.heap.size w1)
    clear hok
    go_wp2_with fail
    go_loopw [6, 7] (fun sv jv wr => ∃ (j : Nat) (S : ByteArray), sv = .string S ∧ strV (xs.take j).flatten = .string S ∧ jv = .int .i64 j ∧ j ≤ xs.length ∧ (∀ (k : Nat) x, xs[k]? = some x → k < j → x.length ≤ 1000) ∧ wr = w1) (fun _ j _ => xs.length - (intOf j).toNat)
    case atStart => exact ⟨0, _, rfl, rfl, rfl, Nat.zero_le _, fun k x _ h => by omega, rfl⟩
    case round =>
      obtain ⟨j, S, rfl, hS, rfl, hle, hlens, rfl⟩ := hrel
      rename World => w1
      have HS := Lib.hid hS
      have HLs := Lib.hid hlens
      have zS := strV_size hS
      have hfl := flatten_le xs j hlens
      clear hS hlens
      by_cases hlt : j < xs.length
      · obtain ⟨x, hx⟩ : ∃ x, xs[j]? = some x := ⟨xs[j]'hlt, List.getElem?_eq_getElem hlt⟩
        obtain ⟨_, _, e, hcs⟩ := HI.out _ HW.out
        cases e
        obtain ⟨gb, off, bv, rfl, -, c0, hby⟩ := hcs j x hx
        have kc := conv_any hby
        obtain ⟨SX, hSX⟩ : ∃ S : ByteArray, strV x = .string S := ⟨_, rfl⟩
        rw [hSX] at kc
        have zX := strV_size hSX
        obtain ⟨ax, cx, rfl, -, -⟩ := hby
        have q0 : (0 : Int) ≤ (j : Int) := by omega
        have q1 : (j : Int) < (xs.length : Int) := by omega
        have HX := Lib.hid hx
        have HSX := Lib.hid hSX
        clear hcs hx hSX
        by_cases hl : (1000 : Int) < (x.length : Int)
        · go_wp2_with fail
          refine (awake_true _ (HT.out _ HW.out)).mono ?_
          rintro e w2 ⟨rfl, hb2⟩
          go_wp2_with fail
          go_ret
          exact ⟨rfl, HW.out.trans (hb2.mono HW.out.size)⟩
        · have a1 : (9223372036854775807 < S.size + SX.size) = False := by simp; omega
          have hadd := strV_add HS.out HSX.out
          have he : (xs.take (j + 1)).flatten = (xs.take j).flatten ++ x := by rw [take_snoc HX.out, List.flatten_append]; simp
          rw [← he] at hadd
          have HAdd := Lib.hid hadd
          have HLs2 := Lib.hid (show ∀ (k : Nat) y, xs[k]? = some y → k < j + 1 → y.length ≤ 1000 from fun k y hy hk => by
            by_cases e : k = j
            · subst e
              rw [HX.out] at hy
              cases hy
              omega
            · exact HLs.out k y hy (by omega))
          clear hadd he zX zS
          go_wp2_with fail
          go_roundw
          case rel => exact ⟨j + 1, _, rfl, HAdd.out, by go_num, by omega, HLs2.out, trivial⟩
          case measure => simp [intOf]; omega
      · obtain rfl : j = xs.length := by omega
        have q1 : ¬ (xs.length : Int) < (xs.length : Int) := by omega
        have hSf := HS.out
        rw [List.take_length] at hSf
        have HSf := Lib.hid hSf
        obtain ⟨c0, c1, c2, c3⟩ := HBX.out _ HRf.out
        clear hSf
        go_wp2_with fail
        have htold := told_any xs.length (.slice none 0 0) (.slice none 0 0) (.slice ac cuts.length cc) (.slice ai xs.length ci) [] [] xs cuts w1 (HT.out _ HW.out) (pm_nil _) (pm_nil _) ((HI.out _ HW.out).mono (fun k hk _ => hk)) ((HC.out _ HW.out).mono (fun k hk _ => hk)) (chain_takeE xs.length HOk.out.1 HOk.out.2) HOk.out (by simp) (by simp) rfl (by omega)
          (fun x hx => by obtain ⟨k, hk⟩ := List.mem_iff_getElem?.1 hx; have := HLs.out k x hk (List.getElem?_eq_some_iff.1 hk).1; omega) (by omega)
        unfold Pm.parV at htold
        refine htold.mono ?_
        clear htold
        rintro e w3 ⟨rfl, hb3⟩
        obtain ⟨D, hD⟩ : ∃ D, D = drive (chainF xs.length [] []) (toldIns xs) cuts 100000 0 (start (chainF xs.length [] []) (chainI xs.length [] [])) := ⟨_, rfl⟩
        rw [← hD]
        obtain ⟨o0, ofine⟩ := chain_told xs.length xs cuts HOk.out rfl (fun x hx => by obtain ⟨k, hk⟩ := List.mem_iff_getElem?.1 hx; have := HLs.out k x hk (List.getElem?_eq_some_iff.1 hk).1; omega) D hD
        rw [ofine]
        obtain ⟨S0, S1, S2, S3, e0, -, -, -, hlit⟩ := got_lit D.got
        rw [o0, HSf.out] at e0
        obtain rfl : S = S0 := by injection e0
        rw [hlit]
        have hbw3 := HW.out.trans (hb3.mono HW.out.size)
        have HW4 := Lib.hid (show ∀ o : Obj, Below w.heap.size w (w3.alloc o) from fun o => hbw3.alloc hbw3.size o)
        clear hD o0 ofine e0 hlit hb3 hbw3 c0 c1 c2 c3
        go_wp2_with fail
        refine (awake_true _ (HT.out _ (HW4.out _))).mono ?_
        rintro e w5 ⟨rfl, hb5⟩
        go_wp2_with fail
        go_ret
        exact ⟨rfl, (HW4.out _).trans (hb5.mono (HW4.out _).size)⟩

end Go.Proofs.YtnodnbinfhildaaDoor
