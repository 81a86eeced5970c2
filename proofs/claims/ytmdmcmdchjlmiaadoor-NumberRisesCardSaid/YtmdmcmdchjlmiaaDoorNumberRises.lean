/- NumberRises's walk. -/
import Derived.Test.YtmdmcmdchjlmiaaDoorNumberRiseskit
import Derived.Test.YtmdmcmdchjlmiaaDoorJoinback
import Derived.Test.YtmdmcmdchjlmiaaDoorRA
import Derived.Deep.RegionHeld3
namespace Go.Proofs.YtmdmcmdchjlmiaaDoor
open Go.RowKit

set_option maxRecDepth 100000 in
set_option maxHeartbeats 16000000 in
theorem risesLaw_any (n : Int) (xv cv : Value) (x : List UInt8) (cuts : List Int) (w : World) (hT : TenTab w) (hX : IsBytes (· < w.heap.size) w xv x) (hC : IsInts (· < w.heap.size) w cv cuts) :
    Calls Tryd.prog 9 #[.int .i64 n, xv, cv] w (Pm.Gives w (.bool true)) := by
  have HT := Lib.hid (show ∀ W, Below w.heap.size w W → TenTab W from fun W hb => hT.below hb)
  have HX := Lib.hid (show ∀ W, Below w.heap.size w W → IsBytes (· < w.heap.size) W xv x from fun W hb => hX.below hb)
  have HC := Lib.hid (show ∀ W, Below w.heap.size w W → IsInts (· < w.heap.size) W cv cuts from fun W hb => hC.below hb)
  obtain ⟨ax, cx, rfl, -, -⟩ := id hX
  obtain ⟨ac, cc, rfl, -⟩ := id hC
  clear hT hX hC
  go_enter Tryd.func9, Tryd.ntmps9
  obtain ⟨H, hH⟩ : ∃ H, H = heavyB [] [] [] [cuts] := ⟨_, rfl⟩
  have HH := Lib.hid hH
  clear hH
  go_wp2_with fail
  have hbox : Below w.heap.size w (w.alloc (.cells #[.int .i64 10, .int .i64 n, .slice none 0 0, .slice none 0 0] 24)) := (Below.refl _ _).alloc (Nat.le_refl _) _
  have hbx2 : Below w.heap.size w ((w.alloc (.cells #[.int .i64 10, .int .i64 n, .slice none 0 0, .slice none 0 0] 24)).alloc (.cells #[.slice ac cuts.length cc] 37)) := hbox.alloc (by simp) _
  have hcc := ints_list (w.alloc (.cells #[.int .i64 10, .int .i64 n, .slice none 0 0, .slice none 0 0] 24)) (.slice ac cuts.length cc) cuts (fun _ => True) trivial ((HC.out _ hbox).mono (fun _ _ _ => trivial)) (0, 0)
  rw [World.size_alloc] at hcc
  have hheavy := heavy_any 10 n (.slice none 0 0) (.slice none 0 0) (.slice none 0 0) _ [] [] [] [cuts] _ (pm_nil _) (pm_nil _) (nil_strms _) hcc (by simp)
  unfold Pm.parV at hheavy
  refine hheavy.mono ?_
  clear hheavy hcc
  rintro e w1 ⟨rfl, hb1⟩
  obtain ⟨c0, c1, c2, c3⟩ := box_cells (((Below.refl _ _).alloc (Nat.le_refl _) _).trans (hb1.mono (by simp)))
  have hb := hbx2.trans (hb1.mono hbx2.size)
  have HW := Lib.hid hb
  have HBX := Lib.hid (show ∀ W, Below w1.heap.size w1 W → W.cell? ⟨w.heap.size, 0, none⟩ = some (.int .i64 10) ∧ W.cell? ⟨w.heap.size, 1, none⟩ = some (.int .i64 n) ∧ W.cell? ⟨w.heap.size, 2, none⟩ = some (.slice none 0 0) ∧ W.cell? ⟨w.heap.size, 3, none⟩ = some (.slice none 0 0) from fun W hb => ⟨Pm.Below.cell hb c0, Pm.Below.cell hb c1, Pm.Below.cell hb c2, Pm.Below.cell hb c3⟩)
  clear hbox hbx2 hb1 hb c0 c1 c2 c3
  rw [← HH.out]
  cases H with
  | true =>
    go_wp2_with fail
    refine (awake_true _ (HT.out _ HW.out)).mono ?_
    rintro e w2 ⟨rfl, hb2⟩
    go_wp2_with fail
    go_ret
    exact ⟨rfl, HW.out.trans (hb2.mono HW.out.size)⟩
  | false =>
    obtain ⟨-, -, -, -, sC⟩ := heavy_no HH.out.symm
    have hcl := sC cuts (by simp)
    clear sC
    by_cases hx : (2000 : Int) < (x.length : Int)
    · go_wp2_with fail
      refine (awake_true _ (HT.out _ HW.out)).mono ?_
      rintro e w2 ⟨rfl, hb2⟩
      go_wp2_with fail
      go_ret
      exact ⟨rfl, HW.out.trans (hb2.mono HW.out.size)⟩
    by_cases h0 : n < 0
    · go_wp2_with fail
      refine (awake_true _ (HT.out _ HW.out)).mono ?_
      rintro e w2 ⟨rfl, hb2⟩
      go_wp2_with fail
      go_ret
      exact ⟨rfl, HW.out.trans (hb2.mono HW.out.size)⟩
    by_cases h9 : 1000000000 < n
    · go_wp2_with fail
      refine (awake_true _ (HT.out _ HW.out)).mono ?_
      rintro e w2 ⟨rfl, hb2⟩
      go_wp2_with fail
      go_ret
      exact ⟨rfl, HW.out.trans (hb2.mono HW.out.size)⟩
    obtain ⟨N, rfl⟩ : ∃ N : Nat, n = N := ⟨n.toNat, by omega⟩
    have hN : N ≤ 1000000000 := by omega
    go_wp2_with fail
    refine (linesOf_any _ x w1 (HX.out _ HW.out) (by omega)).mono ?_
    rintro e w2 ⟨la, lc, rfl, hlc, hTx, hb2⟩
    have hr64 := (readL_lines x true (0, 0, 0)).1
    have hrl := (readL_lines x true (0, 0, 0)).2
    obtain ⟨L, hL⟩ : ∃ L, L = (readL x true (0, 0, 0)).1 := ⟨_, rfl⟩
    obtain ⟨all, hall⟩ : ∃ all, all = (readL x true (0, 0, 0)).2.1 := ⟨_, rfl⟩
    rw [← hL] at hTx hlc hr64 hrl ⊢
    rw [← hall]
    have HL := Lib.hid hL
    have HAll := Lib.hid hall
    have HTx := Lib.hid hTx
    have HR := Lib.hid hr64
    have HW2 := Lib.hid (HW.out.trans (hb2.mono HW.out.size))
    have HB2 := Lib.hid hb2
    clear hL hall hTx hb2 hr64
    cases all with
    | false =>
      go_wp2_with fail
      refine (awake_true _ (HT.out _ HW2.out)).mono ?_
      rintro e w3 ⟨rfl, hb3⟩
      go_wp2_with fail
      go_ret
      exact ⟨rfl, HW2.out.trans (hb3.mono HW2.out.size)⟩
    | true =>
      obtain ⟨c0, c1, c2, c3⟩ := HBX.out _ HB2.out
      go_wp2_with fail
      have hbA : Below w.heap.size w (w2.alloc (.cells #[.slice ax x.length cx] 22)) := HW2.out.alloc HW2.out.size _
      have hpc := pieces_new w2 (.slice ax x.length cx) x (· < (w2.alloc (.cells #[.slice ax x.length cx] 22)).heap.size) (by simp) ((HX.out _ HW2.out).mono (fun k hk _ => by simp; omega)) (0, 0)
      have htold := told_any N (.slice none 0 0) (.slice none 0 0) (.slice ac cuts.length cc) _ [] [] x cuts _ (HT.out _ hbA) (pm_nil _) (pm_nil _) hpc ((HC.out _ hbA).mono (fun k hk _ => hk)) (number_takeE N hN) hN (by simp) (by simp) (by omega) (by omega)
      unfold Pm.parV at htold
      refine htold.mono ?_
      clear htold hpc
      rintro e w3 ⟨rfl, hb3⟩
      obtain ⟨D, hD⟩ : ∃ D, D = drive (numberF N [] []) [⟨x, true, 0, 0, 0⟩] cuts 100000 0 (start (numberF N [] []) (numberI N [] [])) := ⟨_, rfl⟩
      rw [← hD]
      obtain ⟨o0, ofine⟩ := number_whole N x cuts hN (by omega) HAll.out.symm D hD
      rw [ofine]
      obtain ⟨F, S1, S2, S3, e0, -, -, -, hlit⟩ := got_lit D.got
      rw [o0, ← HL.out] at e0
      rw [hlit]
      have HF := Lib.hid e0
      have HW3 := Lib.hid (hbA.trans (hb3.mono hbA.size))
      have HB23 := Lib.hid (((Below.refl w2.heap.size w2).alloc (Nat.le_refl _) (.cells #[.slice ax x.length cx] 22)).trans (hb3.mono (by simp)))
      clear hbA hb3 hD o0 ofine e0 hlit c0 c1 c2 c3
      go_upto_region 8 with fail
      have hr4 := heap_alloc_last w3 (.cells #[.string F, .string S1, .string S2, .string S3, .int .i64 D.got.need, .int .i64 D.got.err, .int .i64 D.got.held, .int .i64 (D.got.taken 0), .int .i64 (D.got.taken 1), .int .i64 (D.got.taken 2), .int .i64 (D.got.taken 3), .bool false] 42)
      have hb4 : Below w3.heap.size w3 (w3.alloc (.cells #[.string F, .string S1, .string S2, .string S3, .int .i64 D.got.need, .int .i64 D.got.err, .int .i64 D.got.held, .int .i64 (D.got.taken 0), .int .i64 (D.got.taken 1), .int .i64 (D.got.taken 2), .int .i64 (D.got.taken 3), .bool false] 42)) := (Below.refl _ _).alloc (Nat.le_refl _) _
      generalize w3.alloc (.cells #[.string F, .string S1, .string S2, .string S3, .int .i64 D.got.need, .int .i64 D.got.err, .int .i64 D.got.held, .int .i64 (D.got.taken 0), .int .i64 (D.got.taken 1), .int .i64 (D.got.taken 2), .int .i64 (D.got.taken 3), .bool false] 42) = W4 at hr4 hb4 ⊢
      have k9 : W4.cell? ⟨w3.heap.size, 0, none⟩ = some (.string F) := by rw [cell_of_row _ _ _ _ _ _ hr4]; rfl
      have HW4 := Lib.hid (HW3.out.trans (hb4.mono HW3.out.size))
      have HB24 := Lib.hid (HB23.out.trans (hb4.mono HB23.out.size))
      have HTl := Lib.hid (show ∀ W, Below W4.heap.size W4 W → IsTexts (fun _ => True) W (.slice la L.length lc) L from fun W hb => (HTx.out.below (HB24.out.trans (hb.mono HB24.out.size))).mono (fun _ _ _ => trivial))
      have HWW := Lib.hid (show ∀ W, Below W4.heap.size W4 W → Below w.heap.size w W from fun W hb => HW4.out.trans (hb.mono HW4.out.size))
      clear hr4 hb4
      go_wp2_with fail
      clear k9
      go_loopw [12, 13] (fun rv iv wr => ∃ i : Nat, rv = strV (joinL (numsL (N + i) (L.drop i))) ∧ iv = .int .i64 i ∧ i ≤ L.length ∧ Below W4.heap.size W4 wr) (fun _ iv _ => L.length - (intOf iv).toNat)
      case atStart => exact ⟨0, by rw [List.drop_zero, Nat.add_zero, HF.out], rfl, Nat.zero_le _, Below.refl _ _⟩
      case round =>
        obtain ⟨i, rfl, rfl, hiL, hbr⟩ := hrel
        have HBr := Lib.hid hbr
        clear hbr
        by_cases hi : i < L.length
        · obtain ⟨l, hl⟩ : ∃ l, L[i]? = some l := ⟨L[i]'hi, List.getElem?_eq_getElem hi⟩
          rw [nums_at hl N]
          have hl64 := HR.out l (List.mem_of_getElem? hl)
          obtain ⟨T, hT⟩ : ∃ T, T = joinL (numsL (N + (i + 1)) (L.drop (i + 1))) := ⟨_, rfl⟩
          have hTl : T.length ≤ 200000 := by
            have h1 := joinL_nums (L.drop (i + 1)) (N + (i + 1)) (by simp; omega)
            have h2 := joinL_len (L := L.drop (i + 1)) (fun l hl => HR.out l (List.mem_of_mem_drop hl))
            rw [← hT] at h1
            simp only [List.length_drop] at h1 h2
            omega
          rw [← hT]
          have HT' := Lib.hid hT
          obtain ⟨m, hm⟩ : ∃ m, m = N + i := ⟨_, rfl⟩
          rw [← hm]
          obtain ⟨Dg, hDg⟩ : ∃ Dg, Dg = Lib.decDigits m := ⟨_, rfl⟩
          have hdl := digits_le 10 m (by omega)
          have hda := digits_all m
          have hdv := digits_val m
          have hdn := digits_some m
          have hdf : 1 < Dg.length → ∀ c, Dg[0]? = some c → c.toNat ≠ 48 := fun h c hc => by
            rw [hDg] at h hc
            refine digits_first m ?_ c hc
            rcases Nat.lt_or_ge m 10 with h1 | h1
            · rw [digits_one h1] at h; omega
            · omega
          rw [← hDg] at hdl hda hdv hdn ⊢
          have hd1 : 1 ≤ Dg.length := by cases h : Dg with | nil => exact absurd h hdn | cons a r => simp
          have HDa := Lib.hid hda
          have HDv := Lib.hid hdv
          have HDf := Lib.hid hdf
          obtain ⟨sl, hsl⟩ : ∃ sl, sl = 32 :: l ++ [10] := ⟨_, rfl⟩
          rw [← hsl]
          have hsll : sl.length = l.length + 2 := by rw [hsl]; simp
          obtain ⟨S, hS⟩ : ∃ S : ByteArray, strV (Dg ++ (sl ++ T)) = .string S := ⟨_, rfl⟩
          rw [hS]
          have zs := strV_size hS
          simp only [List.length_append] at zs
          obtain ⟨Sl, hSl⟩ : ∃ S : ByteArray, strV l = .string S := ⟨_, rfl⟩
          have zl := strV_size hSl
          obtain ⟨SL, hSL⟩ : ∃ SL : ByteArray, SL = { data := #[32] } ++ Sl ++ { data := #[10] } := ⟨_, rfl⟩
          have hSLs : strV sl = .string SL := by
            rw [hsl, hSL, show (32 :: l ++ [10] : List UInt8) = [32] ++ l ++ [10] by simp]
            exact strV_add (strV_add rfl hSl) strV_end
          have zL := strV_size hSLs
          obtain ⟨-, hmid, hrest⟩ := str_mid hS hSLs
          obtain ⟨_, _, e, hcl⟩ := HTl.out _ HBr.out
          cases e
          obtain ⟨gl, ol, rfl, -, hl0⟩ := hcl i l hl
          have HLc := Lib.hid (show ∀ W, Below W4.heap.size W4 W → W.cell? ⟨gl, ol + i, none⟩ = some (.string Sl) from fun W hb => by
            obtain ⟨_, _, e, hc⟩ := HTl.out _ hb
            cases e
            obtain ⟨_, _, e2, -, h2⟩ := hc i l hl
            cases e2
            rw [h2, hSl])
          have HSat := Lib.hid (show ∀ j c, (Dg ++ (sl ++ T))[j]? = some c → j < S.size ∧ ∀ hz : j < S.size, S[j]'hz = c from fun j c h => str_at hS h)
          have HSl := Lib.hid hsl
          have HSL := Lib.hid hSL
          have HMid := Lib.hid hmid
          have HRest := Lib.hid hrest
          have HM := Lib.hid hm
          have p1 : (i : Int) < (L.length : Int) := by omega
          have p0 : (0 : Int) ≤ (i : Int) := by omega
          clear hl hT hDg hda hdv hdn hdf hsl hS hSl hSL hSLs hmid hrest hcl hl0 hm
          go_wp2_with fail
          have hvt : (Value.int .i64 0) = Value.int .i64 ((valD (Dg.take 0) : Nat) : Int) := rfl
          clear hvt
          go_loopw [14, 15] (fun kv dv wr => ∃ j : Nat, kv = .int .i64 ((valD (Dg.take j) : Nat) : Int) ∧ dv = .int .i64 j ∧ j ≤ Dg.length ∧ Below W4.heap.size W4 wr) (fun _ dv _ => Dg.length - (intOf dv).toNat)
          case atStart => exact ⟨0, rfl, rfl, Nat.zero_le _, HBr.out⟩
          case round =>
            obtain ⟨j, rfl, rfl, hj, hbj⟩ := hrel
            have HBj := Lib.hid hbj
            have hvle : valD (Dg.take j) ≤ m := by
              have h := valD_le (Dg.take j) (Dg.drop j)
              rw [List.take_append_drop, HDv.out] at h
              exact h
            obtain ⟨nv, hnv⟩ : ∃ nv, nv = valD (Dg.take j) := ⟨_, rfl⟩
            rw [← hnv] at hvle ⊢
            have HNv := Lib.hid hnv
            obtain ⟨ni, hni⟩ : ∃ ni : Int, ni = (nv : Int) := ⟨_, rfl⟩
            rw [← hni]
            have HNi := Lib.hid hni
            have hml : m ≤ 2000000000 := by have := HM.out; omega
            clear hbj hnv
            by_cases hjd : j < Dg.length
            · obtain ⟨c, hc⟩ : ∃ c, Dg[j]? = some c := ⟨Dg[j]'hjd, List.getElem?_eq_getElem hjd⟩
              obtain ⟨hc1, hc2⟩ := HDa.out c (List.mem_of_getElem? hc)
              have htk : valD (Dg.take (j + 1)) = nv * 10 + (c.toNat - 48) := by rw [take_snoc hc, valD_snoc, HNv.out]
              have hvle2 : valD (Dg.take (j + 1)) ≤ m := by
                have h := valD_le (Dg.take (j + 1)) (Dg.drop (j + 1))
                rw [List.take_append_drop, HDv.out] at h
                exact h
              obtain ⟨hz, hz0⟩ := HSat.out j c (by rw [List.getElem?_append_left hjd]; exact hc)
              have hz1 := hz0 hz
              have HTk := Lib.hid htk
              have g0 : (j : Int) < (S.size : Int) := by omega
              have g00 : (0 : Int) ≤ (j : Int) := by omega
              have g3 : (j : Int) < 12 := by omega
              obtain ⟨ci, hcc⟩ : ∃ ci : Int, ci = (c.toNat : Int) := ⟨_, rfl⟩
              have hci := hcc.symm
              have g1 : (48 : Int) ≤ ci := by omega
              have g2 : ci ≤ 57 := by omega
              have HCc := Lib.hid hcc
              have HC12 := Lib.hid (And.intro hc1 hc2)
              have HVle := Lib.hid hvle2
              have HJd := Lib.hid hjd
              have HNle := Lib.hid (And.intro hvle hml)
              clear htk hc hc1 hc2 hvle2 hjd hvle hcc hni hml hz0
              go_upto_region 15 with fail
              obtain ⟨di, hdi⟩ : ∃ di : Int, di = ci - 48 := ⟨_, rfl⟩
              have w1' : IntKind.u8.wrap di = di := by
                unfold IntKind.wrap
                simp only [show IntKind.u8.bits = 8 from rfl, show IntKind.u8.signed = false from rfl, Bool.false_and, Bool.false_eq_true, if_false]
                omega
              have w2' : ci - 48 = di := hdi.symm
              obtain ⟨ti, hti⟩ : ∃ ti : Int, ti = ni * 10 := ⟨_, rfl⟩
              have hn0 : 0 ≤ ni := by have := HNi.out; omega
              have hn9 : ni ≤ 2000000000 := by have := HNi.out; have := HNle.out; omega
              have w3' : IntKind.i64.wrap ti = ti := by rw [IntKind.wrap_i64]; omega
              have w4' : ni * 10 = ti := hti.symm
              obtain ⟨ri, hri⟩ : ∃ ri : Int, ri = ti + di := ⟨_, rfl⟩
              have w5' : IntKind.i64.wrap ri = ri := by rw [IntKind.wrap_i64]; omega
              have w6' : ti + di = ri := hri.symm
              have hrv : ri = ((valD (Dg.take (j + 1)) : Nat) : Int) := by
                rw [hri, hti, hdi, HTk.out, HNi.out, HCc.out]
                have := HC12.out
                omega
              have hrw : wrap64 (ti + wrap64 di) = ((valD (Dg.take (j + 1)) : Nat) : Int) := by
                rw [← hrv]
                unfold wrap64
                omega
              have HRv := Lib.hid hrw
              clear hdi hti hri hrv hrw hn0 hn9 g1 g2 g3
              go_wp2_with fail
              refine ⟨⟨j + 1, by rw [HRv.out], by go_num, by have := HJd.out; omega, HBj.out⟩, by have := HJd.out; simp [intOf]; omega⟩
            · have hjE : j = Dg.length := by omega
              have hnm : ni = (m : Int) := by
                have h1 := HNv.out
                rw [hjE, List.take_length, HDv.out] at h1
                rw [hni, h1]
              obtain ⟨hz, hz0⟩ := HSat.out j 32 (by rw [hjE, List.getElem?_append_right (Nat.le_refl _), Nat.sub_self, HSl.out]; rfl)
              have hz1 := hz0 hz
              have hmid := HMid.out
              have hrest := HRest.out
              rw [← hjE] at hmid hrest
              have hfst : ¬ (1 : Int) < (j : Int) ∨ ∃ (c : UInt8) (hz : 0 < S.size), (1 : Int) < (j : Int) ∧ S[0]'hz = c ∧ ((c.toNat : Int) == 48) = false := by
                by_cases h1 : 1 < j
                · obtain ⟨c, hc⟩ : ∃ c, Dg[0]? = some c := ⟨Dg[0]'(by omega), List.getElem?_eq_getElem (by omega)⟩
                  obtain ⟨hz, hz0⟩ := HSat.out 0 c (by rw [List.getElem?_append_left (by omega)]; exact hc)
                  have := HDf.out (by omega) c hc
                  exact .inr ⟨c, hz, by omega, hz0 hz, by simp; omega⟩
                · exact .inl (by omega)
              have g0 : (j : Int) < (S.size : Int) := by omega
              have g00 : (0 : Int) ≤ (j : Int) := by omega
              have g3 : (j : Int) < 12 := by omega
              obtain ⟨ci, hcc⟩ : ∃ ci : Int, ci = (((32 : UInt8).toNat : Nat) : Int) := ⟨_, rfl⟩
              have hci := hcc.symm
              have g1 : ¬ (48 : Int) ≤ ci := by rw [hcc]; decide
              have hsum : (N : Int) + (i : Int) = ni := by rw [hnm, HM.out]; push_cast; rfl
              have hwr : IntKind.i64.wrap ni = ni := by rw [IntKind.wrap_i64]; omega
              obtain ⟨en, hen⟩ : ∃ en : Nat, en = j + SL.size := ⟨_, rfl⟩
              have hen2 : (j : Int) + (SL.size : Int) = (en : Int) := by omega
              have hen3 : IntKind.i64.wrap (en : Int) = (en : Int) := by rw [IntKind.wrap_i64]; omega
              rw [← hen] at hmid hrest
              have t2 : ¬ (S.size : Int) < (en : Int) := by omega
              have t2' : ¬ S.size < en := by omega
              have t3 : (en : Int) ≤ (S.size : Int) := by omega
              have t4 : (0 : Int) ≤ (en : Int) := by omega
              have t5 : (j : Int) ≤ (en : Int) := by omega
              have q0 : ¬ (j : Int) = 0 := by omega
              have kl := HLc.out _ HBj.out
              have a1 : (9223372036854775807 < 1 + Sl.size) = False := by simp; omega
              have a2 : (9223372036854775807 < 1 + Sl.size + 1) = False := by simp; omega
              have HRest2 := Lib.hid hrest
              clear hnm hni hml hvle hrest hz0 hcc hen hjd zs zl zL hsll hdl hd1 hl64 hjE hj
              go_upto_region 17 with fail
              go_upto_region 18 with fail
              rw [← HSL.out]
              clear a1 a2 kl hz1 hz g1 g3
              rcases hfst with h1 | ⟨c, hz, h1, hz1, hc48⟩
              · go_upto_region 20 with fail
                go_wp2_with fail
                refine ⟨⟨i + 1, by rw [← HT'.out, HRest2.out], by go_num, by omega, HBj.out⟩, by simp [intOf]; omega⟩
              · go_upto_region 20 with fail
                go_wp2_with fail
                refine ⟨⟨i + 1, by rw [← HT'.out, HRest2.out], by go_num, by omega, HBj.out⟩, by simp [intOf]; omega⟩
        · have hie : i = L.length := by omega
          subst hie
          have hst : strV (joinL (numsL (N + L.length) (L.drop L.length))) = .string { data := #[] } := by
            rw [List.drop_length]
            rfl
          rw [hst]
          have q1 : ¬ (L.length : Int) < (L.length : Int) := by omega
          clear hst
          go_wp2_with fail
          refine (awake_true _ (HT.out _ (HWW.out _ HBr.out))).mono ?_
          rintro e w9 ⟨rfl, hb9⟩
          go_wp2_with fail
          go_ret
          exact ⟨rfl, (HWW.out _ HBr.out).trans (hb9.mono (HWW.out _ HBr.out).size)⟩

end Go.Proofs.YtmdmcmdchjlmiaaDoor
