/- JoinPairs: the law's small calls: parted, rises. -/
import Derived.Test.YtchepmikbnnnhaaDoorJoinDoc
import Derived.Test.YtchepmikbnnnhaaDoorJoinPairskit
namespace Go.Proofs.YtchepmikbnnnhaaDoor
open Go.RowKit

set_option maxRecDepth 100000 in
set_option maxHeartbeats 4000000 in
theorem parted_any (a : UInt8) (l : List UInt8) (w : World) (hl : l.length ≤ 100000) :
    Calls Tryd.prog 27 #[strV l, .int .u8 a.toNat] w fun e w' => e = .returned (.tuple #[strV (keyL a l), strV (restL a l)]) ∧ ∃ n, w' = w.drewN n := by
  obtain ⟨S, hS⟩ : ∃ S : ByteArray, strV l = .string S := ⟨_, rfl⟩
  have hz := strV_size hS
  obtain ⟨n, hn⟩ : ∃ n, n = l.length := ⟨_, rfl⟩
  rw [← hn] at hz hl
  rw [hS]
  have HS := Lib.hid hS
  have HZ := Lib.hid hz
  have HN := Lib.hid hn
  have q0 : (n : Int) ≤ 100000 := by omega
  clear hS hn
  go_enter Tryd.func27, Tryd.ntmps27
  go_wp2_with fail
  go_loopw [6] (fun iv wr => ∃ i : Nat, iv = .int .i64 i ∧ i ≤ n ∧ a ∉ l.take i ∧ wr = w) (fun iv _ => n - (intOf iv).toNat)
  case atStart => exact ⟨0, rfl, Nat.zero_le _, by simp, rfl⟩
  case round =>
    obtain ⟨i, rfl, hi, hno, rfl⟩ := hrel
    have HNo := Lib.hid hno
    clear hno
    by_cases hlt : i < n
    · obtain ⟨c, hc⟩ : ∃ c, l[i]? = some c := ⟨l[i]'(by rw [← HN.out]; exact hlt), List.getElem?_eq_getElem _⟩
      obtain ⟨hz2, hx⟩ := str_byte HS.out hc
      have HC := Lib.hid hc
      have q1 : (0 : Int) ≤ (i : Int) := by omega
      have q2 : (i : Int) < (S.size : Int) := by omega
      have q3 : (i : Int) < (n : Int) := by omega
      clear hc
      by_cases he : c = a
      · have t1 : ((c.toNat : Int) == (a.toNat : Int)) = true := by simp [he]
        obtain ⟨k1, k2⟩ := key_at HNo.out (by rw [HC.out, he])
        have s1 := (str_cut HS.out (i := i) (by have := HN.out; omega)).1
        have s2 := (str_cut HS.out (i := i + 1) (by have := HN.out; omega)).2
        rw [← k1] at s1
        rw [← k2, HZ.out] at s2
        have HS1 := Lib.hid s1
        have HS2 := Lib.hid s2
        have q4 : (i : Int) ≤ (S.size : Int) := by omega
        have q5 : (i : Int) + 1 ≤ (S.size : Int) := by omega
        clear k1 k2 s1 s2
        go_wp2_with fail
        go_quiet (fail)
        go_wp2_with fail
        go_ret2
        rw [HS1.out, HS2.out]
        exact ⟨rfl, _, rfl⟩
      · have t1 : ((c.toNat : Int) == (a.toNat : Int)) = false := by
          simp only [beq_eq_false_iff_ne, ne_eq]
          intro e
          exact he (UInt8.toNat_inj.1 (by omega))
        go_wp2_with fail
        go_roundw
        case rel =>
          refine ⟨i + 1, by go_num, by omega, ?_, trivial⟩
          rw [List.take_add_one, HC.out]
          simp only [Option.toList_some, List.mem_append, List.mem_singleton, not_or]
          exact ⟨HNo.out, fun e => he e.symm⟩
        case measure => simp [intOf]; omega
    · have q3 : ¬ (i : Int) < (n : Int) := by omega
      have hno : a ∉ l := by
        have := HNo.out
        rwa [List.take_of_length_le (by have := HN.out; omega)] at this
      obtain ⟨k1, k2⟩ := key_none hno
      have HK1 := Lib.hid k1
      have HK2 := Lib.hid k2
      have q4 : ¬ (i : Int) < (S.size : Int) := by omega
      clear k1 k2 hno
      go_wp2_with fail
      go_ret2
      rw [HK1.out, HK2.out, HS.out]
      exact ⟨rfl, 0, rfl⟩

set_option maxRecDepth 100000 in
set_option maxHeartbeats 8000000 in
theorem rises_any {p : Nat → Prop} (N : Nat) (a : UInt8) (lv : Value) (L : Lines) (w : World) (h1 : 1 ≤ N) (hN : N ≤ 14) (hL : IsTexts p w lv L) (hLl : L.length ≤ 5000) (hf : ∀ l ∈ L, l.length ≤ 1000) :
    Calls Tryd.prog 25 #[lv, .int .u8 a.toNat, .int .i64 N] w fun e w' => e = .returned (.bool (risesL a N L)) ∧ ∃ n, w' = w.drewN n := by
  have HX := Lib.hid (show ∀ (d : Nat) n l, L[n]? = some l → ∃ gb off, lv = .slice (some ⟨gb, off, none⟩) L.length (match lv with | .slice _ _ c => c | _ => 0) ∧ (w.drewN d).cell? ⟨gb, off + n, none⟩ = some (strV l) from fun d n l hn => by
    obtain ⟨la, lc, rfl, hx⟩ := hL
    obtain ⟨gb, off, rfl, -, hc⟩ := hx n l hn
    exact ⟨gb, off, rfl, hc⟩)
  have HF := Lib.hid hf
  obtain ⟨la, lc, rfl, -⟩ := hL
  obtain ⟨R, hR⟩ : ∃ R, R = risesL a N L := ⟨_, rfl⟩
  rw [← hR]
  obtain ⟨nL, hnL⟩ : ∃ n, n = L.length := ⟨_, rfl⟩
  rw [← hnL] at HX hLl ⊢
  have HnL := Lib.hid hnL
  have HR := Lib.hid hR
  have b1 : (nL : Int) ≤ 5000 := by omega
  have b2 : (N : Int) ≤ 14 := by omega
  have b3 : ¬ (N : Int) < 1 := by omega
  clear hf hnL hR
  go_enter Tryd.func25, Tryd.ntmps25
  go_wp2_with fail
  go_loopw [7, 8] (fun rv iv wr => ∃ run i d : Nat, rv = .int .i64 run ∧ iv = .int .i64 i ∧ wr = w.drewN d ∧ i ≤ nL ∧ run ≤ N ∧ ((i = 0 ∧ run = 0) ∨ ∃ m o, i = m + 1 ∧ L[m]? = some o ∧ R = riseL a N run o (L.drop i))) (fun _ iv _ => nL - (intOf iv).toNat)
  case atStart => exact ⟨0, 0, 0, rfl, rfl, rfl, Nat.zero_le _, Nat.zero_le _, .inl ⟨rfl, rfl⟩⟩
  case round =>
    obtain ⟨run, i, d, rfl, rfl, rfl, hi, hrn, hst⟩ := hrel
    by_cases hlt : i < nL
    · obtain ⟨l, hl⟩ : ∃ l, L[i]? = some l := ⟨L[i]'(by rw [← HnL.out]; exact hlt), List.getElem?_eq_getElem _⟩
      have hdr : L.drop i = l :: L.drop (i + 1) := by
        rw [List.drop_eq_getElem_cons (by rw [← HnL.out]; exact hlt)]
        congr 1
        exact (List.getElem?_eq_some_iff.1 hl).2
      obtain ⟨gb, off, hlv, hx⟩ := HX.out d i l hl
      cases hlv
      have q0 : (0 : Int) ≤ (i : Int) := by omega
      have q1 : (i : Int) < (nL : Int) := by omega
      have q2 : (run : Int) ≤ 14 := by omega
      obtain ⟨SL, hSL⟩ : ∃ S : ByteArray, strV l = .string S := ⟨_, rfl⟩
      obtain ⟨SK, hSK⟩ : ∃ S : ByteArray, strV (keyL a l) = .string S := ⟨_, rfl⟩
      obtain ⟨SR, hSR⟩ : ∃ S : ByteArray, strV (restL a l) = .string S := ⟨_, rfl⟩
      have hl1 := HF.out l (List.mem_of_getElem? hl)
      have hky := parted_any a l (w.drewN d) (by omega)
      rw [hSL, hSK, hSR] at hky
      rw [hSL] at hx
      have HKy := Lib.hid hky
      have HDr := Lib.hid hdr
      have HL := Lib.hid hl
      have HSK := Lib.hid hSK
      clear hky hdr hl hSL hSK hSR hl1
      rcases hst with ⟨hi0, hr0⟩ | ⟨m, o, rfl, hm, hst⟩
      · have HR0 := Lib.hid (show R = riseL a N 1 l (L.drop (i + 1)) by
          have := HDr.out
          rw [hi0, List.drop_zero] at this
          rw [HR.out, this, hi0]
          rfl)
        have q7 : ¬ (0 : Int) < (i : Int) := by omega
        have q9 : ¬ (N : Int) < (run : Int) + 1 := by omega
        have HI0 := Lib.hid hr0
        clear hi0 hr0
        go_wp2_with fail
        refine HKy.out.mono ?_
        rintro e w1 ⟨rfl, n1, rfl⟩
        go_wp2_with fail
        go_roundw
        case rel => exact ⟨run + 1, i + 1, d + n1, by go_num, by go_num, by simp, by omega, by have := HI0.out; omega, .inr ⟨i, l, rfl, HL.out, by rw [HI0.out]; exact HR0.out⟩⟩
        case measure => simp [intOf]; omega
      · obtain ⟨_, _, hlv2, hx2⟩ := HX.out d m o hm
        cases hlv2
        have HM := Lib.hid hm
        have HSt := Lib.hid hst
        have q4 : ((m + 1 : Nat) : Int) - 1 = (m : Int) := by omega
        have q5 : (m : Int) < (nL : Int) := by omega
        have q6 : (0 : Int) ≤ (m : Int) := by omega
        have q7 : (0 : Int) < ((m + 1 : Nat) : Int) := by omega
        have q8 : IntKind.i64.wrap (m : Int) = (m : Int) := by simp [IntKind.wrap, IntKind.bits, IntKind.signed]; omega
        obtain ⟨SO, hSO⟩ : ∃ S : ByteArray, strV o = .string S := ⟨_, rfl⟩
        obtain ⟨SJ, hSJ⟩ : ∃ S : ByteArray, strV (keyL a o) = .string S := ⟨_, rfl⟩
        obtain ⟨SQ, hSQ⟩ : ∃ S : ByteArray, strV (restL a o) = .string S := ⟨_, rfl⟩
        have ho1 := HF.out o (List.mem_of_getElem? HM.out)
        have hky2 := fun n1 => parted_any a o ((w.drewN d).drewN n1) (by omega)
        rw [hSO, hSJ, hSQ] at hky2
        rw [hSO] at hx2
        have HKy2 := Lib.hid hky2
        obtain ⟨d1, d2⟩ := str_less hSJ HSK.out
        obtain ⟨d3, d4⟩ := str_less HSK.out hSJ
        clear hm hst hky2 hSO hSJ hSQ ho1
        go_wp2_with fail
        refine HKy.out.mono ?_
        rintro e w1 ⟨rfl, n1, rfl⟩
        have HKy3 := Lib.hid (HKy2.out n1)
        have hx2 : ((w.drewN d).drewN n1).cell? ⟨gb, off + m, none⟩ = some (.string SO) := hx2
        have HDn := Lib.hid (show (w.drewN d).drewN n1 = w.drewN (d + n1) by simp)
        clear HKy HKy2 hx
        generalize (w.drewN d).drewN n1 = W1 at HKy3 hx2 HDn ⊢
        go_wp2_with fail
        refine HKy3.out.mono ?_
        rintro e w2 ⟨rfl, n2, rfl⟩
        have HDn2 := Lib.hid (show W1.drewN n2 = w.drewN (d + n1 + n2) by rw [HDn.out]; simp)
        clear hx2 HKy3 HDn
        generalize W1.drewN n2 = W2 at HDn2 ⊢
        by_cases hgt : lessL (keyL a l) (keyL a o) = true
        · have HRf := Lib.hid (show R = false by rw [HSt.out, HDr.out, riseL, if_pos hgt])
          have hne : keyL a o ≠ keyL a l := fun e => by rw [e, lessL_self] at hgt; cases hgt
          have e1 : Op.bytesLess SJ.toList SK.toList = false := by rw [d1]; exact lessL_asymm _ _ hgt
          have e2 : (SJ.toList == SK.toList) = false := by rw [d2]; exact decide_eq_false hne
          clear d1 d2 d3 d4 hne hgt
          go_wp2_with fail
          go_ret
          rw [HRf.out]
          exact ⟨rfl, _, HDn2.out⟩
        have hgt' : lessL (keyL a l) (keyL a o) = false := by simpa using hgt
        by_cases hls : lessL (keyL a o) (keyL a l) = true
        · have HRf := Lib.hid (show R = riseL a N 1 l (L.drop (m + 1 + 1)) by rw [HSt.out, HDr.out, riseL, if_neg hgt, if_pos hls, if_neg (by omega)])
          have e1 : Op.bytesLess SJ.toList SK.toList = true := by rw [d1]; exact hls
          clear d1 d2 d3 d4 hls hgt hgt'
          go_wp2_with fail
          go_roundw
          case rel => exact ⟨1, m + 1 + 1, d + n1 + n2, rfl, by go_num, HDn2.out, by omega, h1, .inr ⟨m + 1, l, rfl, HL.out, HRf.out⟩⟩
          case measure => simp [intOf]; omega
        · have he : keyL a o = keyL a l := eq_of_not (by simpa using hls) (by rw [gtrL_iff]; exact hgt')
          have e1 : Op.bytesLess SJ.toList SK.toList = false := by rw [d1]; simpa using hls
          have e2 : (SJ.toList == SK.toList) = true := by rw [d2]; exact decide_eq_true he
          by_cases hbig : N < run + 1
          · have HRf := Lib.hid (show R = false by rw [HSt.out, HDr.out, riseL, if_neg hgt, if_neg hls, if_pos hbig])
            have q9 : (N : Int) < (run : Int) + 1 := by omega
            clear d1 d2 d3 d4 hls hgt hgt' he
            go_wp2_with fail
            go_ret
            rw [HRf.out]
            exact ⟨rfl, _, HDn2.out⟩
          · have HRf := Lib.hid (show R = riseL a N (run + 1) l (L.drop (m + 1 + 1)) by rw [HSt.out, HDr.out, riseL, if_neg hgt, if_neg hls, if_neg hbig])
            have q9 : ¬ (N : Int) < (run : Int) + 1 := by omega
            clear d1 d2 d3 d4 hls hgt hgt' he
            go_wp2_with fail
            go_roundw
            case rel => exact ⟨run + 1, m + 1 + 1, d + n1 + n2, by go_num, by go_num, HDn2.out, by omega, by omega, .inr ⟨m + 1, l, rfl, HL.out, HRf.out⟩⟩
            case measure => simp [intOf]; omega
    · have q1 : ¬ (i : Int) < (nL : Int) := by omega
      have HRt := Lib.hid (show R = true by
        rcases hst with ⟨hi0, -⟩ | ⟨m, o, -, -, h⟩
        · have : L = [] := List.eq_nil_of_length_eq_zero (by rw [← HnL.out]; omega)
          rw [HR.out, this]
          rfl
        · rw [h, List.drop_of_length_le (by rw [← HnL.out]; omega)]
          rfl)
      clear hst
      go_wp2_with fail
      go_ret
      rw [HRt.out]
      exact ⟨rfl, _, rfl⟩

end Go.Proofs.YtchepmikbnnnhaaDoor
