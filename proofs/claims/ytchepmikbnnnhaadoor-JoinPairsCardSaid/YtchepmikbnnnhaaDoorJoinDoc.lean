/- What the document's small calls of join do: Key, pairs, read. -/
import Derived.Test.YtchepmikbnnnhaaDoorJnB
import Derived.Test.YtchepmikbnnnhaaDoorStrparts
import Derived.Test.YtchepmikbnnnhaaDoorRA
import Derived.Test.YtchepmikbnnnhaaDoorMany
import Derived.Test.YtchepmikbnnnhaaDoorGlaws
namespace Go.Proofs.YtchepmikbnnnhaaDoor
open Go.RowKit

theorem str_byte {x : List UInt8} {S : ByteArray} {j : Nat} {c : UInt8} (h : strV x = .string S) (hj : x[j]? = some c) : ∃ hz : j < S.size, S[j]'hz = c := by
  have e1 : S = ⟨x.toArray⟩ := by injection h with h; exact h.symm
  obtain ⟨h1, h2⟩ := List.getElem?_eq_some_iff.1 hj
  subst e1
  exact ⟨h1, h2⟩
theorem str_cut {x : List UInt8} {S : ByteArray} (h : strV x = .string S) {i : Nat} (hi : i ≤ x.length) : strV (x.take i) = .string (S.extract 0 i) ∧ strV (x.drop i) = .string (S.extract i S.size) := by
  have e1 : S = ⟨x.toArray⟩ := by injection h with h; exact h.symm
  have z : S.size = x.length := by rw [e1]; rfl
  refine ⟨?_, ?_⟩
  · have := extract_at x 0 i
    rw [Nat.zero_add] at this
    rw [e1, this]
    simp [strV]
  · have := extract_at x i (x.length - i)
    rw [show i + (x.length - i) = x.length by omega] at this
    rw [z, e1, this, List.take_of_length_le (by simp)]
    rfl
theorem key_at {a : UInt8} : ∀ {l : List UInt8} {i : Nat}, a ∉ l.take i → l[i]? = some a → keyL a l = l.take i ∧ restL a l = l.drop (i + 1)
  | [], i, _, h => by simp at h
  | b :: l, 0, _, h => by
    simp at h
    subst h
    simp [keyL, restL]
  | b :: l, i + 1, hn, h => by
    simp only [List.take_succ_cons, List.mem_cons, not_or] at hn
    have hb : ¬ b = a := fun e => hn.1 e.symm
    obtain ⟨h1, h2⟩ := key_at (l := l) (i := i) hn.2 (by simpa using h)
    have hk : keyL a (b :: l) = b :: keyL a l := by simp [keyL, hb]
    have hr : restL a (b :: l) = restL a l := by simp [restL, hb]
    exact ⟨by rw [hk, h1, List.take_succ_cons], by rw [hr, h2]; rfl⟩
theorem key_none {a : UInt8} : ∀ {l : List UInt8}, a ∉ l → keyL a l = l ∧ restL a l = []
  | [], _ => ⟨rfl, rfl⟩
  | b :: l, h => by
    simp only [List.mem_cons, not_or] at h
    have hb : ¬ b = a := fun e => h.1 e.symm
    obtain ⟨h1, h2⟩ := key_none h.2
    have hk : keyL a (b :: l) = b :: keyL a l := by simp [keyL, hb]
    have hr : restL a (b :: l) = restL a l := by simp [restL, hb]
    exact ⟨by rw [hk, h1], by rw [hr, h2]⟩
set_option maxRecDepth 100000 in
set_option maxHeartbeats 4000000 in
theorem docKey_any (a : UInt8) (l : List UInt8) (w : World) (hl : l.length ≤ 100000) :
    Calls Tryd.prog 41 #[strV l, .int .u8 a.toNat] w fun e w' => e = .returned (.tuple #[strV (keyL a l), strV (restL a l)]) ∧ ∃ n, w' = w.drewN n := by
  obtain ⟨S, hS⟩ : ∃ S : ByteArray, strV l = .string S := ⟨_, rfl⟩
  have hz := strV_size hS
  obtain ⟨n, hn⟩ : ∃ n, n = l.length := ⟨_, rfl⟩
  rw [← hn] at hz hl
  rw [hS]
  have HS := Lib.hid hS
  have HZ := Lib.hid hz
  have HN := Lib.hid hn
  have q0 : (n : Int) ≤ 100000 := by omega
  clear hS hn
  go_enter Tryd.func41, Tryd.ntmps41
  go_wp2_with fail
  go_loopw [6] (fun iv wr => ∃ i : Nat, iv = .int .i64 i ∧ i ≤ n ∧ a ∉ l.take i ∧ wr = w) (fun iv _ => n - (intOf iv).toNat)
  case atStart => exact ⟨0, rfl, Nat.zero_le _, by simp, rfl⟩
  case round =>
    obtain ⟨i, rfl, hi, hno, rfl⟩ := hrel
    have HNo := Lib.hid hno
    clear hno
    by_cases hlt : i < n
    · obtain ⟨c, hc⟩ : ∃ c, l[i]? = some c := ⟨l[i]'(by rw [← HN.out]; exact hlt), List.getElem?_eq_getElem _⟩
      obtain ⟨hz2, hx⟩ := str_byte HS.out hc
      have HC := Lib.hid hc
      have q1 : (0 : Int) ≤ (i : Int) := by omega
      have q2 : (i : Int) < (S.size : Int) := by omega
      have q3 : (i : Int) < (n : Int) := by omega
      clear hc
      by_cases he : c = a
      · have t1 : ((c.toNat : Int) == (a.toNat : Int)) = true := by simp [he]
        obtain ⟨k1, k2⟩ := key_at HNo.out (by rw [HC.out, he])
        have s1 := (str_cut HS.out (i := i) (by have := HN.out; omega)).1
        have s2 := (str_cut HS.out (i := i + 1) (by have := HN.out; omega)).2
        rw [← k1] at s1
        rw [← k2, HZ.out] at s2
        have HS1 := Lib.hid s1
        have HS2 := Lib.hid s2
        have q4 : (i : Int) ≤ (S.size : Int) := by omega
        have q5 : (i : Int) + 1 ≤ (S.size : Int) := by omega
        clear k1 k2 s1 s2
        go_wp2_with fail
        go_quiet (fail)
        go_wp2_with fail
        go_ret2
        rw [HS1.out, HS2.out]
        exact ⟨rfl, _, rfl⟩
      · have t1 : ((c.toNat : Int) == (a.toNat : Int)) = false := by
          simp only [beq_eq_false_iff_ne, ne_eq]
          intro e
          exact he (UInt8.toNat_inj.1 (by omega))
        go_wp2_with fail
        go_roundw
        case rel =>
          refine ⟨i + 1, by go_num, by omega, ?_, trivial⟩
          rw [List.take_add_one, HC.out]
          simp only [Option.toList_some, List.mem_append, List.mem_singleton, not_or]
          exact ⟨HNo.out, fun e => he e.symm⟩
        case measure => simp [intOf]; omega
    · have q3 : ¬ (i : Int) < (n : Int) := by omega
      have hno : a ∉ l := by
        have := HNo.out
        rwa [List.take_of_length_le (by have := HN.out; omega)] at this
      obtain ⟨k1, k2⟩ := key_none hno
      have HK1 := Lib.hid k1
      have HK2 := Lib.hid k2
      have q4 : ¬ (i : Int) < (S.size : Int) := by omega
      clear k1 k2 hno
      go_wp2_with fail
      go_ret2
      rw [HK1.out, HK2.out, HS.out]
      exact ⟨rfl, 0, rfl⟩

theorem pair_eq (a : UInt8) (l m : List UInt8) : pairL a l m = keyL a l ++ [a] ++ restL a l ++ [a] ++ restL a m := by
  unfold pairL
  rw [Lib.join_cons]
  simp [Lib.joinTail]
theorem strV_nl : strV [10] = .string { data := #[10] } := rfl
theorem pairsJ_take {a : UInt8} {G H : Lines} {i : Nat} {l : List UInt8} (h : G[i]? = some l) : pairsJ a (G.take (i + 1)) H = pairsJ a (G.take i) H ++ H.map fun m => pairL a l m := by
  unfold pairsJ
  rw [List.take_add_one, h]
  simp
theorem joinL_pairs_le {a : UInt8} {G H : Lines} (hG : G.length ≤ 14) (hH : H.length ≤ 14) (hg : ∀ l ∈ G, l.length ≤ 64) (hh : ∀ l ∈ H, l.length ≤ 64) : (joinL (pairsJ a G H)).length ≤ 26000 := by
  have key : ∀ L : Lines, (∀ l ∈ L, l.length ≤ 130) → (joinL L).length ≤ 131 * L.length := fun L => by
    induction L with
    | nil => intro _; simp [joinL]
    | cons x r ih =>
      intro h
      have h1 := h x List.mem_cons_self
      have h2 := ih (fun y hy => h y (List.mem_cons_of_mem _ hy))
      have : (joinL (x :: r)).length = x.length + 1 + (joinL r).length := by simp [joinL]; omega
      rw [this, List.length_cons]
      omega
  have h1 := key (pairsJ a G H) (fun x hx => by
    unfold pairsJ at hx
    obtain ⟨l, hl, hx⟩ := List.mem_flatMap.1 hx
    obtain ⟨m, hm, rfl⟩ := List.mem_map.1 hx
    exact pair_len a l m (hg l hl) (hh m hm))
  rw [pairsJ_len] at h1
  have h2 : G.length * H.length ≤ 14 * 14 := Nat.mul_le_mul hG hH
  omega
theorem joinL_prefix (L : Lines) (k : Nat) : (joinL (L.take k)).length ≤ (joinL L).length := by
  have := congrArg joinL (List.take_append_drop k L)
  rw [joinL_append] at this
  rw [← this, List.length_append]
  omega
set_option maxRecDepth 100000 in
set_option maxHeartbeats 8000000 in
theorem docPairs_any {p q : Nat → Prop} (a : UInt8) (key : List UInt8) (G H : Lines) (lv mv : Value) (w : World) (hG : G.length ≤ 14) (hH : H.length ≤ 14) (hg : ∀ l ∈ G, l.length ≤ 64) (hh : ∀ l ∈ H, l.length ≤ 64) (hk : ∀ l ∈ G, keyL a l = key) (hkl : key.length ≤ 64) (hL : IsTexts p w lv G) (hM : IsTexts q w mv H) :
    Calls Tryd.prog 42 #[strV key, lv, mv, .int .u8 a.toNat] w fun e w' => e = .returned (strV (joinL (pairsJ a G H))) ∧ Below w.heap.size w w' := by
  have HLe := Lib.hid (joinL_pairs_le (a := a) hG hH hg hh)
  have hLs : ∀ W, Below w.heap.size w W → IsTexts p W lv G := fun W hb => hL.below hb
  have hMs : ∀ W, Below w.heap.size w W → IsTexts q W mv H := fun W hb => hM.below hb
  have HLs := Lib.hid hLs
  have HMs := Lib.hid hMs
  have HG := Lib.hid hg
  have HH := Lib.hid hh
  have HK := Lib.hid hk
  obtain ⟨la, lc, rfl, -⟩ := hL
  obtain ⟨ma, mc, rfl, -⟩ := hM
  obtain ⟨nG, hnG⟩ : ∃ n, n = G.length := ⟨_, rfl⟩
  obtain ⟨nH, hnH⟩ : ∃ n, n = H.length := ⟨_, rfl⟩
  rw [← hnG] at hG HLs ⊢
  rw [← hnH] at hH HMs ⊢
  have HnG := Lib.hid hnG
  have HnH := Lib.hid hnH
  have b1 : (nG : Int) ≤ 14 := by omega
  have b2 : (nH : Int) ≤ 14 := by omega
  obtain ⟨SK, hSK⟩ : ∃ S : ByteArray, strV key = .string S := ⟨_, rfl⟩
  obtain ⟨SA, hSA⟩ : ∃ S : ByteArray, strV [a] = .string S := ⟨_, rfl⟩
  obtain ⟨SE, hSE⟩ : ∃ S : ByteArray, strV (joinL (pairsJ a G H)) = .string S := ⟨_, rfl⟩
  have zK := strV_size hSK
  have zA := strV_size hSA
  have HSK := Lib.hid hSK
  have HSA := Lib.hid hSA
  rw [hSK, hSE]
  have HSE := Lib.hid hSE
  have k1 : SK.size ≤ 64 := by omega
  have k2 : SA.size ≤ 1 := by rw [zA]; simp
  have hal : Below w.heap.size w (w.alloc (.cells #[.int .u8 a.toNat] 5)) := (Below.refl _ _).alloc (Nat.le_refl _) _
  have hcv : (convert 22 9 (.slice (some ⟨w.heap.size, 0, none⟩) 1 1)).run Tryd.prog (w.alloc (.cells #[.int .u8 a.toNat] 5)) = .ok (.string SA) (w.alloc (.cells #[.int .u8 a.toNat] 5)) := by
    have := Pm.conv_any (IsBytes.toPm (bytes_new w [a] (0, 0)))
    rw [← hSA]
    exact this
  have HAl := Lib.hid hal
  clear hg hh hk hkl hLs hMs hnG hnH hSK hSA hSE zK zA hal hG hH
  go_enter Tryd.func42, Tryd.ntmps42
  go_wp2_with fail
  generalize w.alloc (.cells #[.int .u8 a.toNat] 5) = W0 at HAl hcv ⊢
  clear hcv
  go_loopw [9, 11] (fun sv iv wr => ∃ i : Nat, sv = strV (joinL (pairsJ a (G.take i) H)) ∧ iv = .int .i64 i ∧ i ≤ nG ∧ Below W0.heap.size W0 wr) (fun _ iv _ => nG - (intOf iv).toNat)
  case atStart => exact ⟨0, rfl, rfl, Nat.zero_le _, Below.refl _ _⟩
  case round =>
    obtain ⟨i, rfl, rfl, hi, hbr⟩ := hrel
    rename World => WR
    have HBr := Lib.hid hbr
    have hbw := HAl.out.trans (hbr.mono HAl.out.size)
    have HBw := Lib.hid hbw
    obtain ⟨S1, hS1⟩ : ∃ S : ByteArray, strV (joinL (pairsJ a (G.take i) H)) = .string S := ⟨_, rfl⟩
    rw [hS1]
    have HS1 := Lib.hid hS1
    clear hbr hbw hS1
    by_cases hlt : i < nG
    · obtain ⟨l, hl⟩ : ∃ l, G[i]? = some l := ⟨G[i]'(by rw [← HnG.out]; exact hlt), List.getElem?_eq_getElem _⟩
      have HL := Lib.hid hl
      have q1 : (0 : Int) ≤ (i : Int) := by omega
      have q2 : (i : Int) < (nG : Int) := by omega
      clear hl
      go_wp2_with fail
      go_loopw [9, 12] (fun sv kv wr => ∃ k : Nat, sv = strV (joinL (pairsJ a (G.take i) H) ++ joinL ((H.take k).map fun m => pairL a l m)) ∧ kv = .int .i64 k ∧ k ≤ nH ∧ Below W0.heap.size W0 wr) (fun _ kv _ => nH - (intOf kv).toNat)
      case atStart => exact ⟨0, by simpa [joinL] using HS1.out.symm, rfl, Nat.zero_le _, HBr.out⟩
      case round =>
        obtain ⟨k, rfl, rfl, hk, hbr⟩ := hrel
        rename World => WR
        have HBr := Lib.hid hbr
        have hbw := HAl.out.trans (hbr.mono HAl.out.size)
        have HBw := Lib.hid hbw
        obtain ⟨S2, hS2⟩ : ∃ S : ByteArray, strV (joinL (pairsJ a (G.take i) H) ++ joinL ((H.take k).map fun m => pairL a l m)) = .string S := ⟨_, rfl⟩
        rw [hS2]
        have HS2 := Lib.hid hS2
        have z2 := strV_size hS2
        have hz2 : S2.size ≤ 26000 := by
          have h1 := joinL_prefix (pairsJ a G H) ((pairsJ a (G.take i) H).length + k)
          have h2 : (pairsJ a G H).take ((pairsJ a (G.take i) H).length + k) = pairsJ a (G.take i) H ++ (H.take k).map fun m => pairL a l m := by
            have h3 : pairsJ a G H = pairsJ a (G.take i) H ++ ((H.map fun m => pairL a l m) ++ pairsJ a (G.drop (i + 1)) H) := by
              rw [← List.append_assoc, ← pairsJ_take HL.out]
              unfold pairsJ
              rw [← List.flatMap_append, List.take_append_drop]
            rw [h3, List.take_length_add_append, List.take_append_of_le_length (by rw [List.length_map, ← HnH.out]; exact hk), List.map_take]
          rw [h2, joinL_append] at h1
          have := HLe.out
          rw [z2]
          omega
        clear hbr hbw hS2 z2
        by_cases hkt : k < nH
        · obtain ⟨m, hm⟩ : ∃ m, H[k]? = some m := ⟨H[k]'(by rw [← HnH.out]; exact hkt), List.getElem?_eq_getElem _⟩
          have HM := Lib.hid hm
          have q3 : (0 : Int) ≤ (k : Int) := by omega
          have q4 : (k : Int) < (nH : Int) := by omega
          obtain ⟨_, _, e1, hx1⟩ := HLs.out WR HBw.out
          cases e1
          obtain ⟨b0, o0, rfl, -, hx1⟩ := hx1 i l HL.out
          obtain ⟨SL, hSL⟩ : ∃ S : ByteArray, strV l = .string S := ⟨_, rfl⟩
          obtain ⟨SM, hSM⟩ : ∃ S : ByteArray, strV m = .string S := ⟨_, rfl⟩
          obtain ⟨SX, hSX⟩ : ∃ S : ByteArray, strV (restL a l) = .string S := ⟨_, rfl⟩
          obtain ⟨SY, hSY⟩ : ∃ S : ByteArray, strV (restL a m) = .string S := ⟨_, rfl⟩
          obtain ⟨SKM, hSKM⟩ : ∃ S : ByteArray, strV (keyL a m) = .string S := ⟨_, rfl⟩
          have hl64 := HG.out l (List.mem_of_getElem? HL.out)
          have hm64 := HH.out m (List.mem_of_getElem? HM.out)
          have zX := strV_size hSX
          have zY := strV_size hSY
          have rX := key_rest_len a l
          have rY := key_rest_len a m
          have k3 : SX.size ≤ 64 := by omega
          have k4 : SY.size ≤ 64 := by omega
          rw [hSL] at hx1
          have HSL := Lib.hid hSL
          have HSM := Lib.hid hSM
          have HSX := Lib.hid hSX
          have HSY := Lib.hid hSY
          have HSKM := Lib.hid hSKM
          have hky := docKey_any a l WR (by omega)
          rw [HK.out l (List.mem_of_getElem? HL.out), hSL, hSX, HSK.out] at hky
          have HKy := Lib.hid hky
          have hky2 := fun n => docKey_any a m (WR.drewN n) (by omega)
          rw [hSM, hSY, hSKM] at hky2
          have HKy2 := Lib.hid hky2
          clear hm hSL hSM hSX hSY hSKM hl64 hm64 zX zY rX rY hky hky2
          go_wp2_with fail
          refine HKy.out.mono ?_
          rintro e w1 ⟨rfl, n1, rfl⟩
          have hbd : Below w.heap.size w (WR.drewN n1) := HBw.out.trans ⟨rfl, rfl, rfl, Nat.le_refl _, fun _ _ => rfl⟩
          obtain ⟨_, _, e2, hx2⟩ := HMs.out (WR.drewN n1) hbd
          cases e2
          obtain ⟨b1', o1, rfl, -, hx2⟩ := hx2 k m HM.out
          rw [HSM.out] at hx2
          have HBr2 := Lib.hid (show Below W0.heap.size W0 (WR.drewN n1) from HBr.out.trans ⟨rfl, rfl, rfl, Nat.le_refl _, fun _ _ => rfl⟩)
          have HKy3 := Lib.hid (HKy2.out n1)
          clear hx1 hbd
          generalize WR.drewN n1 = W2 at hx2 HBr2 HKy3 ⊢
          go_wp2_with fail
          refine HKy3.out.mono ?_
          rintro e w3 ⟨rfl, n2, rfl⟩
          have HBr3 := Lib.hid (show Below W0.heap.size W0 (W2.drewN n2) from HBr2.out.trans ⟨rfl, rfl, rfl, Nat.le_refl _, fun _ _ => rfl⟩)
          generalize W2.drewN n2 = W3 at HBr3 ⊢
          clear hx2
          have a1 := add_fits (S := S2) (T := SK) (by omega) (by omega)
          have a2 := add_fits (S := S2 ++ SK) (T := SA) (by rw [ByteArray.size_append]; omega) (by omega)
          have a3 := add_fits (S := S2 ++ SK ++ SA) (T := SX) (by rw [ByteArray.size_append, ByteArray.size_append]; omega) (by omega)
          have a4 := add_fits (S := S2 ++ SK ++ SA ++ SX) (T := SA) (by rw [ByteArray.size_append, ByteArray.size_append, ByteArray.size_append]; omega) (by omega)
          have a5 := add_fits (S := S2 ++ SK ++ SA ++ SX ++ SA) (T := SY) (by rw [ByteArray.size_append, ByteArray.size_append, ByteArray.size_append, ByteArray.size_append]; omega) (by omega)
          have a6 := add_fits (S := S2 ++ SK ++ SA ++ SX ++ SA ++ SY) (T := { data := #[10] }) (by rw [ByteArray.size_append, ByteArray.size_append, ByteArray.size_append, ByteArray.size_append, ByteArray.size_append]; omega) (by decide)
          have c2 : S2.size + SK.size + SA.size ≤ 100000 := by omega
          have c3 : S2.size + SK.size + SA.size + SX.size ≤ 100000 := by omega
          have c4 : S2.size + SK.size + SA.size + SX.size + SA.size ≤ 100000 := by omega
          have c5 : S2.size + SK.size + SA.size + SX.size + SA.size + SY.size ≤ 100000 := by omega
          have hfin := strV_add (strV_add (strV_add (strV_add (strV_add (strV_add HS2.out HSK.out) HSA.out) HSX.out) HSA.out) HSY.out) strV_nl
          have HFin := Lib.hid hfin
          clear hfin
          go_wp2_with fail
          go_roundw
          case rel =>
            refine ⟨k + 1, ?_, by go_num, by omega, HBr3.out⟩
            rw [← HFin.out]
            congr 1
            rw [List.take_add_one, HM.out]
            simp only [Option.toList_some, List.map_append, List.map_cons, List.map_nil, joinL_append, pair_eq, HK.out l (List.mem_of_getElem? HL.out)]
            simp [joinL]
          case measure => simp [intOf]; omega
        · have q4 : ¬ (k : Int) < (nH : Int) := by omega
          have HTk := Lib.hid (show H.take k = H from List.take_of_length_le (by have := HnH.out; omega))
          go_wp2_with fail
          go_roundw
          case rel =>
            refine ⟨i + 1, ?_, by go_num, by omega, HBr.out⟩
            rw [pairsJ_take HL.out, joinL_append, ← HS2.out, HTk.out]
          case measure => simp [intOf]; omega
    · have hfull : pairsJ a (G.take i) H = pairsJ a G H := by rw [List.take_of_length_le (by rw [← HnG.out]; omega)]
      have q3 : ¬ (i : Int) < (nG : Int) := by omega
      have hs : S1 = SE := by
        have h1 := HS1.out
        rw [hfull, HSE.out] at h1
        injection h1 with h1
        exact h1.symm
      have HEq := Lib.hid hs
      clear hfull hs
      go_wp2_with fail
      go_ret
      rw [HEq.out]
      exact ⟨rfl, HBw.out⟩

/-! The document's read: a group. -/
/-- Of two operations that may come up either may be the first: the one only reads, the other leaves what the first one reads. -/
theorem anyG_quietS {P : Program} {md : Region.Mode} {ops : Array Oper} {Q : Exit → Act → World → Prop} {S : World → Prop} {i j : Nat} {oi oj : Oper} {fuel : Nat} {listed : Array Bool} {a : Act} {w : World} (R : World → Prop) (di dj : Tmp) (vi vj : Value) (hi : ops[i]? = some oi) (hj : ops[j]? = some oj)
    (hdi : oi.dst = some di) (hdj : oj.dst = some dj) (hne : di ≠ dj) (hij : i ≠ j) (hr : Region.ready md ops listed = [i, j]) (hri : Region.ready md ops (listed.setIfInBounds i true) = [j]) (hrj : Region.ready md ops (listed.setIfInBounds j true) = [i])
    (hwi : Region.wanted oi (yielded ops a.tmps) = true) (hwj : Region.wanted oj (yielded ops a.tmps) = true) (hwi2 : Region.wanted oi (yielded ops (a.put (some dj) vj).tmps) = true) (hwj2 : Region.wanted oj (yielded ops (a.put (some di) vi).tmps) = true)
    (hrun : (execOp a.eval oi).run P w = .ok (.value vi) w) (hrun2 : ∀ w', R w' → (execOp (a.put (some dj) vj).eval oi).run P w' = .ok (.value vi) w')
    (hcall : ∀ K : Act → World → Prop, (∀ w', R w' → K (a.put (some dj) vj) w') → oj.wp P a w K (NoPanic Q))
    (hcall2 : ∀ K : Act → World → Prop, (∀ w', R w' → K ((a.put (some di) vi).put (some dj) vj) w') → oj.wp P (a.put (some di) vi) w K (NoPanic Q))
    (hSw : S w) (hSR : ∀ w', R w' → S w')
    (h : ∀ w', R w' → AnyG P md ops Q S fuel ((listed.setIfInBounds i true).setIfInBounds j true) ((a.put (some di) vi).put (some dj) vj) w') : AnyG P md ops Q S (fuel + 2) listed a w := by
  refine anyG_two (fuel := fuel + 1) hi hj hr hwi hwj (fun K hK => ?_) (fun K hK => ?_)
  · unfold Oper.wp
    rw [hrun]
    simp only [Oper.upon]
    rw [hdi]
    exact hK.out _ _ hSw (anyG_step hj hri hwj2 fun K' hK' => hcall2 K' fun w' hw => hK'.out _ _ (hSR w' hw) (h w' hw))
  · refine hcall K fun w' hw => hK.out _ _ (hSR w' hw) (anyG_step hi hrj hwi2 fun K' hK' => ?_)
    unfold Oper.wp
    rw [hrun2 w' hw]
    simp only [Oper.upon]
    rw [hdi]
    refine hK'.out _ _ (hSR w' hw) ?_
    rw [Array.setIfInBounds_comm _ _ hij.symm, Act.put_comm _ _ _ (by intro d h1 h2; cases h1; cases h2; exact hne rfl)]
    exact h w' hw
def groupV (lv : Value) (no wh : Bool) (c s i : Int) : Array Value := #[lv, .bool no, .bool wh, .int .i64 c, .int .i64 s, .int .i64 i]
theorem group_err {w : World} {g : Nat} {lv : Value} {no wh : Bool} {c s i : Int} (c' s' i' : Int) (h : w.heap[g]? = some (.cells (groupV lv no wh c s i) 108 (0, 0))) :
    (w.setCells g 3 [.int .i64 c', .int .i64 s', .int .i64 i']).heap[g]? = some (.cells (groupV lv no wh c' s' i') 108 (0, 0)) :=
  heap_setCells [.int .i64 c', .int .i64 s', .int .i64 i'] 3 w g [lv, .bool no, .bool wh] [.int .i64 c, .int .i64 s, .int .i64 i] [] _ _ h rfl rfl
theorem group_whole {w : World} {g : Nat} {lv : Value} {no wh : Bool} {c s i : Int} (b : Bool) (h : w.heap[g]? = some (.cells (groupV lv no wh c s i) 108 (0, 0))) :
    (w.setCell ⟨g, 2, none⟩ (.bool b)).heap[g]? = some (.cells (groupV lv no b c s i) 108 (0, 0)) :=
  heap_setCells [.bool b] 2 w g [lv, .bool no] [.bool wh] [.int .i64 c, .int .i64 s, .int .i64 i] _ _ h rfl rfl
theorem group_none {w : World} {g : Nat} {lv : Value} {no wh : Bool} {c s i : Int} (b : Bool) (h : w.heap[g]? = some (.cells (groupV lv no wh c s i) 108 (0, 0))) :
    (w.setCell ⟨g, 1, none⟩ (.bool b)).heap[g]? = some (.cells (groupV lv b wh c s i) 108 (0, 0)) :=
  heap_setCells [.bool b] 1 w g [lv] [.bool no] [.bool wh, .int .i64 c, .int .i64 s, .int .i64 i] _ _ h rfl rfl
theorem group_there {w : World} {g : Nat} {lv : Value} {no wh : Bool} {c s i : Int} (h : w.heap[g]? = some (.cells (groupV lv no wh c s i) 108 (0, 0))) : w.there g 3 3 := fun j hj => by
  have hc : j = 0 ∨ j = 1 ∨ j = 2 := by omega
  refine ⟨?_, by simp [World.frozen?, h]⟩
  rw [cell_of_row _ _ _ _ _ _ h]
  rcases hc with rfl | rfl | rfl <;> rfl
theorem ret_group {fn : Func} {p : Tmp} (hr : fn.results = #[.cell p 108]) {a : Act} {w : World} {R : Ending → World → Prop} {B : Nat} {cs : Array Value}
    (hd : a.defers = []) (hp : a.tmps.getD p undef = .pointer (some ⟨B, 0, none⟩)) (hg : w.heap[B]? = some (.cells cs 108 (0, 0))) (hs : cs.size = 6)
    (h : R (.returned (.agg cs)) w) : bodyPost Tryd.prog fn R .ret a w := by
  refine bodyPost_ret (v := .agg cs) ?_ hd h
  have hp' : a.tmps[p]?.getD undef = .pointer (some ⟨B, 0, none⟩) := by simpa using hp
  have hl := run_loadVar_row (P := Tryd.prog) w B 108 108 cs (0, 0) _ hg Tryd.underlying108 rfl (by rw [hs]; kernel_rfl)
  simp [results, hr, hp', asAddr, hl]
/-- The call answers the group that is read. -/
def GroupEnd (r : Lines × Lines × Int) (er : Int × Int × Int) (w : World) (e : Ending) (w' : World) : Prop :=
  ∃ v c s i, e = .returned (.agg (groupV v (decide (r.2.2 = 2)) (decide (r.2.2 = 1)) c s i)) ∧ w'.ownsRow w.heap.size 9 1 v r.2.1.length (r.2.1.map strV) ∧ Below w.heap.size w w' ∧
    (r.2.2 = 0 → (c, s, i) = er) ∧ (r.2.2 = 3 → (c, s, i) = (22, -1, 0)) ∧ (r.2.2 = 4 → (c, s, i) = (21, -1, 0))
/-- What holds ahead of each round. -/
structure GrInv (N : Nat) (a : UInt8) (rv : Array Value) (L : Lines) (ov : Bool) (at0 : Nat) (w : World) (i : Nat) (G : Lines) (lv : Value) (wr : World) : Prop where
  le : at0 ≤ i ∧ i ≤ L.length
  grp : G = (L.drop at0).take (i - at0)
  same : readG N a ov (L.drop at0) [] = readG N a ov (L.drop i) G
  own : wr.ownsRow (w.heap.size + 3) 9 1 lv G.length (G.map strV)
  box : wr.heap[w.heap.size]? = some (.cells rv 103 (0, 0))
  res : wr.heap[w.heap.size + 1]? = some (.cells (groupV (.slice none 0 0) false false 0 0 0) 108 (0, 0))
  row : wr.heap[w.heap.size + 2]? = some (.cells (groupV lv false false 0 0 0) 108 (0, 0))
  bel : Below w.heap.size w wr
theorem GrInv.drewN {N : Nat} {a : UInt8} {rv : Array Value} {L : Lines} {ov : Bool} {at0 : Nat} {w : World} {i : Nat} {G : Lines} {lv : Value} {wr : World} (h : GrInv N a rv L ov at0 w i G lv wr) (n : Nat) : GrInv N a rv L ov at0 w i G lv (wr.drewN n) :=
  ⟨h.le, h.grp, h.same, ((Frame.refl (fun _ => False) wr).drewN n).owns h.own (fun _ _ h => h), h.box, h.res, h.row, h.bel.trans ⟨rfl, rfl, rfl, Nat.le_refl _, fun _ _ => rfl⟩⟩
theorem group_ends {w W : World} {r : Lines × Lines × Int} {er : Int × Int × Int} {no wh : Bool} {c s i : Int} {lv : Value} {old : Array Value} {fn : Func} {t : Tmp} {a : Act}
    (ho : W.ownsRow (w.heap.size + 3) 9 1 lv r.2.1.length (r.2.1.map strV)) (hb : Below w.heap.size w W) (hres : W.heap[w.heap.size + 1]? = some (.cells old 108 (0, 0)))
    (hn : no = decide (r.2.2 = 2)) (hw : wh = decide (r.2.2 = 1)) (h0 : r.2.2 = 0 → (c, s, i) = er) (h3 : r.2.2 = 3 → (c, s, i) = (22, -1, 0)) (h4 : r.2.2 = 4 → (c, s, i) = (21, -1, 0))
    (hr : fn.results = #[.cell t 108]) (hd : a.defers = []) (hp : a.tmps.getD t undef = .pointer (some ⟨w.heap.size + 1, 0, none⟩)) :
    bodyPost Tryd.prog fn (GroupEnd r er w) .ret a (W.setRow (w.heap.size + 1) (groupV lv no wh c s i)) := by
  refine ret_group hr hd hp (setRow_heap _ _ _ _ _ _ hres) rfl ?_
  subst hn hw
  exact ⟨lv, c, s, i, rfl, owns_lower (ho.heap_kept fun j hj => setRow_other _ _ _ _ (by omega)) (by omega), hb.trans ⟨rfl, rfl, rfl, by simp, fun j hj => setRow_other _ _ _ _ (by omega)⟩, h0, h3, h4⟩

set_option maxRecDepth 100000 in
set_option maxHeartbeats 8000000 in
theorem docRead_any {p : Nat → Prop} (N : Nat) (a : UInt8) (lv : Value) (L : Lines) (ov : Bool) (er : Int × Int × Int) (at0 : Nat) (w : World) (h1 : 1 ≤ N) (hN : N ≤ 14) (hL : IsTexts p w lv L) (hLl : L.length ≤ 5000) (hf : ∀ l ∈ L, l.length ≤ 1000) (hat : at0 ≤ L.length) :
    Calls Tryd.prog 39 #[.agg #[lv, .bool ov, .int .i64 er.1, .int .i64 er.2.1, .int .i64 er.2.2], .int .i64 at0, .int .i64 N, .int .u8 a.toNat] w (GroupEnd (readG N a ov (L.drop at0) []) er w) := by
  have HX := Lib.hid (show ∀ W, Below w.heap.size w W → ∀ n l, L[n]? = some l → ∃ gb off, lv = .slice (some ⟨gb, off, none⟩) L.length (match lv with | .slice _ _ c => c | _ => 0) ∧ W.cell? ⟨gb, off + n, none⟩ = some (strV l) from fun W hb n l hn => by
    obtain ⟨la, lc, rfl, hx⟩ := hL.below hb
    obtain ⟨gb, off, rfl, -, hc⟩ := hx n l hn
    exact ⟨gb, off, rfl, hc⟩)
  have HF := Lib.hid hf
  obtain ⟨la, lc, rfl, -⟩ := hL
  obtain ⟨c1, c2, c3⟩ := er
  simp only
  obtain ⟨nL, hnL⟩ : ∃ n, n = L.length := ⟨_, rfl⟩
  rw [← hnL] at HX hLl hat ⊢
  have HnL := Lib.hid hnL
  have b1 : (nL : Int) ≤ 5000 := by omega
  have b2 : (N : Int) ≤ 14 := by omega
  have b3 : (1 : Int) ≤ (N : Int) := by omega
  obtain ⟨R, hR⟩ : ∃ R, R = readG N a ov (L.drop at0) [] := ⟨_, rfl⟩
  rw [← hR]
  have HR := Lib.hid hR
  clear hf hnL hR
  go_enter Tryd.func39, Tryd.ntmps39
  go_wp2_with fail
  have hI : GrInv N a #[.slice la nL lc, .bool ov, .int .i64 c1, .int .i64 c2, .int .i64 c3] L ov at0 w at0 [] (.slice none 0 0) (((w.alloc (.cells #[.slice la nL lc, .bool ov, .int .i64 c1, .int .i64 c2, .int .i64 c3] 103)).alloc (.cells (groupV (.slice none 0 0) false false 0 0 0) 108)).alloc (.cells (groupV (.slice none 0 0) false false 0 0 0) 108)) := by
    refine ⟨⟨Nat.le_refl _, by rw [← HnL.out]; exact hat⟩, by rw [Nat.sub_self, List.take_zero], rfl, World.ownsRow_nil _ _ 9 1, ?_, ?_, ?_, (((Below.refl _ _).alloc (Nat.le_refl _) _).alloc (by simp) _).alloc (by simp; omega) _⟩
    · rw [Below.heap_alloc _ _ _ (by simp; omega), Below.heap_alloc _ _ _ (by simp)]; exact heap_alloc_last w _
    · rw [Below.heap_alloc _ _ _ (by simp)]
      have := heap_alloc_last (w.alloc (.cells #[.slice la nL lc, .bool ov, .int .i64 c1, .int .i64 c2, .int .i64 c3] 103)) (.cells (groupV (.slice none 0 0) false false 0 0 0) 108)
      rw [World.size_alloc] at this
      exact this
    · have := heap_alloc_last ((w.alloc (.cells #[.slice la nL lc, .bool ov, .int .i64 c1, .int .i64 c2, .int .i64 c3] 103)).alloc (.cells (groupV (.slice none 0 0) false false 0 0 0) 108)) (.cells (groupV (.slice none 0 0) false false 0 0 0) 108)
      rw [World.size_alloc, World.size_alloc] at this
      exact this
  unfold groupV at hI
  generalize (((w.alloc (.cells #[.slice la nL lc, .bool ov, .int .i64 c1, .int .i64 c2, .int .i64 c3] 103)).alloc (.cells #[.slice none 0 0, .bool false, .bool false, .int .i64 0, .int .i64 0, .int .i64 0] 108)).alloc (.cells #[.slice none 0 0, .bool false, .bool false, .int .i64 0, .int .i64 0, .int .i64 0] 108)) = W0 at hI ⊢
  have HI := Lib.hid hI
  clear hI
  go_loopw [10] (fun iv wr => ∃ (i : Nat) (G : Lines) (gv : Value), iv = .int .i64 i ∧ GrInv N a #[.slice la nL lc, .bool ov, .int .i64 c1, .int .i64 c2, .int .i64 c3] L ov at0 w i G gv wr) (fun iv _ => nL - (intOf iv).toNat)
  case atStart => exact ⟨at0, [], _, rfl, HI.out⟩
  case round =>
    obtain ⟨i, G, gv, rfl, hgr⟩ := hrel
    rename World => WR
    have HGr := Lib.hid hgr
    obtain ⟨ga, gc, hgv⟩ := Pm.owns_slice hgr.own
    subst hgv
    have hle := hgr.le
    have hGl : G.length = i - at0 := by rw [hgr.grp, List.length_take, List.length_drop, ← HnL.out]; have := hgr.le; rw [← HnL.out] at this; omega
    have HGl := Lib.hid hGl
    have x0 : WR.cell? ⟨w.heap.size, 0, none⟩ = some (.slice la nL lc) := by rw [cell_of_row _ _ _ _ _ _ hgr.box]; rfl
    have y0 : WR.cell? ⟨w.heap.size + 1 + 1, 0, none⟩ = some (.slice ga G.length gc) := by rw [cell_of_row _ _ _ _ _ _ hgr.row]; rfl
    rw [← HnL.out] at hle
    have gl : (G.length : Int) ≤ 5000 := by omega
    have g0 : (0 : Int) ≤ (i : Int) := by omega
    have g00 : (at0 : Int) ≤ (i : Int) := by omega
    clear hgr hGl
    by_cases hlt : i < nL
    · have g1 : (i : Int) < (nL : Int) := by omega
      obtain ⟨l, hl⟩ : ∃ l, L[i]? = some l := ⟨L[i]'(by rw [← HnL.out]; exact hlt), List.getElem?_eq_getElem _⟩
      obtain ⟨gb, off, hlv, hx⟩ := HX.out WR HGr.out.bel i l hl
      injection hlv with hla _ hlc
      simp only at hlc
      subst hla
      have hl1000 := HF.out l (List.mem_of_getElem? hl)
      have hgb : gb < w.heap.size := by
        obtain ⟨gb2, off2, e2, hx2⟩ := HX.out w (Below.refl _ _) i l hl
        injection e2 with e2
        injection e2 with e2
        injection e2 with e2
        subst e2
        exact block_lt_of_cell hx2
      have hdrop : L.drop i = l :: L.drop (i + 1) := by
        obtain ⟨k1, k2⟩ := List.getElem?_eq_some_iff.1 hl
        rw [List.drop_eq_getElem_cons k1, k2]
      obtain ⟨SL, hSL⟩ : ∃ S : ByteArray, strV l = .string S := ⟨_, rfl⟩
      rw [hSL] at hx
      have HSL := Lib.hid hSL
      have HLi := Lib.hid hl
      have HDr := Lib.hid hdrop
      clear hSL hl hdrop hlc
      by_cases hG0 : G = []
      · have g2 : ¬ (at0 : Int) < (i : Int) := by have := HGl.out; rw [hG0] at this; simp at this; omega
        have g3 : (((G.length : Nat) : Int) == (N : Int)) = false := by rw [hG0]; simp; omega
        have HSame2 := Lib.hid (show readG N a ov (L.drop at0) [] = readG N a ov (L.drop (i + 1)) (G ++ [l]) by rw [HGr.out.same, HDr.out, hG0, readG_first]; rfl)
        clear hG0
        go_upto_region 17 with fail
        refine anyG_start (S := fun W => W.heap[w.heap.size]? = some (.cells #[.slice (some ⟨gb, off, none⟩) nL lc, .bool ov, .int .i64 c1, .int .i64 c2, .int .i64 c3] 103 (0, 0)) ∧ W.cell? ⟨gb, off + i, none⟩ = some (.string SL)) (by kernel_rfl) ?_
        have hgr := HGr.out.drewN 1
        have hS0 : (fun W : World => W.heap[w.heap.size]? = some (.cells #[.slice (some ⟨gb, off, none⟩) nL lc, .bool ov, .int .i64 c1, .int .i64 c2, .int .i64 c3] 103 (0, 0)) ∧ W.cell? ⟨gb, off + i, none⟩ = some (.string SL)) WR.drew := ⟨HGr.out.box, hx⟩
        have hrow2 : WR.drew.heap[w.heap.size + 2]? = _ := HGr.out.row
        have hres2 : WR.drew.heap[w.heap.size + 1]? = _ := HGr.out.res
        have hown2 : WR.drew.ownsRow (w.heap.size + 3) 9 1 (.slice ga G.length gc) G.length (G.map strV) := hgr.own
        have hbel2 : Below w.heap.size w WR.drew := hgr.bel
        have hlt64 := block_lt_of_cell hx
        have hlt64' : gb < WR.drew.heap.size := hlt64
        generalize WR.drew = W2 at hS0 hrow2 hres2 hown2 hbel2 hlt64' ⊢
        have HOw := Lib.hid hown2
        have HBl := Lib.hid hbel2
        clear hgr hlt64 hown2 hbel2
        refine anyG_take (i := 0) 66 (.pointer (some ⟨w.heap.size + 1 + 1, 0, none⟩)) rfl rfl (by kernel_rfl) (by kernel_rfl) (by kernel_rfl) rfl (fun _ _ => by go_simp) hS0 ?_
        simp only [Act.put, List.setIfInBounds_toArray, List.set_cons_succ, List.set_cons_zero]
        refine anyG_take (i := 2) 68 (.pointer (some ⟨w.heap.size, 0, none⟩)) rfl rfl (by kernel_rfl) (by kernel_rfl) (by kernel_rfl) rfl (fun _ _ => by go_simp) hS0 ?_
        simp only [Act.put, List.setIfInBounds_toArray, List.set_cons_succ, List.set_cons_zero]
        refine anyG_take (i := 3) 69 (.slice (some ⟨gb, off, none⟩) nL lc) rfl rfl (by kernel_rfl) (by kernel_rfl) (by kernel_rfl) rfl (fun W hW => by have hc := box0 hW.1; go_simp) hS0 ?_
        simp only [Act.put, List.setIfInBounds_toArray, List.set_cons_succ, List.set_cons_zero]
        refine anyG_take (i := 4) 70 (.int .i64 i) rfl rfl (by kernel_rfl) (by kernel_rfl) (by kernel_rfl) rfl (fun _ _ => rfl) hS0 ?_
        simp only [Act.put, List.setIfInBounds_toArray, List.set_cons_succ, List.set_cons_zero]
        refine anyG_take (i := 5) 71 (.pointer (some ⟨gb, off + i, none⟩)) rfl rfl (by kernel_rfl) (by kernel_rfl) (by kernel_rfl) rfl (fun _ _ => by go_simp) hS0 ?_
        simp only [Act.put, List.setIfInBounds_toArray, List.set_cons_succ, List.set_cons_zero]
        refine anyG_take (i := 6) 72 (.string SL) rfl rfl (by kernel_rfl) (by kernel_rfl) (by kernel_rfl) rfl (fun W hW => by have hc := hW.2; go_simp) hS0 ?_
        simp only [Act.put, List.setIfInBounds_toArray, List.set_cons_succ, List.set_cons_zero]
        have y2 : W2.cell? ⟨w.heap.size + 1 + 1, 0, none⟩ = some (.slice ga G.length gc) := by rw [cell_of_row _ _ _ _ _ _ hrow2]; rfl
        have hal : Below W2.heap.size W2 (W2.alloc (.cells #[.string SL] 9)) := (Below.refl _ _).alloc (Nat.le_refl _) _
        have hlt2 := (Array.getElem?_eq_some_iff.1 hrow2).1
        have y3 : (W2.alloc (.cells #[.string SL] 9)).cell? ⟨w.heap.size + 1 + 1, 0, none⟩ = some (.slice ga G.length gc) := by rw [hal.cell (by exact hlt2)]; exact y2
        have hS3 : (fun W : World => W.heap[w.heap.size]? = some (.cells #[.slice (some ⟨gb, off, none⟩) nL lc, .bool ov, .int .i64 c1, .int .i64 c2, .int .i64 c3] 103 (0, 0)) ∧ W.cell? ⟨gb, off + i, none⟩ = some (.string SL)) (W2.alloc (.cells #[.string SL] 9)) := ⟨(hal.block w.heap.size (by omega)).trans hS0.1, by rw [hal.cell hlt64']; exact hS0.2⟩
        refine anyG_quietS (i := 1) (j := 7) (fun W => W = W2.alloc (.cells #[.string SL] 9)) 67 73 (.slice ga G.length gc) (.slice (some ⟨W2.heap.size, 0, none⟩) 1 1) rfl rfl rfl rfl (by decide) (by decide) (by kernel_rfl) (by kernel_rfl) (by kernel_rfl) rfl rfl rfl rfl ?_ ?_ ?_ ?_ hS0 ?_ ?_
        · go_simp
        · intro w' hw'
          subst hw'
          simp only [Act.put, List.setIfInBounds_toArray, List.set_cons_succ, List.set_cons_zero]
          go_simp
        · intro K hK
          have hK2 := hK _ rfl
          simp only [Act.put, List.setIfInBounds_toArray, List.set_cons_succ, List.set_cons_zero] at hK2
          clear hK
          go_simp
          try simp only [Act.put, List.setIfInBounds_toArray, List.set_cons_succ, List.set_cons_zero]
          exact hK2
        · intro K hK
          have hK2 := hK _ rfl
          simp only [Act.put, List.setIfInBounds_toArray, List.set_cons_succ, List.set_cons_zero] at hK2
          clear hK
          go_simp
          try simp only [Act.put, List.setIfInBounds_toArray, List.set_cons_succ, List.set_cons_zero]
          exact hK2
        · intro w' hw'
          rw [hw']
          exact hS3
        intro W3 hW3
        subst hW3
        simp only [Act.put, List.setIfInBounds_toArray, List.set_cons_succ, List.set_cons_zero]
        have hown3 := HOw.out.alloc (.cells #[.string SL] 9)
        have k4 : (W2.alloc (.cells #[.string SL] 9)).cell? ⟨W2.heap.size, 0, none⟩ = some (strV l) := by rw [HSL.out, cell_of_row _ _ _ _ _ _ (heap_alloc_last W2 _)]; rfl
        have hrow3 := (hal.block (w.heap.size + 2) (by omega)).trans hrow2
        have hres3 := (hal.block (w.heap.size + 1) (by omega)).trans hres2
        have hbel3 := HBl.out.trans (hal.mono HBl.out.size)
        have hsz3 : (W2.alloc (.cells #[.string SL] 9)).heap.size = W2.heap.size + 1 := by simp
        refine anyG_step (i := 8) rfl (by kernel_rfl) rfl (fun K hK => ?_)
        refine wp_append_text (.tmp 67) (.tmp 73) rfl (w.heap.size + 3) (.slice ga G.length gc) G l W2.heap.size rfl hown3 rfl k4 (by omega) (by rw [hsz3]; omega) 74 rfl ?_
        intro v5 W5 ho5 hg5
        have hb5 : Below (w.heap.size + 3) (W2.alloc (.cells #[.string SL] 9)) W5 := (Below.refl _ _).grown hg5 (by rw [hsz3]; omega) (fun j ej => (hown3.lt j ej).1)
        obtain ⟨a5, l5, rfl⟩ := Pm.owns_slice ho5
        have hbx5 := (hb5.block w.heap.size (by omega)).trans hS3.1
        have hrw5 := (hb5.block (w.heap.size + 2) (by omega)).trans hrow3
        have hrs5 := (hb5.block (w.heap.size + 1) (by omega)).trans hres3
        have hx5 : W5.cell? ⟨gb, off + i, none⟩ = some (.string SL) := by rw [hb5.cell (by show gb < _; omega)]; exact hS3.2
        have hbel5 := hbel3.trans (hb5.mono (by omega))
        refine hK.out _ _ ⟨hbx5, hx5⟩ ?_
        clear hK K
        simp only [Act.put, List.setIfInBounds_toArray, List.set_cons_succ, List.set_cons_zero]
        refine anyG_take (i := 9) 75 (.pointer (some ⟨w.heap.size + 1 + 1, 0, none⟩)) rfl rfl (by kernel_rfl) (by kernel_rfl) (by kernel_rfl) rfl (fun _ _ => by go_simp) ⟨hbx5, hx5⟩ ?_
        simp only [Act.put, List.setIfInBounds_toArray, List.set_cons_succ, List.set_cons_zero]
        have k5 : W5.cell? ⟨w.heap.size + 1 + 1, 0, none⟩ = some (.slice ga G.length gc) := by rw [cell_of_row _ _ _ _ _ _ hrw5]; rfl
        have z5 : W5.frozen? ⟨w.heap.size + 1 + 1, 0, none⟩ = false := by simp [World.frozen?, hrw5]
        refine anyG_step (i := 10) rfl (by kernel_rfl) rfl (fun K hK => ?_)
        go_simp
        have hc6 := fun x => Below.heap_setCell W5 ⟨w.heap.size + 2, 0, none⟩ x
        have hrw6 := setCell_row (o := 0) (v := .slice a5 (List.length G + 1) l5) hrw5
        have hb6 : Below (w.heap.size + 2) W5 (W5.setCell ⟨w.heap.size + 1 + 1, 0, none⟩ (.slice a5 (List.length G + 1) l5)) := Below.setCell (B := w.heap.size + 2) (p := ⟨w.heap.size + 2, 0, none⟩) (Below.refl _ _) (Nat.le_refl _) _
        have hbx6 := (hc6 (.slice a5 (List.length G + 1) l5) w.heap.size (by simp)).trans hbx5
        have hrs6 := (hc6 (.slice a5 (List.length G + 1) l5) (w.heap.size + 1) (by simp)).trans hrs5
        have ho6 := ho5.heap_kept (W' := W5.setCell ⟨w.heap.size + 1 + 1, 0, none⟩ (.slice a5 (List.length G + 1) l5)) (fun j hj => hc6 (.slice a5 (List.length G + 1) l5) j (by simp; omega))
        have hx6 : (W5.setCell ⟨w.heap.size + 1 + 1, 0, none⟩ (.slice a5 (List.length G + 1) l5)).cell? ⟨gb, off + i, none⟩ = some (.string SL) := by rw [hb6.cell (by show gb < _; omega)]; exact hx5
        have hbel6 := hbel5.trans (hb6.mono (by omega))
        refine hK.out _ _ ⟨hbx6, hx6⟩ ?_
        clear hK K hb6 hc6 k5 z5 hrw5 hrs5 hbx5 hb5 ho5 hg5 hx5 hbel5
        generalize W5.setCell ⟨w.heap.size + 1 + 1, 0, none⟩ (.slice a5 (List.length G + 1) l5) = W6 at hrw6 hbx6 hrs6 ho6 hx6 hbel6 ⊢
        try simp only [Act.put, List.setIfInBounds_toArray, List.set_cons_succ, List.set_cons_zero]
        refine anyG_done (by kernel_rfl) ?_
        go_wp2_with fail
        go_roundw
        case rel =>
          refine ⟨i + 1, G ++ [l], _, by go_num, ⟨by omega, by rw [← HnL.out]; omega⟩, ?_, HSame2.out, by simpa using ho6, hbx6, hrs6, hrw6, hbel6⟩
          have := HGr.out.grp
          rw [show i + 1 - at0 = (i - at0) + 1 by omega, List.take_add_one, List.getElem?_drop, show at0 + (i - at0) = i by omega, HLi.out, ← this]
          rfl
        case measure => simp [intOf]; omega
      · obtain ⟨x, r, hGx⟩ : ∃ x r, G = x :: r := by
          cases hG : G with
          | nil => exact absurd hG hG0
          | cons x r => exact ⟨x, r, rfl⟩
        have hfirst : L[at0]? = some x := by
          have := HGr.out.grp
          rw [hGx] at this
          have h2 := congrArg (fun M => M[0]?) this
          simp only [List.getElem?_cons_zero] at h2
          rw [List.getElem?_take_of_lt (by have := HGl.out; rw [hGx] at this; simp at this; omega), List.getElem?_drop, Nat.add_zero] at h2
          exact h2.symm
        have g2 : (at0 : Int) < (i : Int) := by have := HGl.out; rw [hGx] at this; simp at this; omega
        have g2b : (at0 : Int) < (nL : Int) := by omega
        have g2c : (0 : Int) ≤ (at0 : Int) := by omega
        have hkg : keyL a x = keyG a G := by rw [hGx]; rfl
        obtain ⟨gb2, off2, hlv2, hx2⟩ := HX.out WR HGr.out.bel at0 x hfirst
        injection hlv2 with hla2 _ _
        injection hla2 with hla2
        injection hla2 with hb2 ho2
        subst hb2 ho2
        obtain ⟨SX, hSX⟩ : ∃ S : ByteArray, strV x = .string S := ⟨_, rfl⟩
        rw [hSX] at hx2
        obtain ⟨SK, hSK⟩ : ∃ S : ByteArray, strV (keyG a G) = .string S := ⟨_, rfl⟩
        obtain ⟨SKR, hSKR⟩ : ∃ S : ByteArray, strV (restL a x) = .string S := ⟨_, rfl⟩
        obtain ⟨SB, hSB⟩ : ∃ S : ByteArray, strV (keyL a l) = .string S := ⟨_, rfl⟩
        obtain ⟨SBR, hSBR⟩ : ∃ S : ByteArray, strV (restL a l) = .string S := ⟨_, rfl⟩
        have hx1000 := HF.out x (List.mem_of_getElem? hfirst)
        have hky := docKey_any a x WR (by omega)
        rw [hkg, hSX, hSK, hSKR] at hky
        have HKy := Lib.hid hky
        have hky2 := fun n => docKey_any a l (WR.drewN n) (by omega)
        rw [HSL.out, hSB, hSBR] at hky2
        have HKy2 := Lib.hid hky2
        obtain ⟨d1, d2⟩ := str_less hSB hSK
        have hlineIs := lineIs N a l G
        have HLineIs := Lib.hid hlineIs
        have hG1 : 0 < G.length := List.length_pos_iff.2 hG0
        clear hky hky2 hSX hSK hSKR hSB hSBR hGx hfirst hkg hlineIs hx1000 hG0
        go_wp2_with fail
        refine HKy.out.mono ?_
        rintro e w1 ⟨rfl, n1, rfl⟩
        have hgr1 := HGr.out.drewN n1
        have hx1 : (WR.drewN n1).cell? ⟨gb, off + i, none⟩ = some (.string SL) := hx
        have x1 : (WR.drewN n1).cell? ⟨w.heap.size, 0, none⟩ = some (.slice (some ⟨gb, off, none⟩) nL lc) := x0
        have HKy3 := Lib.hid (HKy2.out n1)
        clear x0 y0 hx hx2 HGr
        generalize WR.drewN n1 = W1 at hgr1 hx1 x1 HKy3 ⊢
        have HGr1 := Lib.hid hgr1
        clear hgr1
        go_wp2_with fail
        refine HKy3.out.mono ?_
        rintro e w2 ⟨rfl, n2, rfl⟩
        have hgr := HGr1.out.drewN n2
        have hx : (W1.drewN n2).cell? ⟨gb, off + i, none⟩ = some (.string SL) := hx1
        have x0 : (W1.drewN n2).cell? ⟨w.heap.size, 0, none⟩ = some (.slice (some ⟨gb, off, none⟩) nL lc) := x1
        clear x1 hx1
        generalize W1.drewN n2 = WR at hgr hx x0 ⊢
        have y0 : WR.cell? ⟨w.heap.size + 1 + 1, 0, none⟩ = some (.slice ga G.length gc) := by rw [cell_of_row _ _ _ _ _ _ hgr.row]; rfl
        have HGr := Lib.hid hgr
        clear hgr
        cases HLineIs.out with
        | first k0 => rw [k0] at hG1; simp at hG1
        | falls k0 k1 k2 =>
          have e1 : Op.bytesLess SB.toList SK.toList = true := by rw [d1]; exact k2
          have HRr := Lib.hid (show R = (l :: L.drop (i + 1), G, 3) by rw [HR.out, HGr.out.same, HDr.out]; exact readG_falls ov l _ G k0 k1 k2)
          clear d1 d2 k0 k1 k2
          have hrow := HGr.out.row
          have hres := HGr.out.res
          have hth : WR.there (w.heap.size + 1 + 1) 3 (#[Value.int .i64 22, .int .i64 (-1), .int .i64 0] : Array Value).size := group_there hrow
          have hput := group_err 22 (-1) 0 hrow
          have hpb : Below (w.heap.size + 2) WR (WR.setCells (w.heap.size + 2) 3 [.int .i64 22, .int .i64 (-1), .int .i64 0]) := (Frame.cells (w := WR) (w.heap.size + 2) 3 [.int .i64 22, .int .i64 (-1), .int .i64 0]).below (Nat.le_of_lt (Array.getElem?_eq_some_iff.1 hrow).1) (fun k e => by have e' : k = w.heap.size + 2 := e; omega)
          have hoth := fun k hk => other_setCells [.int .i64 22, .int .i64 (-1), .int .i64 0] 3 WR (w.heap.size + 2) k hk
          go_upto_region 10 with (refine wpList_store_mid rfl 59 (.tmp 51) (.tmp 50) rfl (w.heap.size + 1 + 1) 3 #[.int .i64 22, .int .i64 (-1), .int .i64 0] rfl rfl hth (by kernel_rfl) (by kernel_rfl) ?_)
          have hres1 := (hoth (w.heap.size + 1) (by omega)).trans hres
          have hb1 := HGr.out.bel.trans (hpb.mono (by omega))
          have ho1 := HGr.out.own.heap_kept (W' := WR.setCells (w.heap.size + 2) 3 [.int .i64 22, .int .i64 (-1), .int .i64 0]) (fun j hj => hoth j (by omega))
          change Code.wp _ _ _ _ (WR.setCells (w.heap.size + 2) 3 [.int .i64 22, .int .i64 (-1), .int .i64 0])
          clear hpb hoth hth hrow hres
          generalize WR.setCells (w.heap.size + 2) 3 [.int .i64 22, .int .i64 (-1), .int .i64 0] = W1 at hput hres1 hb1 ho1 ⊢
          have HO1 := Lib.hid ho1
          have HB1 := Lib.hid hb1
          clear ho1 hb1
          go_wp2_with (first | (refine wpList_load_row rfl 108 (.tmp 9) rfl (w.heap.size + 1 + 1) rfl _ _ _ _ hput Tryd.underlying108 rfl (by kernel_rfl) ?_) | (refine wpList_store_row rfl 108 (.tmp 8) (.tmp 52) rfl (w.heap.size + 1) (groupV (.slice ga (List.length G) gc) false false 22 (-1) 0) rfl rfl _ _ hres1 (by kernel_rfl) rfl (by simp [groupV, Value.oneCell']) ?_))
          rw [HRr.out]
          exact group_ends HO1.out HB1.out hres1 rfl rfl (fun e => by cases e) (fun _ => rfl) (fun e => by cases e) rfl rfl rfl
        | whole k0 k1 =>
          have e2 : (SB.toList == SK.toList) = false := by
            rw [d2]; refine decide_eq_false (fun e => ?_); rw [e, gtrL_iff, lessL_self] at k1; cases k1
          have e1 : Op.bytesLess SB.toList SK.toList = false := by
            rw [d1]; rw [gtrL_iff] at k1; exact lessL_asymm _ _ k1
          have HRr := Lib.hid (show R = (l :: L.drop (i + 1), G, 1) by rw [HR.out, HGr.out.same, HDr.out]; exact readG_whole ov l _ G k0 k1)
          clear d1 d2 k0 k1
          have hrow := HGr.out.row
          have hres := HGr.out.res
          have p0 : WR.cell? ⟨w.heap.size + 1 + 1, 2, none⟩ = some (.bool false) := by rw [cell_of_row _ _ _ _ _ _ hrow]; rfl
          have z0 : WR.frozen? ⟨w.heap.size + 1 + 1, 2, none⟩ = false := by simp [World.frozen?, hrow]
          have hput := group_whole true hrow
          have hpb : Below (w.heap.size + 2) WR (WR.setCell ⟨w.heap.size + 2, 2, none⟩ (.bool true)) := Below.setCell (B := w.heap.size + 2) (p := ⟨w.heap.size + 2, 2, none⟩) (Below.refl _ _) (Nat.le_refl _) _
          have hoth := fun k (hk : k ≠ w.heap.size + 2) => Below.heap_setCell WR ⟨w.heap.size + 2, 2, none⟩ (.bool true) k hk
          go_upto_region 13 with fail
          have hres1 := (hoth (w.heap.size + 1) (by omega)).trans hres
          have hb1 := HGr.out.bel.trans (hpb.mono (by omega))
          have ho1 := HGr.out.own.heap_kept (W' := WR.setCell ⟨w.heap.size + 2, 2, none⟩ (.bool true)) (fun j hj => hoth j (by omega))
          change Code.wp _ _ _ _ (WR.setCell ⟨w.heap.size + 2, 2, none⟩ (.bool true))
          clear hpb hoth hrow hres p0 z0
          generalize WR.setCell ⟨w.heap.size + 2, 2, none⟩ (.bool true) = W3 at hput hres1 hb1 ho1 ⊢
          have HO1 := Lib.hid ho1
          have HB1 := Lib.hid hb1
          clear ho1 hb1
          go_wp2_with (first | (refine wpList_load_row rfl 108 (.tmp 9) rfl (w.heap.size + 1 + 1) rfl _ _ _ _ hput Tryd.underlying108 rfl (by kernel_rfl) ?_) | (refine wpList_store_row rfl 108 (.tmp 8) (.tmp 57) rfl (w.heap.size + 1) (groupV (.slice ga (List.length G) gc) false true 0 0 0) rfl rfl _ _ hres1 (by kernel_rfl) rfl (by simp [groupV, Value.oneCell']) ?_))
          rw [HRr.out]
          exact group_ends HO1.out HB1.out hres1 rfl rfl (fun e => by cases e) (fun e => by cases e) (fun e => by cases e) rfl rfl rfl
        | great k0 k1 k2 k3 =>
          have e1 : Op.bytesLess SB.toList SK.toList = false := by rw [d1]; exact k2
          have e2 : (SB.toList == SK.toList) = true := by rw [d2]; exact decide_eq_true (eq_of_not k2 k1)
          have q2 : ((G.length : Int) == (N : Int)) = true := by rw [k3]; simp
          have HRr := Lib.hid (show R = (l :: L.drop (i + 1), G, 4) by rw [HR.out, HGr.out.same, HDr.out]; exact readG_great ov l _ G k0 k1 k2 k3)
          clear d1 d2 k0 k1 k2 k3
          have hrow := HGr.out.row
          have hres := HGr.out.res
          have hth : WR.there (w.heap.size + 1 + 1) 3 (#[Value.int .i64 21, .int .i64 (-1), .int .i64 0] : Array Value).size := group_there hrow
          have hput := group_err 21 (-1) 0 hrow
          have hpb : Below (w.heap.size + 2) WR (WR.setCells (w.heap.size + 2) 3 [.int .i64 21, .int .i64 (-1), .int .i64 0]) := (Frame.cells (w := WR) (w.heap.size + 2) 3 [.int .i64 21, .int .i64 (-1), .int .i64 0]).below (Nat.le_of_lt (Array.getElem?_eq_some_iff.1 hrow).1) (fun k e => by have e' : k = w.heap.size + 2 := e; omega)
          have hoth := fun k hk => other_setCells [.int .i64 21, .int .i64 (-1), .int .i64 0] 3 WR (w.heap.size + 2) k hk
          go_upto_region 16 with (refine wpList_store_mid rfl 59 (.tmp 64) (.tmp 63) rfl (w.heap.size + 1 + 1) 3 #[.int .i64 21, .int .i64 (-1), .int .i64 0] rfl rfl hth (by kernel_rfl) (by kernel_rfl) ?_)
          have hres1 := (hoth (w.heap.size + 1) (by omega)).trans hres
          have hb1 := HGr.out.bel.trans (hpb.mono (by omega))
          have ho1 := HGr.out.own.heap_kept (W' := WR.setCells (w.heap.size + 2) 3 [.int .i64 21, .int .i64 (-1), .int .i64 0]) (fun j hj => hoth j (by omega))
          change Code.wp _ _ _ _ (WR.setCells (w.heap.size + 2) 3 [.int .i64 21, .int .i64 (-1), .int .i64 0])
          clear hpb hoth hth hrow hres
          generalize WR.setCells (w.heap.size + 2) 3 [.int .i64 21, .int .i64 (-1), .int .i64 0] = W1 at hput hres1 hb1 ho1 ⊢
          have HO1 := Lib.hid ho1
          have HB1 := Lib.hid hb1
          clear ho1 hb1
          go_wp2_with (first | (refine wpList_load_row rfl 108 (.tmp 9) rfl (w.heap.size + 1 + 1) rfl _ _ _ _ hput Tryd.underlying108 rfl (by kernel_rfl) ?_) | (refine wpList_store_row rfl 108 (.tmp 8) (.tmp 65) rfl (w.heap.size + 1) (groupV (.slice ga (List.length G) gc) false false 21 (-1) 0) rfl rfl _ _ hres1 (by kernel_rfl) rfl (by simp [groupV, Value.oneCell']) ?_))
          rw [HRr.out]
          exact group_ends HO1.out HB1.out hres1 rfl rfl (fun e => by cases e) (fun e => by cases e) (fun _ => rfl) rfl rfl rfl
        | more k0 k1 k2 k3 =>
          have e1 : Op.bytesLess SB.toList SK.toList = false := by rw [d1]; exact k2
          have e2 : (SB.toList == SK.toList) = true := by rw [d2]; exact decide_eq_true (eq_of_not k2 k1)
          have q2 : ((G.length : Int) == (N : Int)) = false := by simp; omega
          have HSame2 := Lib.hid (show readG N a ov (L.drop at0) [] = readG N a ov (L.drop (i + 1)) (G ++ [l]) by rw [HGr.out.same, HDr.out, readG_more ov l _ G k0 k1 k2 k3])
          clear d1 d2 k0 k1 k2 k3
          go_upto_region 17 with fail
          refine anyG_start (S := fun W => W.heap[w.heap.size]? = some (.cells #[.slice (some ⟨gb, off, none⟩) nL lc, .bool ov, .int .i64 c1, .int .i64 c2, .int .i64 c3] 103 (0, 0)) ∧ W.cell? ⟨gb, off + i, none⟩ = some (.string SL)) (by kernel_rfl) ?_
          have hgr := HGr.out.drewN 1
          have hS0 : (fun W : World => W.heap[w.heap.size]? = some (.cells #[.slice (some ⟨gb, off, none⟩) nL lc, .bool ov, .int .i64 c1, .int .i64 c2, .int .i64 c3] 103 (0, 0)) ∧ W.cell? ⟨gb, off + i, none⟩ = some (.string SL)) WR.drew := ⟨HGr.out.box, hx⟩
          have hrow2 : WR.drew.heap[w.heap.size + 2]? = _ := HGr.out.row
          have hres2 : WR.drew.heap[w.heap.size + 1]? = _ := HGr.out.res
          have hown2 : WR.drew.ownsRow (w.heap.size + 3) 9 1 (.slice ga G.length gc) G.length (G.map strV) := hgr.own
          have hbel2 : Below w.heap.size w WR.drew := hgr.bel
          have hlt64 := block_lt_of_cell hx
          have hlt64' : gb < WR.drew.heap.size := hlt64
          generalize WR.drew = W2 at hS0 hrow2 hres2 hown2 hbel2 hlt64' ⊢
          have HOw := Lib.hid hown2
          have HBl := Lib.hid hbel2
          clear hgr hlt64 hown2 hbel2
          refine anyG_take (i := 0) 66 (.pointer (some ⟨w.heap.size + 1 + 1, 0, none⟩)) rfl rfl (by kernel_rfl) (by kernel_rfl) (by kernel_rfl) rfl (fun _ _ => by go_simp) hS0 ?_
          simp only [Act.put, List.setIfInBounds_toArray, List.set_cons_succ, List.set_cons_zero]
          refine anyG_take (i := 2) 68 (.pointer (some ⟨w.heap.size, 0, none⟩)) rfl rfl (by kernel_rfl) (by kernel_rfl) (by kernel_rfl) rfl (fun _ _ => by go_simp) hS0 ?_
          simp only [Act.put, List.setIfInBounds_toArray, List.set_cons_succ, List.set_cons_zero]
          refine anyG_take (i := 3) 69 (.slice (some ⟨gb, off, none⟩) nL lc) rfl rfl (by kernel_rfl) (by kernel_rfl) (by kernel_rfl) rfl (fun W hW => by have hc := box0 hW.1; go_simp) hS0 ?_
          simp only [Act.put, List.setIfInBounds_toArray, List.set_cons_succ, List.set_cons_zero]
          refine anyG_take (i := 4) 70 (.int .i64 i) rfl rfl (by kernel_rfl) (by kernel_rfl) (by kernel_rfl) rfl (fun _ _ => rfl) hS0 ?_
          simp only [Act.put, List.setIfInBounds_toArray, List.set_cons_succ, List.set_cons_zero]
          refine anyG_take (i := 5) 71 (.pointer (some ⟨gb, off + i, none⟩)) rfl rfl (by kernel_rfl) (by kernel_rfl) (by kernel_rfl) rfl (fun _ _ => by go_simp) hS0 ?_
          simp only [Act.put, List.setIfInBounds_toArray, List.set_cons_succ, List.set_cons_zero]
          refine anyG_take (i := 6) 72 (.string SL) rfl rfl (by kernel_rfl) (by kernel_rfl) (by kernel_rfl) rfl (fun W hW => by have hc := hW.2; go_simp) hS0 ?_
          simp only [Act.put, List.setIfInBounds_toArray, List.set_cons_succ, List.set_cons_zero]
          have y2 : W2.cell? ⟨w.heap.size + 1 + 1, 0, none⟩ = some (.slice ga G.length gc) := by rw [cell_of_row _ _ _ _ _ _ hrow2]; rfl
          have hal : Below W2.heap.size W2 (W2.alloc (.cells #[.string SL] 9)) := (Below.refl _ _).alloc (Nat.le_refl _) _
          have hlt2 := (Array.getElem?_eq_some_iff.1 hrow2).1
          have y3 : (W2.alloc (.cells #[.string SL] 9)).cell? ⟨w.heap.size + 1 + 1, 0, none⟩ = some (.slice ga G.length gc) := by rw [hal.cell (by exact hlt2)]; exact y2
          have hS3 : (fun W : World => W.heap[w.heap.size]? = some (.cells #[.slice (some ⟨gb, off, none⟩) nL lc, .bool ov, .int .i64 c1, .int .i64 c2, .int .i64 c3] 103 (0, 0)) ∧ W.cell? ⟨gb, off + i, none⟩ = some (.string SL)) (W2.alloc (.cells #[.string SL] 9)) := ⟨(hal.block w.heap.size (by omega)).trans hS0.1, by rw [hal.cell hlt64']; exact hS0.2⟩
          refine anyG_quietS (i := 1) (j := 7) (fun W => W = W2.alloc (.cells #[.string SL] 9)) 67 73 (.slice ga G.length gc) (.slice (some ⟨W2.heap.size, 0, none⟩) 1 1) rfl rfl rfl rfl (by decide) (by decide) (by kernel_rfl) (by kernel_rfl) (by kernel_rfl) rfl rfl rfl rfl ?_ ?_ ?_ ?_ hS0 ?_ ?_
          · go_simp
          · intro w' hw'
            subst hw'
            simp only [Act.put, List.setIfInBounds_toArray, List.set_cons_succ, List.set_cons_zero]
            go_simp
          · intro K hK
            have hK2 := hK _ rfl
            simp only [Act.put, List.setIfInBounds_toArray, List.set_cons_succ, List.set_cons_zero] at hK2
            clear hK
            go_simp
            try simp only [Act.put, List.setIfInBounds_toArray, List.set_cons_succ, List.set_cons_zero]
            exact hK2
          · intro K hK
            have hK2 := hK _ rfl
            simp only [Act.put, List.setIfInBounds_toArray, List.set_cons_succ, List.set_cons_zero] at hK2
            clear hK
            go_simp
            try simp only [Act.put, List.setIfInBounds_toArray, List.set_cons_succ, List.set_cons_zero]
            exact hK2
          · intro w' hw'
            rw [hw']
            exact hS3
          intro W3 hW3
          subst hW3
          simp only [Act.put, List.setIfInBounds_toArray, List.set_cons_succ, List.set_cons_zero]
          have hown3 := HOw.out.alloc (.cells #[.string SL] 9)
          have k4 : (W2.alloc (.cells #[.string SL] 9)).cell? ⟨W2.heap.size, 0, none⟩ = some (strV l) := by rw [HSL.out, cell_of_row _ _ _ _ _ _ (heap_alloc_last W2 _)]; rfl
          have hrow3 := (hal.block (w.heap.size + 2) (by omega)).trans hrow2
          have hres3 := (hal.block (w.heap.size + 1) (by omega)).trans hres2
          have hbel3 := HBl.out.trans (hal.mono HBl.out.size)
          have hsz3 : (W2.alloc (.cells #[.string SL] 9)).heap.size = W2.heap.size + 1 := by simp
          refine anyG_step (i := 8) rfl (by kernel_rfl) rfl (fun K hK => ?_)
          refine wp_append_text (.tmp 67) (.tmp 73) rfl (w.heap.size + 3) (.slice ga G.length gc) G l W2.heap.size rfl hown3 rfl k4 (by omega) (by rw [hsz3]; omega) 74 rfl ?_
          intro v5 W5 ho5 hg5
          have hb5 : Below (w.heap.size + 3) (W2.alloc (.cells #[.string SL] 9)) W5 := (Below.refl _ _).grown hg5 (by rw [hsz3]; omega) (fun j ej => (hown3.lt j ej).1)
          obtain ⟨a5, l5, rfl⟩ := Pm.owns_slice ho5
          have hbx5 := (hb5.block w.heap.size (by omega)).trans hS3.1
          have hrw5 := (hb5.block (w.heap.size + 2) (by omega)).trans hrow3
          have hrs5 := (hb5.block (w.heap.size + 1) (by omega)).trans hres3
          have hx5 : W5.cell? ⟨gb, off + i, none⟩ = some (.string SL) := by rw [hb5.cell (by show gb < _; omega)]; exact hS3.2
          have hbel5 := hbel3.trans (hb5.mono (by omega))
          refine hK.out _ _ ⟨hbx5, hx5⟩ ?_
          clear hK K
          simp only [Act.put, List.setIfInBounds_toArray, List.set_cons_succ, List.set_cons_zero]
          refine anyG_take (i := 9) 75 (.pointer (some ⟨w.heap.size + 1 + 1, 0, none⟩)) rfl rfl (by kernel_rfl) (by kernel_rfl) (by kernel_rfl) rfl (fun _ _ => by go_simp) ⟨hbx5, hx5⟩ ?_
          simp only [Act.put, List.setIfInBounds_toArray, List.set_cons_succ, List.set_cons_zero]
          have k5 : W5.cell? ⟨w.heap.size + 1 + 1, 0, none⟩ = some (.slice ga G.length gc) := by rw [cell_of_row _ _ _ _ _ _ hrw5]; rfl
          have z5 : W5.frozen? ⟨w.heap.size + 1 + 1, 0, none⟩ = false := by simp [World.frozen?, hrw5]
          refine anyG_step (i := 10) rfl (by kernel_rfl) rfl (fun K hK => ?_)
          go_simp
          have hc6 := fun x => Below.heap_setCell W5 ⟨w.heap.size + 2, 0, none⟩ x
          have hrw6 := setCell_row (o := 0) (v := .slice a5 (List.length G + 1) l5) hrw5
          have hb6 : Below (w.heap.size + 2) W5 (W5.setCell ⟨w.heap.size + 1 + 1, 0, none⟩ (.slice a5 (List.length G + 1) l5)) := Below.setCell (B := w.heap.size + 2) (p := ⟨w.heap.size + 2, 0, none⟩) (Below.refl _ _) (Nat.le_refl _) _
          have hbx6 := (hc6 (.slice a5 (List.length G + 1) l5) w.heap.size (by simp)).trans hbx5
          have hrs6 := (hc6 (.slice a5 (List.length G + 1) l5) (w.heap.size + 1) (by simp)).trans hrs5
          have ho6 := ho5.heap_kept (W' := W5.setCell ⟨w.heap.size + 1 + 1, 0, none⟩ (.slice a5 (List.length G + 1) l5)) (fun j hj => hc6 (.slice a5 (List.length G + 1) l5) j (by simp; omega))
          have hx6 : (W5.setCell ⟨w.heap.size + 1 + 1, 0, none⟩ (.slice a5 (List.length G + 1) l5)).cell? ⟨gb, off + i, none⟩ = some (.string SL) := by rw [hb6.cell (by show gb < _; omega)]; exact hx5
          have hbel6 := hbel5.trans (hb6.mono (by omega))
          refine hK.out _ _ ⟨hbx6, hx6⟩ ?_
          clear hK K hb6 hc6 k5 z5 hrw5 hrs5 hbx5 hb5 ho5 hg5 hx5 hbel5
          generalize W5.setCell ⟨w.heap.size + 1 + 1, 0, none⟩ (.slice a5 (List.length G + 1) l5) = W6 at hrw6 hbx6 hrs6 ho6 hx6 hbel6 ⊢
          try simp only [Act.put, List.setIfInBounds_toArray, List.set_cons_succ, List.set_cons_zero]
          refine anyG_done (by kernel_rfl) ?_
          go_wp2_with fail
          go_roundw
          case rel =>
            refine ⟨i + 1, G ++ [l], _, by go_num, ⟨by omega, by rw [← HnL.out]; omega⟩, ?_, HSame2.out, by simpa using ho6, hbx6, hrs6, hrw6, hbel6⟩
            have := HGr.out.grp
            rw [show i + 1 - at0 = (i - at0) + 1 by omega, List.take_add_one, List.getElem?_drop, show at0 + (i - at0) = i by omega, HLi.out, ← this]
            rfl
          case measure => simp [intOf]; omega
    · have g1 : ¬ (i : Int) < (nL : Int) := by omega
      have x1 : WR.cell? ⟨w.heap.size, 1, none⟩ = some (.bool ov) := by rw [cell_of_row _ _ _ _ _ _ HGr.out.box]; rfl
      have hdrop : L.drop i = [] := List.drop_of_length_le (by rw [← HnL.out]; omega)
      have hend : R = readG N a ov [] G := by rw [HR.out, HGr.out.same, hdrop]
      have HEnd := Lib.hid hend
      clear hdrop hend
      cases ov with
      | false =>
        have HRr := Lib.hid (show R = ([], G, 0) by rw [HEnd.out]; rfl)
        have hrow := HGr.out.row
        have hres := HGr.out.res
        have p1 : WR.cell? ⟨w.heap.size + 1 + 1, 1, none⟩ = some (.bool false) := by rw [cell_of_row _ _ _ _ _ _ hrow]; rfl
        have p2 : WR.cell? ⟨w.heap.size + 1 + 1, 2, none⟩ = some (.bool false) := by rw [cell_of_row _ _ _ _ _ _ hrow]; rfl
        have z1 : WR.frozen? ⟨w.heap.size + 1 + 1, 1, none⟩ = false := by simp [World.frozen?, hrow]
        have z2 : WR.frozen? ⟨w.heap.size + 1 + 1, 2, none⟩ = false := by simp [World.frozen?, hrow]
        have hrow2 := group_none false (group_whole false hrow)
        have hpb : Below (w.heap.size + 2) WR ((WR.setCell ⟨w.heap.size + 2, 2, none⟩ (.bool false)).setCell ⟨w.heap.size + 2, 1, none⟩ (.bool false)) := Below.setCell (B := w.heap.size + 2) (p := ⟨w.heap.size + 2, 1, none⟩) (Below.setCell (B := w.heap.size + 2) (p := ⟨w.heap.size + 2, 2, none⟩) (Below.refl _ _) (Nat.le_refl _) _) (Nat.le_refl _) _
        have hoth := fun k (hk : k ≠ w.heap.size + 2) => (Below.heap_setCell (WR.setCell ⟨w.heap.size + 2, 2, none⟩ (.bool false)) ⟨w.heap.size + 2, 1, none⟩ (.bool false) k hk).trans (Below.heap_setCell WR ⟨w.heap.size + 2, 2, none⟩ (.bool false) k hk)
        go_upto_region 20 with fail
        have hres2 := (hoth (w.heap.size + 1) (by omega)).trans hres
        have hbox2 := (hoth w.heap.size (by omega)).trans HGr.out.box
        have hb2 := HGr.out.bel.trans (hpb.mono (by omega))
        have ho2 := HGr.out.own.heap_kept (W' := (WR.setCell ⟨w.heap.size + 2, 2, none⟩ (.bool false)).setCell ⟨w.heap.size + 2, 1, none⟩ (.bool false)) (fun j hj => hoth j (by omega))
        change Code.wp _ _ _ _ ((WR.setCell ⟨w.heap.size + 2, 2, none⟩ (.bool false)).setCell ⟨w.heap.size + 2, 1, none⟩ (.bool false))
        clear hpb hoth hrow hres p1 p2 z1 z2 x0 y0 x1
        generalize ((WR.setCell ⟨w.heap.size + 2, 2, none⟩ (.bool false)).setCell ⟨w.heap.size + 2, 1, none⟩ (.bool false)) = W2 at hrow2 hres2 hbox2 hb2 ho2 ⊢
        have HO2 := Lib.hid ho2
        have HB2 := Lib.hid hb2
        clear ho2 hb2
        have hmid : W2.rangeAt w.heap.size 2 [Value.int .i64 c1, .int .i64 c2, .int .i64 c3] := fun j v hv => by
          rw [cell_of_row _ _ _ _ _ _ hbox2]
          rcases j with _ | _ | _ | j
          · exact hv
          · exact hv
          · exact hv
          · simp at hv
        have hth : W2.there (w.heap.size + 1 + 1) 3 (#[Value.int .i64 c1, .int .i64 c2, .int .i64 c3] : Array Value).size := group_there hrow2
        have hput := group_err c1 c2 c3 hrow2
        have hpb : Below (w.heap.size + 2) W2 (W2.setCells (w.heap.size + 2) 3 [.int .i64 c1, .int .i64 c2, .int .i64 c3]) := (Frame.cells (w := W2) (w.heap.size + 2) 3 [.int .i64 c1, .int .i64 c2, .int .i64 c3]).below (Nat.le_of_lt (Array.getElem?_eq_some_iff.1 hrow2).1) (fun k e => by have e' : k = w.heap.size + 2 := e; omega)
        have hoth := fun k hk => other_setCells [.int .i64 c1, .int .i64 c2, .int .i64 c3] 3 W2 (w.heap.size + 2) k hk
        go_upto_region 21 with (first | (refine wpList_load_mid rfl 59 (.tmp 94) rfl w.heap.size 2 rfl _ _ hmid Tryd.underlying59 rfl (by kernel_rfl) ?_) | (refine wpList_store_mid rfl 59 (.tmp 96) (.tmp 95) rfl (w.heap.size + 1 + 1) 3 #[.int .i64 c1, .int .i64 c2, .int .i64 c3] rfl rfl hth (by kernel_rfl) (by kernel_rfl) ?_))
        have hres1 := (hoth (w.heap.size + 1) (by omega)).trans hres2
        have hb1 := HB2.out.trans (hpb.mono (by omega))
        have ho1 := HO2.out.heap_kept (W' := W2.setCells (w.heap.size + 2) 3 [.int .i64 c1, .int .i64 c2, .int .i64 c3]) (fun j hj => hoth j (by omega))
        change Code.wp _ _ _ _ (W2.setCells (w.heap.size + 2) 3 [.int .i64 c1, .int .i64 c2, .int .i64 c3])
        clear hpb hoth hth hmid hrow2 hres2 hbox2
        generalize W2.setCells (w.heap.size + 2) 3 [.int .i64 c1, .int .i64 c2, .int .i64 c3] = W1 at hput hres1 hb1 ho1 ⊢
        have HO1 := Lib.hid ho1
        have HB1 := Lib.hid hb1
        clear ho1 hb1
        go_wp2_with (first | (refine wpList_load_row rfl 108 (.tmp 9) rfl (w.heap.size + 1 + 1) rfl _ _ _ _ hput Tryd.underlying108 rfl (by kernel_rfl) ?_) | (refine wpList_store_row rfl 108 (.tmp 8) (.tmp 97) rfl (w.heap.size + 1) (groupV (.slice ga (List.length G) gc) false false c1 c2 c3) rfl rfl _ _ hres1 (by kernel_rfl) rfl (by simp [groupV, Value.oneCell']) ?_))
        rw [HRr.out]
        exact group_ends HO1.out HB1.out hres1 rfl rfl (fun _ => rfl) (fun e => by cases e) (fun e => by cases e) rfl rfl rfl
      | true =>
        by_cases hG0 : G = []
        · have q5 : ¬ (0 : Int) < (G.length : Int) := by rw [hG0]; simp
          have q5n : ¬ 0 < G.length := by rw [hG0]; simp
          have q6 : ((G.length : Int) == 0) = true := by rw [hG0]; rfl
          have HRr := Lib.hid (show R = ([], G, 2) by rw [HEnd.out, hG0]; rfl)
          clear hG0
          have hrow := HGr.out.row
          have hres := HGr.out.res
          have p1 : WR.cell? ⟨w.heap.size + 1 + 1, 1, none⟩ = some (.bool false) := by rw [cell_of_row _ _ _ _ _ _ hrow]; rfl
          have p2 : WR.cell? ⟨w.heap.size + 1 + 1, 2, none⟩ = some (.bool false) := by rw [cell_of_row _ _ _ _ _ _ hrow]; rfl
          have z1 : WR.frozen? ⟨w.heap.size + 1 + 1, 1, none⟩ = false := by simp [World.frozen?, hrow]
          have z2 : WR.frozen? ⟨w.heap.size + 1 + 1, 2, none⟩ = false := by simp [World.frozen?, hrow]
          have hrow2 := group_none true (group_whole false hrow)
          have hpb : Below (w.heap.size + 2) WR ((WR.setCell ⟨w.heap.size + 2, 2, none⟩ (.bool false)).setCell ⟨w.heap.size + 2, 1, none⟩ (.bool true)) := Below.setCell (B := w.heap.size + 2) (p := ⟨w.heap.size + 2, 1, none⟩) (Below.setCell (B := w.heap.size + 2) (p := ⟨w.heap.size + 2, 2, none⟩) (Below.refl _ _) (Nat.le_refl _) _) (Nat.le_refl _) _
          have hoth := fun k (hk : k ≠ w.heap.size + 2) => (Below.heap_setCell (WR.setCell ⟨w.heap.size + 2, 2, none⟩ (.bool false)) ⟨w.heap.size + 2, 1, none⟩ (.bool true) k hk).trans (Below.heap_setCell WR ⟨w.heap.size + 2, 2, none⟩ (.bool false) k hk)
          go_upto_region 20 with fail
          have hres2 := (hoth (w.heap.size + 1) (by omega)).trans hres
          have hbox2 := (hoth w.heap.size (by omega)).trans HGr.out.box
          have hb2 := HGr.out.bel.trans (hpb.mono (by omega))
          have ho2 := HGr.out.own.heap_kept (W' := (WR.setCell ⟨w.heap.size + 2, 2, none⟩ (.bool false)).setCell ⟨w.heap.size + 2, 1, none⟩ (.bool true)) (fun j hj => hoth j (by omega))
          change Code.wp _ _ _ _ ((WR.setCell ⟨w.heap.size + 2, 2, none⟩ (.bool false)).setCell ⟨w.heap.size + 2, 1, none⟩ (.bool true))
          clear hpb hoth hrow hres p1 p2 z1 z2 x0 y0 x1
          generalize ((WR.setCell ⟨w.heap.size + 2, 2, none⟩ (.bool false)).setCell ⟨w.heap.size + 2, 1, none⟩ (.bool true)) = W2 at hrow2 hres2 hbox2 hb2 ho2 ⊢
          have HO2 := Lib.hid ho2
          have HB2 := Lib.hid hb2
          clear ho2 hb2
          have hmid : W2.rangeAt w.heap.size 2 [Value.int .i64 c1, .int .i64 c2, .int .i64 c3] := fun j v hv => by
            rw [cell_of_row _ _ _ _ _ _ hbox2]
            rcases j with _ | _ | _ | j
            · exact hv
            · exact hv
            · exact hv
            · simp at hv
          have hth : W2.there (w.heap.size + 1 + 1) 3 (#[Value.int .i64 c1, .int .i64 c2, .int .i64 c3] : Array Value).size := group_there hrow2
          have hput := group_err c1 c2 c3 hrow2
          have hpb : Below (w.heap.size + 2) W2 (W2.setCells (w.heap.size + 2) 3 [.int .i64 c1, .int .i64 c2, .int .i64 c3]) := (Frame.cells (w := W2) (w.heap.size + 2) 3 [.int .i64 c1, .int .i64 c2, .int .i64 c3]).below (Nat.le_of_lt (Array.getElem?_eq_some_iff.1 hrow2).1) (fun k e => by have e' : k = w.heap.size + 2 := e; omega)
          have hoth := fun k hk => other_setCells [.int .i64 c1, .int .i64 c2, .int .i64 c3] 3 W2 (w.heap.size + 2) k hk
          go_upto_region 21 with (first | (refine wpList_load_mid rfl 59 (.tmp 94) rfl w.heap.size 2 rfl _ _ hmid Tryd.underlying59 rfl (by kernel_rfl) ?_) | (refine wpList_store_mid rfl 59 (.tmp 96) (.tmp 95) rfl (w.heap.size + 1 + 1) 3 #[.int .i64 c1, .int .i64 c2, .int .i64 c3] rfl rfl hth (by kernel_rfl) (by kernel_rfl) ?_))
          have hres1 := (hoth (w.heap.size + 1) (by omega)).trans hres2
          have hb1 := HB2.out.trans (hpb.mono (by omega))
          have ho1 := HO2.out.heap_kept (W' := W2.setCells (w.heap.size + 2) 3 [.int .i64 c1, .int .i64 c2, .int .i64 c3]) (fun j hj => hoth j (by omega))
          change Code.wp _ _ _ _ (W2.setCells (w.heap.size + 2) 3 [.int .i64 c1, .int .i64 c2, .int .i64 c3])
          clear hpb hoth hth hmid hrow2 hres2 hbox2
          generalize W2.setCells (w.heap.size + 2) 3 [.int .i64 c1, .int .i64 c2, .int .i64 c3] = W1 at hput hres1 hb1 ho1 ⊢
          have HO1 := Lib.hid ho1
          have HB1 := Lib.hid hb1
          clear ho1 hb1
          go_wp2_with (first | (refine wpList_load_row rfl 108 (.tmp 9) rfl (w.heap.size + 1 + 1) rfl _ _ _ _ hput Tryd.underlying108 rfl (by kernel_rfl) ?_) | (refine wpList_store_row rfl 108 (.tmp 8) (.tmp 97) rfl (w.heap.size + 1) (groupV (.slice ga (List.length G) gc) true false c1 c2 c3) rfl rfl _ _ hres1 (by kernel_rfl) rfl (by simp [groupV, Value.oneCell']) ?_))
          rw [HRr.out]
          exact group_ends HO1.out HB1.out hres1 rfl rfl (fun _ => rfl) (fun e => by cases e) (fun e => by cases e) rfl rfl rfl
        · have hG1 : 0 < G.length := List.length_pos_iff.2 hG0
          have q5 : (0 : Int) < (G.length : Int) := by omega
          have q6 : ((G.length : Int) == 0) = false := by simp; exact hG0
          have HRr := Lib.hid (show R = ([], G, 1) by rw [HEnd.out]; simp [readG, hG0])
          clear hG0
          have hrow := HGr.out.row
          have hres := HGr.out.res
          have p1 : WR.cell? ⟨w.heap.size + 1 + 1, 1, none⟩ = some (.bool false) := by rw [cell_of_row _ _ _ _ _ _ hrow]; rfl
          have p2 : WR.cell? ⟨w.heap.size + 1 + 1, 2, none⟩ = some (.bool false) := by rw [cell_of_row _ _ _ _ _ _ hrow]; rfl
          have z1 : WR.frozen? ⟨w.heap.size + 1 + 1, 1, none⟩ = false := by simp [World.frozen?, hrow]
          have z2 : WR.frozen? ⟨w.heap.size + 1 + 1, 2, none⟩ = false := by simp [World.frozen?, hrow]
          have hrow2 := group_none false (group_whole true hrow)
          have hpb : Below (w.heap.size + 2) WR ((WR.setCell ⟨w.heap.size + 2, 2, none⟩ (.bool true)).setCell ⟨w.heap.size + 2, 1, none⟩ (.bool false)) := Below.setCell (B := w.heap.size + 2) (p := ⟨w.heap.size + 2, 1, none⟩) (Below.setCell (B := w.heap.size + 2) (p := ⟨w.heap.size + 2, 2, none⟩) (Below.refl _ _) (Nat.le_refl _) _) (Nat.le_refl _) _
          have hoth := fun k (hk : k ≠ w.heap.size + 2) => (Below.heap_setCell (WR.setCell ⟨w.heap.size + 2, 2, none⟩ (.bool true)) ⟨w.heap.size + 2, 1, none⟩ (.bool false) k hk).trans (Below.heap_setCell WR ⟨w.heap.size + 2, 2, none⟩ (.bool true) k hk)
          go_upto_region 20 with fail
          have hres2 := (hoth (w.heap.size + 1) (by omega)).trans hres
          have hbox2 := (hoth w.heap.size (by omega)).trans HGr.out.box
          have hb2 := HGr.out.bel.trans (hpb.mono (by omega))
          have ho2 := HGr.out.own.heap_kept (W' := (WR.setCell ⟨w.heap.size + 2, 2, none⟩ (.bool true)).setCell ⟨w.heap.size + 2, 1, none⟩ (.bool false)) (fun j hj => hoth j (by omega))
          change Code.wp _ _ _ _ ((WR.setCell ⟨w.heap.size + 2, 2, none⟩ (.bool true)).setCell ⟨w.heap.size + 2, 1, none⟩ (.bool false))
          clear hpb hoth hrow hres p1 p2 z1 z2 x0 y0 x1
          generalize ((WR.setCell ⟨w.heap.size + 2, 2, none⟩ (.bool true)).setCell ⟨w.heap.size + 2, 1, none⟩ (.bool false)) = W2 at hrow2 hres2 hbox2 hb2 ho2 ⊢
          have HO2 := Lib.hid ho2
          have HB2 := Lib.hid hb2
          clear ho2 hb2
          have hmid : W2.rangeAt w.heap.size 2 [Value.int .i64 c1, .int .i64 c2, .int .i64 c3] := fun j v hv => by
            rw [cell_of_row _ _ _ _ _ _ hbox2]
            rcases j with _ | _ | _ | j
            · exact hv
            · exact hv
            · exact hv
            · simp at hv
          have hth : W2.there (w.heap.size + 1 + 1) 3 (#[Value.int .i64 c1, .int .i64 c2, .int .i64 c3] : Array Value).size := group_there hrow2
          have hput := group_err c1 c2 c3 hrow2
          have hpb : Below (w.heap.size + 2) W2 (W2.setCells (w.heap.size + 2) 3 [.int .i64 c1, .int .i64 c2, .int .i64 c3]) := (Frame.cells (w := W2) (w.heap.size + 2) 3 [.int .i64 c1, .int .i64 c2, .int .i64 c3]).below (Nat.le_of_lt (Array.getElem?_eq_some_iff.1 hrow2).1) (fun k e => by have e' : k = w.heap.size + 2 := e; omega)
          have hoth := fun k hk => other_setCells [.int .i64 c1, .int .i64 c2, .int .i64 c3] 3 W2 (w.heap.size + 2) k hk
          go_upto_region 21 with (first | (refine wpList_load_mid rfl 59 (.tmp 94) rfl w.heap.size 2 rfl _ _ hmid Tryd.underlying59 rfl (by kernel_rfl) ?_) | (refine wpList_store_mid rfl 59 (.tmp 96) (.tmp 95) rfl (w.heap.size + 1 + 1) 3 #[.int .i64 c1, .int .i64 c2, .int .i64 c3] rfl rfl hth (by kernel_rfl) (by kernel_rfl) ?_))
          have hres1 := (hoth (w.heap.size + 1) (by omega)).trans hres2
          have hb1 := HB2.out.trans (hpb.mono (by omega))
          have ho1 := HO2.out.heap_kept (W' := W2.setCells (w.heap.size + 2) 3 [.int .i64 c1, .int .i64 c2, .int .i64 c3]) (fun j hj => hoth j (by omega))
          change Code.wp _ _ _ _ (W2.setCells (w.heap.size + 2) 3 [.int .i64 c1, .int .i64 c2, .int .i64 c3])
          clear hpb hoth hth hmid hrow2 hres2 hbox2
          generalize W2.setCells (w.heap.size + 2) 3 [.int .i64 c1, .int .i64 c2, .int .i64 c3] = W1 at hput hres1 hb1 ho1 ⊢
          have HO1 := Lib.hid ho1
          have HB1 := Lib.hid hb1
          clear ho1 hb1
          go_wp2_with (first | (refine wpList_load_row rfl 108 (.tmp 9) rfl (w.heap.size + 1 + 1) rfl _ _ _ _ hput Tryd.underlying108 rfl (by kernel_rfl) ?_) | (refine wpList_store_row rfl 108 (.tmp 8) (.tmp 97) rfl (w.heap.size + 1) (groupV (.slice ga (List.length G) gc) false true c1 c2 c3) rfl rfl _ _ hres1 (by kernel_rfl) rfl (by simp [groupV, Value.oneCell']) ?_))
          rw [HRr.out]
          exact group_ends HO1.out HB1.out hres1 rfl rfl (fun _ => rfl) (fun e => by cases e) (fun e => by cases e) rfl rfl rfl

end Go.Proofs.YtchepmikbnnnhaaDoor
