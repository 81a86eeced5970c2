/- What slices.symMergeCmpFunc does with two sorted parts. -/
import Derived.Test.YtpgigpajpcianaaGreatDoorZSpB
import Derived.Deep.Cut
namespace Go.Proofs.YtpgigpajpcianaaGreatDoor
open Go.Shelf Go.RowKit

theorem take_drop_two (P X Y Q : Lines) (u v : Nat) : P ++ X.take u ++ X.drop u ++ Y.take v ++ (Y.drop v ++ Q) = P ++ X ++ Y ++ Q := by
  have h1 := List.take_append_drop u X
  have h2 := List.take_append_drop v Y
  generalize X.take u = A at *
  generalize X.drop u = B at *
  generalize Y.take v = C at *
  generalize Y.drop v = D at *
  subst h1 h2
  simp only [List.append_assoc]
theorem sym_halves {F : Bool} {X Y : Lines} (hX : SortedL F X) (hY : SortedL F Y) {u v : Nat} (h1 : u = 0 ∨ v = Y.length ∨ ∃ x y, X[u - 1]? = some x ∧ Y[v]? = some y ∧ upto F x y ∧ 0 < u) (h2 : u = X.length ∨ v = 0 ∨ ∃ x y, X[u]? = some x ∧ Y[v - 1]? = some y ∧ upto F y x ∧ 0 < v) :
    sortL F (X.take u ++ Y.take v) ++ sortL F (X.drop u ++ Y.drop v) = sortL F (X ++ Y) := by
  rw [halves_is (A := X.take u) (B := X.drop u) (C := Y.take v) (D := Y.drop v) (by rw [List.take_append_drop]; exact hX) (by rw [List.take_append_drop]; exact hY), List.take_append_drop, List.take_append_drop]
  · intro a ha d hd
    obtain ⟨k, hk, hku⟩ := mem_take_at ha
    obtain ⟨l, hl⟩ := mem_drop_at hd
    have hlY := (List.getElem?_eq_some_iff.1 hl).1
    rcases h1 with h1 | h1 | ⟨x, y, e1, e2, e3, e4⟩
    · omega
    · omega
    · exact upto_trans (sorted_at hX hk e1 (by omega)) (upto_trans e3 (sorted_at hY e2 hl (by omega)))
  · intro c hc d hd
    obtain ⟨k, hk, hku⟩ := mem_take_at hc
    obtain ⟨l, hl⟩ := mem_drop_at hd
    have hlX := (List.getElem?_eq_some_iff.1 hl).1
    rcases h2 with h2 | h2 | ⟨x, y, e1, e2, e3, e4⟩
    · omega
    · omega
    · exact upto_trans (sorted_at hY hk e2 (by omega)) (upto_trans e3 (sorted_at hX e1 hl (by omega)))
section
variable {b off sz : Nat}
def SymOk (F : Bool) (b off sz N cap : Nat) (s : Nat) : Prop := ∀ (P X Y Q : Lines) (w : World), X.length + Y.length ≤ s → RowAt b off sz (P ++ X ++ Y ++ Q) w → SortedL F X → SortedL F Y → 0 < X.length → 0 < Y.length → N = P.length + X.length + Y.length + Q.length → ∀ a m e : Int, a = P.length → m = (P.length + X.length : Nat) → e = (P.length + X.length + Y.length : Nat) →
  Calls Tryz.prog 154 #[.slice (some ⟨b, off, none⟩) N cap, .int .i64 a, .int .i64 m, .int .i64 e, cmpV F] w (Turned b off sz (P ++ sortL F (X ++ Y) ++ Q) w)
set_option maxRecDepth 100000 in
set_option maxHeartbeats 16000000 in
theorem symMany_any (F : Bool) (N cap : Nat) (hL : N ≤ 1000000) (s : Nat) (ih : SymOk F b off sz N cap s) (P X Y Q : Lines) (w : World) (hs : X.length + Y.length ≤ s + 1) (h : RowAt b off sz (P ++ X ++ Y ++ Q) w) (hX : SortedL F X) (hY : SortedL F Y) (hXl : 2 ≤ X.length) (hYl : 2 ≤ Y.length) (hN : N = P.length + X.length + Y.length + Q.length) (a m e : Int) (ha : a = P.length) (hm : m = (P.length + X.length : Nat)) (he : e = (P.length + X.length + Y.length : Nat)) :
    Calls Tryz.prog 154 #[.slice (some ⟨b, off, none⟩) N cap, .int .i64 a, .int .i64 m, .int .i64 e, cmpV F] w (Turned b off sz (P ++ sortL F (X ++ Y) ++ Q) w) := by
  have h0 := Lib.hid h
  have b1 : (0 : Int) ≤ a := by omega
  have b2 : e ≤ (N : Int) := by omega
  have b3 : (N : Int) ≤ 1000000 := by omega
  have b4 : a + 2 ≤ m := by omega
  have b5 : m + 2 ≤ e := by omega
  have HA := Lib.hid ha
  have HM := Lib.hid hm
  have HE := Lib.hid he
  have HLen := Lib.hid hN
  have HXs := Lib.hid hX
  have HYs := Lib.hid hY
  have HS := Lib.hid hs
  have HIh := Lib.hid ih
  have HRot := Lib.hid (fun (P X Y Q : Lines) (w : World) (h : RowAt b off sz (P ++ X ++ Y ++ Q) w) (hX : 0 < X.length) (hY : 0 < Y.length) (hN : N = (P ++ X ++ Y ++ Q).length) (a m e : Int) (ha : a = P.length) (hm : m = (P.length + X.length : Nat)) (he : e = (P.length + X.length + Y.length : Nat)) => rotate_any P X Y Q h hX hY N cap hN hL a m e ha hm he (cmpV F))
  have hent := cmp_enters
  clear h hN hL ha hm he hX hY hXl hYl hs ih
  unfold cmpV at HRot ⊢
  unfold SymOk cmpV at HIh
  obtain ⟨ov, hov⟩ : ∃ ov, ov = ordV F := ⟨_, rfl⟩
  have HOv := Lib.hid hov
  rw [← hov] at HRot HIh ⊢
  clear hov
  have r1 : IntKind.i64.wrap (m - a) = m - a := by rw [IntKind.wrap_i64]; omega
  have r2 : IntKind.i64.wrap (e - m) = e - m := by rw [IntKind.wrap_i64]; omega
  have r3 : IntKind.i64.wrap (a + e) = a + e := by rw [IntKind.wrap_i64]; omega
  have g1 : ((m - a) == 1) = false := by simp; omega
  have g2 : ((e - m) == 1) = false := by simp; omega
  have g3 : ¬ (m - a = 1) := by omega
  have g4 : ¬ (e - m = 1) := by omega
  go_enter Tryz.func154, Tryz.ntmps154
  go_upto_region 25 with fail
  have hq1 : 2 * ((a + e) / 2) ≤ a + e := by omega
  have hq2 : a + e ≤ 2 * ((a + e) / 2) + 1 := by omega
  generalize (a + e) / 2 = mid at hq1 hq2 ⊢
  have r4 : IntKind.i64.wrap (mid + m) = mid + m := by rw [IntKind.wrap_i64]; omega
  have r5 : IntKind.i64.wrap (mid + m - e) = mid + m - e := by rw [IntKind.wrap_i64]; omega
  have r6 : IntKind.i64.wrap (mid + m - 1) = mid + m - 1 := by rw [IntKind.wrap_i64]; omega
  clear r1 r2 r3 g1 g2 g3 g4
  go_upto_if 140 with fail
  go_cut [20, 21] (fun lv hv W => ∃ lo hi : Int, lv = .int .i64 lo ∧ hv = .int .i64 hi ∧ W = w ∧ lo ≤ hi ∧ a ≤ lo ∧ hi ≤ m ∧ (lo = a ∨ mid + m - lo = e) ∧ (hi = m ∨ hi = mid) ∧ m ≤ mid + m - hi ∧ mid + m - lo ≤ e)
  case first =>
    by_cases hgt : m > mid
    · go_wp2_with fail
      go_meet
      case rel => exact ⟨mid + m - e, mid, rfl, rfl, rfl, by omega, by omega, by omega, by omega, by omega, by omega, by omega⟩
    · go_wp2_with fail
      go_meet
      case rel => exact ⟨a, m, rfl, rfl, rfl, by omega, by omega, by omega, by omega, by omega, by omega, by omega⟩
  case rest =>
    obtain ⟨lo, hi, rfl, rfl, hw, l1, l2, l3, l4, l5, l6, l7⟩ := hcut
    subst hw
    go_wp2_with fail
    go_loopw [20, 21] (fun sv rv wr => ∃ s' r : Int, sv = .int .i64 s' ∧ rv = .int .i64 r ∧ lo ≤ s' ∧ s' ≤ r ∧ r ≤ hi ∧ RowKit.Hid (∀ (k l : Nat) x y, X[k]? = some x → Y[l]? = some y → (a + k) + (m + l) = mid + m - 1 → lo ≤ a + k → a + k < s' → upto F x y) ∧ RowKit.Hid (∀ (k l : Nat) x y, X[k]? = some x → Y[l]? = some y → (a + k) + (m + l) = mid + m - 1 → r ≤ a + k → a + k < hi → upto F y x) ∧ RowKit.Hid (RowAt b off sz (P ++ X ++ Y ++ Q) wr) ∧ RowKit.Hid (Frame (· = b) wc wr)) (fun sv rv _ => (intOf rv - intOf sv).toNat)
    case atStart => exact ⟨lo, hi, rfl, rfl, Int.le_refl _, l1, Int.le_refl _, Lib.hid (fun k l x y _ _ _ h1 h2 => by omega), Lib.hid (fun k l x y _ _ _ h1 h2 => by omega), h0, Lib.hid (Frame.refl _ _)⟩
    case round =>
      obtain ⟨s', r, rfl, rfl, hs1, hs2, hs3, HLow, HHigh, HR, HF⟩ := hrel
      by_cases hlt : s' < r
      · have t1 : IntKind.i64.wrap (s' + r) = s' + r := by rw [IntKind.wrap_i64]; omega
        go_upto_region 35 with fail
        have hq3 : s' ≤ (s' + r) / 2 := by omega
        have hq4 : (s' + r) / 2 < r := by omega
        generalize (s' + r) / 2 = c at hq3 hq4 ⊢
        have t2 : IntKind.i64.wrap (mid + m - 1 - c) = mid + m - 1 - c := by rw [IntKind.wrap_i64]; omega
        obtain ⟨k, hk⟩ : ∃ k : Nat, c = a + (k : Int) := ⟨(c - a).toNat, by omega⟩
        obtain ⟨l, hl⟩ : ∃ l : Nat, mid + m - 1 - c = m + (l : Int) := ⟨(mid - 1 - c).toNat, by omega⟩
        have hkX : k < X.length := by have := HA.out; have := HM.out; omega
        have hlY : l < Y.length := by have := HE.out; have := HM.out; omega
        obtain ⟨x, hx⟩ : ∃ x, X[k]? = some x := ⟨_, List.getElem?_eq_getElem hkX⟩
        obtain ⟨y, hy⟩ : ∃ y, Y[l]? = some y := ⟨_, List.getElem?_eq_getElem hlY⟩
        obtain ⟨I, hI⟩ : ∃ I : Nat, I = P.length + k := ⟨_, rfl⟩
        obtain ⟨J, hJ⟩ : ∃ J : Nat, J = P.length + X.length + l := ⟨_, rfl⟩
        have hx2 : (P ++ X ++ Y ++ Q)[I]? = some x := by
          rw [show P ++ X ++ Y ++ Q = P ++ (X ++ (Y ++ Q)) by simp, List.getElem?_append_right (by omega), List.getElem?_append_left (by omega), show I - P.length = k by omega]
          exact hx
        have hy2 : (P ++ X ++ Y ++ Q)[J]? = some y := by
          rw [show P ++ X ++ Y ++ Q = (P ++ X) ++ (Y ++ Q) by simp, List.getElem?_append_right (by simp; omega), List.getElem?_append_left (by simp; omega), show J - (P ++ X).length = l by simp; omega]
          exact hy
        have c1 := HR.out.cell hx2
        have c2 := HR.out.cell hy2
        obtain ⟨A, hA⟩ : ∃ A : ByteArray, strV x = .string A := ⟨_, rfl⟩
        obtain ⟨B, hB⟩ : ∃ B : ByteArray, strV y = .string B := ⟨_, rfl⟩
        have HC := cmp_at F y x B A hB hA
        have hlt2 := cmpI_lt F y x
        rw [← HOv.out] at HC
        obtain ⟨z, hz⟩ : ∃ z, z = cmpI F y x := ⟨_, rfl⟩
        rw [← hz] at HC hlt2
        rw [hA] at c1
        rw [hB] at c2
        have e1 : c.toNat = I := by have := HA.out; omega
        have e2 : (mid + m - 1 - c).toNat = J := by have := HM.out; omega
        have p1 : (0 : Int) ≤ c := by omega
        have p2 : (0 : Int) ≤ mid + m - 1 - c := by omega
        have q1 : c < (N : Int) := by omega
        have q2 : mid + m - 1 - c < (N : Int) := by have := HE.out; have := HM.out; omega
        have HCh := Lib.hid HC
        have HK := Lib.hid hk
        have HL := Lib.hid hl
        have HX := Lib.hid hx
        have HY := Lib.hid hy
        clear HC hz hk hkX hlY hl hy hx hI hJ hy2 hx2 hA hB
        by_cases hah : aheadB F y x = true
        · have hc0 : z < 0 := hlt2.2 hah
          have hd0 : decide (z < 0) = true := decide_eq_true hc0
          have HA2 := Lib.hid (upto_of hah)
          clear hlt2 hah
          go_quiet (first | (go_at_call 59; exact Calls.quiet_of_same (HCh.out _)))
          have HR2 := Lib.hid (show RowAt b off sz (P ++ X ++ Y ++ Q) (wr.drewN nq) from HR.out)
          have HF2 := Lib.hid (show Frame (· = b) wc (wr.drewN nq) from HF.out.drewN nq)
          clear c1 c2 HR HF
          generalize wr.drewN nq = W at HR2 HF2 ⊢
          clear e1 e2
          go_wp2_with fail
          go_roundw
          case rel => exact ⟨s', c, rfl, rfl, hs1, by omega, by omega, HLow, Lib.hid (fun k' l' x' y' hx' hy' hkl h1 h2 => by
              have hk := HK.out
              have hl := HL.out
              exact upto_trans (sorted_at HYs.out hy' HY.out (by omega)) (upto_trans HA2.out (sorted_at HXs.out HX.out hx' (by omega)))), HR2, HF2⟩
          case measure => simp [intOf]; omega
        · have hc0 : ¬ z < 0 := fun e => hah (hlt2.1 e)
          have hd0 : decide (z < 0) = false := decide_eq_false hc0
          have HA2 := Lib.hid (show upto F x y from (by simpa using hah : aheadB F y x = false))
          clear hlt2 hah
          go_quiet (first | (go_at_call 59; exact Calls.quiet_of_same (HCh.out _)))
          have HR2 := Lib.hid (show RowAt b off sz (P ++ X ++ Y ++ Q) (wr.drewN nq) from HR.out)
          have HF2 := Lib.hid (show Frame (· = b) wc (wr.drewN nq) from HF.out.drewN nq)
          clear c1 c2 HR HF
          generalize wr.drewN nq = W at HR2 HF2 ⊢
          clear e1 e2
          go_wp2_with fail
          go_roundw
          case rel => exact ⟨c + 1, r, rfl, rfl, by omega, by omega, hs3, Lib.hid (fun k' l' x' y' hx' hy' hkl h1 h2 => by
              have hk := HK.out
              have hl := HL.out
              exact upto_trans (sorted_at HXs.out hx' HX.out (by omega)) (upto_trans HA2.out (sorted_at HYs.out HY.out hy' (by omega)))), HHigh, HR2, HF2⟩
          case measure => simp [intOf]; omega
      · -- the place is found
        obtain rfl : s' = r := by omega
        obtain ⟨u, hu⟩ : ∃ u : Nat, s' = a + (u : Int) := ⟨(s' - a).toNat, by omega⟩
        obtain ⟨v, hv⟩ : ∃ v : Nat, mid + m - s' = m + (v : Int) := ⟨(mid - s').toNat, by omega⟩
        have hlA := HA.out
        have hlM := HM.out
        have hlE := HE.out
        have huX : u ≤ X.length := by omega
        have hvY : v ≤ Y.length := by omega
        have hhalf := sym_halves (F := F) HXs.out HYs.out (u := u) (v := v) (by
          by_cases h1 : u = 0
          · exact .inl h1
          · by_cases h2 : v = Y.length
            · exact .inr (.inl h2)
            · refine .inr (.inr ⟨X[u - 1]'(by omega), Y[v]'(by omega), List.getElem?_eq_getElem _, List.getElem?_eq_getElem _, ?_, by omega⟩)
              exact HLow.out (u - 1) v _ _ (List.getElem?_eq_getElem _) (List.getElem?_eq_getElem _) (by omega) (by omega) (by omega)) (by
          by_cases h1 : u = X.length
          · exact .inl h1
          · by_cases h2 : v = 0
            · exact .inr (.inl h2)
            · refine .inr (.inr ⟨X[u]'(by omega), Y[v - 1]'(by omega), List.getElem?_eq_getElem _, List.getElem?_eq_getElem _, ?_, by omega⟩)
              exact HHigh.out u (v - 1) _ _ (List.getElem?_eq_getElem _) (List.getElem?_eq_getElem _) (by omega) (by omega) (by omega))
        have hX1s : SortedL F (X.take u) := (sorted_app.1 (show SortedL F (X.take u ++ X.drop u) by rw [List.take_append_drop]; exact HXs.out)).1
        have hX2s : SortedL F (X.drop u) := (sorted_app.1 (show SortedL F (X.take u ++ X.drop u) by rw [List.take_append_drop]; exact HXs.out)).2.1
        have hY1s : SortedL F (Y.take v) := (sorted_app.1 (show SortedL F (Y.take v ++ Y.drop v) by rw [List.take_append_drop]; exact HYs.out)).1
        have hY2s : SortedL F (Y.drop v) := (sorted_app.1 (show SortedL F (Y.take v ++ Y.drop v) by rw [List.take_append_drop]; exact HYs.out)).2.1
        have n1 : (X.take u).length = u := by rw [List.length_take]; omega
        have n2 : (X.drop u).length = X.length - u := List.length_drop
        have n3 : (Y.take v).length = v := by rw [List.length_take]; omega
        have n4 : (Y.drop v).length = Y.length - v := List.length_drop
        have hr0 : RowAt b off sz (P ++ X.take u ++ X.drop u ++ Y.take v ++ (Y.drop v ++ Q)) wr := by rw [take_drop_two]; exact HR.out
        clear HR
        have hN0 := HLen.out
        have hS0 := HS.out
        have HZ := Lib.hid hhalf
        generalize X.take u = X1 at *
        generalize X.drop u = X2 at *
        generalize Y.take v = Y1 at *
        generalize Y.drop v = Y2 at *
        have k1 : s' = ((P.length + X1.length : Nat) : Int) := by omega
        have k2 : m = ((P.length + X1.length + X2.length : Nat) : Int) := by omega
        have k3 : mid = ((P.length + X1.length + Y1.length : Nat) : Int) := by omega
        have k4 : e = ((P.length + X1.length + X2.length + Y1.length + Y2.length : Nat) : Int) := by omega
        have k5 : N = P.length + X1.length + X2.length + Y1.length + Y2.length + Q.length := by omega
        have k6 : X1.length + X2.length + Y1.length + Y2.length ≤ s + 1 := by omega
        have k7 : a = (P.length : Int) := by omega
        have k8 : a < mid := by omega
        have k9 : mid < e := by omega
        have HR0 := Lib.hid hr0
        have K1 := Lib.hid k1
        have K2 := Lib.hid k2
        have K3 := Lib.hid k3
        have K4 := Lib.hid k4
        have K5 := Lib.hid k5
        have K6 := Lib.hid k6
        have K7 := Lib.hid k7
        have SX1 := Lib.hid hX1s
        have SX2 := Lib.hid hX2s
        have SY1 := Lib.hid hY1s
        have SY2 := Lib.hid hY2s
        have t3 : IntKind.i64.wrap (mid + m - s') = mid + m - s' := by rw [IntKind.wrap_i64]; omega
        have B1 : (0 < X1.length ↔ a < s') ∧ (0 < X2.length ↔ s' < m) ∧ (0 < Y1.length ↔ s' < mid) ∧ (0 < Y2.length ↔ mid + m - s' < e) ∧ (s' < mid ↔ m < mid + m - s') ∧ (s' < m ↔ mid < mid + m - s') := by omega
        have B2 := Lib.hid B1
        clear hX1s hX2s hY1s hY2s n1 n2 n3 n4 hr0 hN0 hS0 hhalf k1 k2 k3 k4 k5 k6 k7 hu hv huX hvY hlA hlM hlE HLow HHigh B1 hlt hs1 hs2 hs3
        by_cases p1 : 0 < X1.length
        · by_cases p2 : 0 < Y1.length
          · by_cases p3 : 0 < X2.length
            · by_cases p4 : 0 < Y2.length
              · obtain ⟨z1, z2, z3, z4, z5, z6⟩ := B2.out
                have w1 := z1.1 p1
                have w2 := z2.1 p3
                have w3 := z3.1 p2
                have w4 := z4.1 p4
                have w5 := z5.1 w3
                have w6 := z6.1 w2
                clear z1 z2 z3 z4 z5 z6
                have P1 := Lib.hid p1
                have P2 := Lib.hid p2
                have P3 := Lib.hid p3
                have P4 := Lib.hid p4
                clear p1 p2 p3 p4
                have HC1 := Lib.hid (HRot.out (P ++ X1) X2 Y1 (Y2 ++ Q) wr HR0.out P3.out P2.out (by have := K5.out; simp; omega) s' m (mid + m - s') (by rw [K1.out]; simp) (by rw [K2.out]; simp) (by have := K1.out; have := K2.out; have := K3.out; simp; omega))
                go_wp2_with fail
                refine HC1.out.mono ?_
                rintro e1 W1 ⟨rfl, q1, q2⟩
                have HR1 := Lib.hid (show RowAt b off sz (P ++ X1 ++ Y1 ++ (X2 ++ Y2 ++ Q)) W1 by simpa using q1)
                have HF1 := Lib.hid (HF.out.trans q2)
                clear q1 q2 HR0 HF
                have HC2 := Lib.hid (HIh.out P X1 Y1 (X2 ++ Y2 ++ Q) W1 (by have h3 := K6.out; have h1 := K3.out; have h2 := K4.out; omega) HR1.out SX1.out SY1.out P1.out P2.out (by have := K5.out; simp; omega) a s' mid K7.out K1.out K3.out)
                go_wp2_with fail
                refine HC2.out.mono ?_
                rintro e1 W2 ⟨rfl, q1, q2⟩
                have HR2 := Lib.hid (show RowAt b off sz ((P ++ sortL F (X1 ++ Y1)) ++ X2 ++ Y2 ++ Q) W2 by simpa using q1)
                have HF2 := Lib.hid (HF1.out.trans q2)
                clear q1 q2 HR1 HF1
                have HC3 := Lib.hid (HIh.out (P ++ sortL F (X1 ++ Y1)) X2 Y2 Q W2 (by have h3 := K6.out; have h1 := K3.out; have h2 := K7.out; omega) HR2.out SX2.out SY2.out P3.out P4.out (by have := K5.out; simp [sortL_length]; omega) mid (mid + m - s') e (by rw [K3.out]; simp [sortL_length]; omega) (by have := K1.out; have := K2.out; have := K3.out; simp [sortL_length]; omega) (by have := K4.out; simp [sortL_length]; omega))
                go_wp2_with fail
                refine HC3.out.mono ?_
                rintro e1 W3 ⟨rfl, q1, q2⟩
                have HR3 := Lib.hid (show RowAt b off sz (P ++ (sortL F (X1 ++ Y1) ++ sortL F (X2 ++ Y2)) ++ Q) W3 by simpa using q1)
                have HF3 := Lib.hid (HF2.out.trans q2)
                clear q1 q2 HR2 HF2
                go_wp2_with fail
                go_end0
                exact ⟨rfl, by have := HR3.out; rw [HZ.out] at this; simpa using this, HF3.out⟩
              · obtain ⟨z1, z2, z3, z4, z5, z6⟩ := B2.out
                have w1 := z1.1 p1
                have w2 := z2.1 p3
                have w3 := z3.1 p2
                have w4 := fun h => p4 (z4.2 h)
                have w5 := z5.1 w3
                have w6 := z6.1 w2
                clear z1 z2 z3 z4 z5 z6
                have P1 := Lib.hid p1
                have P2 := Lib.hid p2
                have P3 := Lib.hid p3
                have P4 := Lib.hid p4
                clear p1 p2 p3 p4
                have HC1 := Lib.hid (HRot.out (P ++ X1) X2 Y1 (Y2 ++ Q) wr HR0.out P3.out P2.out (by have := K5.out; simp; omega) s' m (mid + m - s') (by rw [K1.out]; simp) (by rw [K2.out]; simp) (by have := K1.out; have := K2.out; have := K3.out; simp; omega))
                go_wp2_with fail
                refine HC1.out.mono ?_
                rintro e1 W1 ⟨rfl, q1, q2⟩
                have HR1 := Lib.hid (show RowAt b off sz (P ++ X1 ++ Y1 ++ (X2 ++ Y2 ++ Q)) W1 by simpa using q1)
                have HF1 := Lib.hid (HF.out.trans q2)
                clear q1 q2 HR0 HF
                have HC2 := Lib.hid (HIh.out P X1 Y1 (X2 ++ Y2 ++ Q) W1 (by have h3 := K6.out; have h1 := K3.out; have h2 := K4.out; omega) HR1.out SX1.out SY1.out P1.out P2.out (by have := K5.out; simp; omega) a s' mid K7.out K1.out K3.out)
                go_wp2_with fail
                refine HC2.out.mono ?_
                rintro e1 W2 ⟨rfl, q1, q2⟩
                have HR2 := Lib.hid (show RowAt b off sz ((P ++ sortL F (X1 ++ Y1)) ++ X2 ++ Y2 ++ Q) W2 by simpa using q1)
                have HF2 := Lib.hid (HF1.out.trans q2)
                clear q1 q2 HR1 HF1
                have hz : Y2 = [] := List.eq_nil_of_length_eq_zero (by have := P4.out; omega)
                have HR3 := Lib.hid (show RowAt b off sz (P ++ (sortL F (X1 ++ Y1) ++ sortL F (X2 ++ Y2)) ++ Q) W2 by have := HR2.out; rw [hz] at this ⊢; rw [List.append_nil, sortL_same SX2.out]; simpa using this)
                have HF3 := HF2
                clear hz HR2 HF2
                go_wp2_with fail
                go_end0
                exact ⟨rfl, by have := HR3.out; rw [HZ.out] at this; simpa using this, HF3.out⟩
            · by_cases p4 : 0 < Y2.length
              · obtain ⟨z1, z2, z3, z4, z5, z6⟩ := B2.out
                have w1 := z1.1 p1
                have w2 := fun h => p3 (z2.2 h)
                have w3 := z3.1 p2
                have w4 := z4.1 p4
                have w5 := z5.1 w3
                have w6 := fun h => w2 (z6.2 h)
                clear z1 z2 z3 z4 z5 z6
                have P1 := Lib.hid p1
                have P2 := Lib.hid p2
                have P3 := Lib.hid p3
                have P4 := Lib.hid p4
                clear p1 p2 p3 p4
                have hz : X2 = [] := List.eq_nil_of_length_eq_zero (by have := P3.out; omega)
                have HR1 := Lib.hid (show RowAt b off sz (P ++ X1 ++ Y1 ++ (X2 ++ Y2 ++ Q)) wr by have := HR0.out; rw [hz] at this ⊢; simpa using this)
                have HF1 := HF
                clear hz HR0 HF
                have HC2 := Lib.hid (HIh.out P X1 Y1 (X2 ++ Y2 ++ Q) wr (by have h3 := K6.out; have h1 := K3.out; have h2 := K4.out; omega) HR1.out SX1.out SY1.out P1.out P2.out (by have := K5.out; simp; omega) a s' mid K7.out K1.out K3.out)
                go_wp2_with fail
                refine HC2.out.mono ?_
                rintro e1 W2 ⟨rfl, q1, q2⟩
                have HR2 := Lib.hid (show RowAt b off sz ((P ++ sortL F (X1 ++ Y1)) ++ X2 ++ Y2 ++ Q) W2 by simpa using q1)
                have HF2 := Lib.hid (HF1.out.trans q2)
                clear q1 q2 HR1 HF1
                have hz : X2 = [] := List.eq_nil_of_length_eq_zero (by have := P3.out; omega)
                have HR3 := Lib.hid (show RowAt b off sz (P ++ (sortL F (X1 ++ Y1) ++ sortL F (X2 ++ Y2)) ++ Q) W2 by have := HR2.out; rw [hz] at this ⊢; rw [List.nil_append, sortL_same SY2.out]; simpa using this)
                have HF3 := HF2
                clear hz HR2 HF2
                go_wp2_with fail
                go_end0
                exact ⟨rfl, by have := HR3.out; rw [HZ.out] at this; simpa using this, HF3.out⟩
              · exact absurd (show 2 ≤ 1 by have := K3.out; have := K4.out; omega) (by decide)
          · by_cases p3 : 0 < X2.length
            · by_cases p4 : 0 < Y2.length
              · obtain ⟨z1, z2, z3, z4, z5, z6⟩ := B2.out
                have w1 := z1.1 p1
                have w2 := z2.1 p3
                have w3 := fun h => p2 (z3.2 h)
                have w4 := z4.1 p4
                have w5 := fun h => w3 (z5.2 h)
                have w6 := z6.1 w2
                clear z1 z2 z3 z4 z5 z6
                have P1 := Lib.hid p1
                have P2 := Lib.hid p2
                have P3 := Lib.hid p3
                have P4 := Lib.hid p4
                clear p1 p2 p3 p4
                have hz : Y1 = [] := List.eq_nil_of_length_eq_zero (by have := P2.out; omega)
                have HR1 := Lib.hid (show RowAt b off sz (P ++ X1 ++ Y1 ++ (X2 ++ Y2 ++ Q)) wr by have := HR0.out; rw [hz] at this ⊢; simpa using this)
                have HF1 := HF
                clear hz HR0 HF
                have hz : Y1 = [] := List.eq_nil_of_length_eq_zero (by have := P2.out; omega)
                have HR2 := Lib.hid (show RowAt b off sz ((P ++ sortL F (X1 ++ Y1)) ++ X2 ++ Y2 ++ Q) wr by have := HR1.out; rw [hz] at this ⊢; rw [List.append_nil, sortL_same SX1.out]; simpa using this)
                have HF2 := HF1
                clear hz HR1 HF1
                have HC3 := Lib.hid (HIh.out (P ++ sortL F (X1 ++ Y1)) X2 Y2 Q wr (by have h3 := K6.out; have h1 := K3.out; have h2 := K7.out; omega) HR2.out SX2.out SY2.out P3.out P4.out (by have := K5.out; simp [sortL_length]; omega) mid (mid + m - s') e (by rw [K3.out]; simp [sortL_length]; omega) (by have := K1.out; have := K2.out; have := K3.out; simp [sortL_length]; omega) (by have := K4.out; simp [sortL_length]; omega))
                go_wp2_with fail
                refine HC3.out.mono ?_
                rintro e1 W3 ⟨rfl, q1, q2⟩
                have HR3 := Lib.hid (show RowAt b off sz (P ++ (sortL F (X1 ++ Y1) ++ sortL F (X2 ++ Y2)) ++ Q) W3 by simpa using q1)
                have HF3 := Lib.hid (HF2.out.trans q2)
                clear q1 q2 HR2 HF2
                go_wp2_with fail
                go_end0
                exact ⟨rfl, by have := HR3.out; rw [HZ.out] at this; simpa using this, HF3.out⟩
              · exact absurd (show 2 ≤ 1 by have := K2.out; have := K4.out; omega) (by decide)
            · by_cases p4 : 0 < Y2.length
              · obtain ⟨z1, z2, z3, z4, z5, z6⟩ := B2.out
                have w1 := z1.1 p1
                have w2 := fun h => p3 (z2.2 h)
                have w3 := fun h => p2 (z3.2 h)
                have w4 := z4.1 p4
                have w5 := fun h => w3 (z5.2 h)
                have w6 := fun h => w2 (z6.2 h)
                clear z1 z2 z3 z4 z5 z6
                have P1 := Lib.hid p1
                have P2 := Lib.hid p2
                have P3 := Lib.hid p3
                have P4 := Lib.hid p4
                clear p1 p2 p3 p4
                have hz : X2 = [] := List.eq_nil_of_length_eq_zero (by have := P3.out; omega)
                have HR1 := Lib.hid (show RowAt b off sz (P ++ X1 ++ Y1 ++ (X2 ++ Y2 ++ Q)) wr by have := HR0.out; rw [hz] at this ⊢; simpa using this)
                have HF1 := HF
                clear hz HR0 HF
                have hz : Y1 = [] := List.eq_nil_of_length_eq_zero (by have := P2.out; omega)
                have HR2 := Lib.hid (show RowAt b off sz ((P ++ sortL F (X1 ++ Y1)) ++ X2 ++ Y2 ++ Q) wr by have := HR1.out; rw [hz] at this ⊢; rw [List.append_nil, sortL_same SX1.out]; simpa using this)
                have HF2 := HF1
                clear hz HR1 HF1
                have hz : X2 = [] := List.eq_nil_of_length_eq_zero (by have := P3.out; omega)
                have HR3 := Lib.hid (show RowAt b off sz (P ++ (sortL F (X1 ++ Y1) ++ sortL F (X2 ++ Y2)) ++ Q) wr by have := HR2.out; rw [hz] at this ⊢; rw [List.nil_append, sortL_same SY2.out]; simpa using this)
                have HF3 := HF2
                clear hz HR2 HF2
                go_wp2_with fail
                go_end0
                exact ⟨rfl, by have := HR3.out; rw [HZ.out] at this; simpa using this, HF3.out⟩
              · exact absurd (show 2 ≤ 1 by have := K2.out; have := K4.out; omega) (by decide)
        · by_cases p2 : 0 < Y1.length
          · by_cases p3 : 0 < X2.length
            · by_cases p4 : 0 < Y2.length
              · obtain ⟨z1, z2, z3, z4, z5, z6⟩ := B2.out
                have w1 := fun h => p1 (z1.2 h)
                have w2 := z2.1 p3
                have w3 := z3.1 p2
                have w4 := z4.1 p4
                have w5 := z5.1 w3
                have w6 := z6.1 w2
                clear z1 z2 z3 z4 z5 z6
                have P1 := Lib.hid p1
                have P2 := Lib.hid p2
                have P3 := Lib.hid p3
                have P4 := Lib.hid p4
                clear p1 p2 p3 p4
                have HC1 := Lib.hid (HRot.out (P ++ X1) X2 Y1 (Y2 ++ Q) wr HR0.out P3.out P2.out (by have := K5.out; simp; omega) s' m (mid + m - s') (by rw [K1.out]; simp) (by rw [K2.out]; simp) (by have := K1.out; have := K2.out; have := K3.out; simp; omega))
                go_wp2_with fail
                refine HC1.out.mono ?_
                rintro e1 W1 ⟨rfl, q1, q2⟩
                have HR1 := Lib.hid (show RowAt b off sz (P ++ X1 ++ Y1 ++ (X2 ++ Y2 ++ Q)) W1 by simpa using q1)
                have HF1 := Lib.hid (HF.out.trans q2)
                clear q1 q2 HR0 HF
                have hz : X1 = [] := List.eq_nil_of_length_eq_zero (by have := P1.out; omega)
                have HR2 := Lib.hid (show RowAt b off sz ((P ++ sortL F (X1 ++ Y1)) ++ X2 ++ Y2 ++ Q) W1 by have := HR1.out; rw [hz] at this ⊢; rw [List.nil_append, sortL_same SY1.out]; simpa using this)
                have HF2 := HF1
                clear hz HR1 HF1
                have HC3 := Lib.hid (HIh.out (P ++ sortL F (X1 ++ Y1)) X2 Y2 Q W1 (by have h3 := K6.out; have h1 := K3.out; have h2 := K7.out; omega) HR2.out SX2.out SY2.out P3.out P4.out (by have := K5.out; simp [sortL_length]; omega) mid (mid + m - s') e (by rw [K3.out]; simp [sortL_length]; omega) (by have := K1.out; have := K2.out; have := K3.out; simp [sortL_length]; omega) (by have := K4.out; simp [sortL_length]; omega))
                go_wp2_with fail
                refine HC3.out.mono ?_
                rintro e1 W3 ⟨rfl, q1, q2⟩
                have HR3 := Lib.hid (show RowAt b off sz (P ++ (sortL F (X1 ++ Y1) ++ sortL F (X2 ++ Y2)) ++ Q) W3 by simpa using q1)
                have HF3 := Lib.hid (HF2.out.trans q2)
                clear q1 q2 HR2 HF2
                go_wp2_with fail
                go_end0
                exact ⟨rfl, by have := HR3.out; rw [HZ.out] at this; simpa using this, HF3.out⟩
              · obtain ⟨z1, z2, z3, z4, z5, z6⟩ := B2.out
                have w1 := fun h => p1 (z1.2 h)
                have w2 := z2.1 p3
                have w3 := z3.1 p2
                have w4 := fun h => p4 (z4.2 h)
                have w5 := z5.1 w3
                have w6 := z6.1 w2
                clear z1 z2 z3 z4 z5 z6
                have P1 := Lib.hid p1
                have P2 := Lib.hid p2
                have P3 := Lib.hid p3
                have P4 := Lib.hid p4
                clear p1 p2 p3 p4
                have HC1 := Lib.hid (HRot.out (P ++ X1) X2 Y1 (Y2 ++ Q) wr HR0.out P3.out P2.out (by have := K5.out; simp; omega) s' m (mid + m - s') (by rw [K1.out]; simp) (by rw [K2.out]; simp) (by have := K1.out; have := K2.out; have := K3.out; simp; omega))
                go_wp2_with fail
                refine HC1.out.mono ?_
                rintro e1 W1 ⟨rfl, q1, q2⟩
                have HR1 := Lib.hid (show RowAt b off sz (P ++ X1 ++ Y1 ++ (X2 ++ Y2 ++ Q)) W1 by simpa using q1)
                have HF1 := Lib.hid (HF.out.trans q2)
                clear q1 q2 HR0 HF
                have hz : X1 = [] := List.eq_nil_of_length_eq_zero (by have := P1.out; omega)
                have HR2 := Lib.hid (show RowAt b off sz ((P ++ sortL F (X1 ++ Y1)) ++ X2 ++ Y2 ++ Q) W1 by have := HR1.out; rw [hz] at this ⊢; rw [List.nil_append, sortL_same SY1.out]; simpa using this)
                have HF2 := HF1
                clear hz HR1 HF1
                have hz : Y2 = [] := List.eq_nil_of_length_eq_zero (by have := P4.out; omega)
                have HR3 := Lib.hid (show RowAt b off sz (P ++ (sortL F (X1 ++ Y1) ++ sortL F (X2 ++ Y2)) ++ Q) W1 by have := HR2.out; rw [hz] at this ⊢; rw [List.append_nil, sortL_same SX2.out]; simpa using this)
                have HF3 := HF2
                clear hz HR2 HF2
                go_wp2_with fail
                go_end0
                exact ⟨rfl, by have := HR3.out; rw [HZ.out] at this; simpa using this, HF3.out⟩
            · by_cases p4 : 0 < Y2.length
              · exact absurd (show 2 ≤ 1 by have := K2.out; have := K7.out; omega) (by decide)
              · exact absurd (show 2 ≤ 1 by have := K2.out; have := K7.out; omega) (by decide)
          · by_cases p3 : 0 < X2.length
            · by_cases p4 : 0 < Y2.length
              · exact absurd (show 2 ≤ 1 by have := K3.out; have := K7.out; omega) (by decide)
              · exact absurd (show 2 ≤ 1 by have := K2.out; have := K4.out; omega) (by decide)
            · by_cases p4 : 0 < Y2.length
              · exact absurd (show 2 ≤ 1 by have := K2.out; have := K7.out; omega) (by decide)
              · exact absurd (show 2 ≤ 1 by have := K2.out; have := K7.out; omega) (by decide)
theorem symMerge_ok (F : Bool) (N cap : Nat) (hL : N ≤ 1000000) : ∀ s, SymOk F b off sz N cap s
  | 0 => fun P X Y Q w hs _ _ _ hX _ _ _ _ _ _ _ _ => by omega
  | s + 1 => fun P X Y Q w hs h hXs hYs hX hY hN a m e ha hm he => by
    by_cases h1 : X.length = 1
    · obtain ⟨x, rfl⟩ := List.length_eq_one_iff.1 h1
      exact symLeft_any F P x Y Q h hYs N cap (by simp at hN ⊢; omega) hL a m e ha (by simpa using hm) (by simpa using he)
    · by_cases h2 : Y.length = 1
      · obtain ⟨y, rfl⟩ := List.length_eq_one_iff.1 h2
        exact symRight_any F P y X Q h hXs (by omega) N cap (by simp at hN ⊢; omega) hL a m e ha hm (by simpa using he)
      · exact symMany_any F N cap hL s (symMerge_ok F N cap hL s) P X Y Q w hs h hXs hYs (by omega) (by omega) hN a m e ha hm he
end

end Go.Proofs.YtpgigpajpcianaaGreatDoor
