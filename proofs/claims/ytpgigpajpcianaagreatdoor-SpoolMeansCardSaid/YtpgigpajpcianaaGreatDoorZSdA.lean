/- The document's Sort: which line stands ahead, a run's weight, a run in order. -/
import Derived.Test.YtpgigpajpcianaaGreatDoorZSpmerge
import Derived.Test.YtpgigpajpcianaaGreatDoorZGcopy
import Derived.Test.YtpgigpajpcianaaGreatDoorZGlaws
import Derived.Test.YtpgigpajpcianaaGreatDoorZDenote
import Derived.Test.YtpgigpajpcianaaGreatDoorZItell
import Derived.Test.YtpgigpajpcianaaGreatDoorZFsC
import Derived.Test.YtpgigpajpcianaaGreatDoorZSpA
import Derived.Maps.AppendAt
import Derived.Deep.Cut
import Derived.Deep.MidRow
namespace Go.Proofs.YtpgigpajpcianaaGreatDoor
open Go.RowKit

theorem row_cap {W : World} {b : Nat} {e : TypeId} {size n lc : Nat} {xs : List Value} {la : Option Addr} (h : W.ownsRow b e size (.slice la n lc) n xs) : n ≤ lc := by
  rcases h.2 with ⟨-, h2⟩ | ⟨g, cap, cur, hv, -, -, hc, -⟩
  · omega
  · injection hv
    omega
theorem row_low {w : World} {base base' : Nat} {e : TypeId} {size : Nat} {v : Value} {n : Nat} {xs : List Value} (h : w.ownsRow base e size v n xs) (hb : base' ≤ base) : w.ownsRow base' e size v n xs := by
  refine ⟨h.1, ?_⟩
  rcases h.2 with h1 | ⟨g, cap, cur, h1, h2, h3⟩
  · exact .inl h1
  · exact .inr ⟨g, cap, cur, h1, Nat.le_trans hb h2, h3⟩
theorem texts_drop {p : Nat → Prop} {w : World} {la A : Option Addr} {lc : Nat} {L : Lines} (h : IsTexts p w (.slice la L.length lc) L) (k : Nat) (hk : k ≤ L.length) (hlc : L.length ≤ lc) (hA : A = if lc = k then la else la.map fun y => y.add k) : IsTexts p w (.slice A (L.length - k) (lc - k)) (L.drop k) := by
  obtain ⟨a, c, e, hc⟩ := h
  cases e
  refine ⟨A, lc - k, by rw [List.length_drop], fun j b hj => ?_⟩
  rw [List.getElem?_drop] at hj
  obtain ⟨gb, off, rfl, hp, hx⟩ := hc (k + j) b hj
  have := (List.getElem?_eq_some_iff.1 hj).1
  rw [if_neg (by omega)] at hA
  subst hA
  exact ⟨gb, off + k, by simp only [Option.map_some, Addr.add_mid], hp, by rw [Nat.add_assoc]; exact hx⟩
theorem run_append_lines {p : Nat → Prop} {w : World} (ty : TypeId) (base : Nat) (v vs : Value) (L M : Lines) (hown : w.ownsRow base 9 1 v L.length (L.map strV)) (hsrc : IsTexts p w vs M) (hlen : L.length + M.length ≤ 1000000) (hbase : base ≤ w.heap.size) :
    ∃ v' w', (Builtin.append_ #[50, 50] ty #[v, vs]).run Tryz.prog w = .ok v' w' ∧ w'.ownsRow base 9 1 v' (L ++ M).length ((L ++ M).map strV) ∧ w.grownBy w' v.ownBlock ∧ (v'.ownBlock = v.ownBlock ∨ v'.ownBlock = some w.heap.size) := by
  obtain ⟨i0, hi, hz0, hz1, hz2⟩ := info_parts Tryz.info9
  obtain ⟨ad, cap, rfl, hc⟩ := hsrc
  obtain ⟨va, vc, rfl⟩ := owns_slice hown
  cases ad with
  | none =>
    have hb : M = [] := by
      cases M with
      | nil => rfl
      | cons x r =>
        obtain ⟨_, _, e, _⟩ := hc 0 x rfl
        cases e
    subst hb
    exact ⟨_, w, run_append_owned_nil (P := Tryz.prog) (w := w) base 50 ty 9 i0 1 cap Tryz.underlying50 hi _ L.length _ hown, by simpa using hown, ⟨rfl, rfl, rfl, Nat.le_refl _, fun _ _ _ => rfl⟩, .inl rfl⟩
  | some ad =>
    obtain ⟨v', w', hr, h2, h3, -, h5⟩ := run_append_own_at (P := Tryz.prog) w base 50 ty 9 i0 (.string ByteArray.empty) 1 16 Tryz.underlying50 hi hz0 hz1 hz2 rfl (by decide) _ L.length _ hown ad M.length cap (M.map strV) (by rw [List.length_map]; omega)
      (fun j u hu => by
        rw [List.getElem?_map] at hu
        cases hm : M[j]? with
        | none => rw [hm] at hu; cases hu
        | some c =>
          rw [hm] at hu
          cases hu
          obtain ⟨gb, off, e, _, h⟩ := hc j c hm
          cases e
          rw [Addr.add_mid]
          exact h) (fun u hu => by obtain ⟨l, -, rfl⟩ := List.mem_map.1 hu; rfl) (by unfold maxLen; omega) (by omega) hbase
    exact ⟨v', w', hr, by rw [List.map_append, List.length_append]; exact h2, h3, h5⟩
theorem wpList_append_lines {p : Nat → Prop} {ops : Array Oper} {rest : List Oper} {o : Oper} {a : Act} {w : World} {Q : Exit → Act → World → Prop} (hgd : o.guard = none) (s x : Operand) (ho : o.op = .call { callee := .builtin .append, args := #[s, x], argTypes := #[50, 50] })
    (base : Nat) (v vs : Value) (L M : Lines) (hs : a.eval s = v) (hown : w.ownsRow base 9 1 v L.length (L.map strV)) (hx : a.eval x = vs) (hsrc : IsTexts p w vs M)
    (hlen : L.length + M.length ≤ 1000000) (hbase : base ≤ w.heap.size)
    (h : ∀ v' w', w'.ownsRow base 9 1 v' (L ++ M).length ((L ++ M).map strV) → w.grownBy w' v.ownBlock → (v'.ownBlock = v.ownBlock ∨ v'.ownBlock = some w.heap.size) → wpList Tryz.prog ops Q rest (a.put o.dst v') w') : wpList Tryz.prog ops Q (o :: rest) a w := by
  refine wpList_plain hgd fun K hK => ?_
  obtain ⟨v', w', hr, h2, h3, h4⟩ := run_append_lines (ty := o.type) base v vs L M hown hsrc hlen hbase
  unfold Oper.wp execOp
  simp only [ho, resolve, invoke, builtin, Sem.run_bind, Sem.run_pure, Result.andThen_ok, List.map_toArray, List.map_cons, List.map_nil, hs, hx, hr]
  exact hK _ _ (h v' w' h2 h3 h4)
set_option maxRecDepth 100000 in
set_option maxHeartbeats 1000000 in
theorem docAhead_any (q : Nat) (F : Bool) (x y : List UInt8) (w : World) (c1 : w.cell? ⟨q, 1, none⟩ = some (.bool F)) :
    Calls Tryz.prog 90 #[.pointer (some ⟨q, 0, none⟩), strV x, strV y] w fun e w' => e = .returned (.bool (aheadB F x y)) ∧ w' = w := by
  obtain ⟨A, hA⟩ : ∃ A : ByteArray, strV x = .string A := ⟨_, rfl⟩
  obtain ⟨B, hB⟩ : ∃ B : ByteArray, strV y = .string B := ⟨_, rfl⟩
  have z1 := (str_cmp hA hB).1
  have z2 := (str_cmp hB hA).1
  rw [hA, hB]
  clear hA hB
  go_enter Tryz.func90, Tryz.ntmps90
  cases F
  · have e : aheadB false x y = Op.bytesLess x y := rfl
    rw [e, ← z1]
    clear z1 z2 e
    go_wp2_with fail
    go_ret
    exact ⟨rfl, rfl⟩
  · have e : aheadB true x y = Op.bytesLess y x := rfl
    rw [e, ← z2]
    clear z1 z2 e
    go_wp2_with fail
    go_ret
    exact ⟨rfl, rfl⟩
theorem weight_take {L : Lines} {k : Nat} {l : List UInt8} (h : L[k]? = some l) : weightL (L.take (k + 1)) = weightL (L.take k) + (l.length + 1) := by
  rw [List.take_add_one, h]
  simp [weightL]
theorem weight_le {L : Lines} (h : ∀ l ∈ L, l.length ≤ 64) : weightL L ≤ 65 * L.length := by
  induction L with
  | nil => simp [weightL]
  | cons l L ih =>
    have h1 := ih (fun y hy => h y (by simp [hy]))
    have h2 := h l (by simp)
    rw [weightL_cons, List.length_cons]
    omega
set_option maxRecDepth 100000 in
set_option maxHeartbeats 2000000 in
theorem docWeight_any {p : Nat → Prop} (v : Value) (L : Lines) (w : World) (hL : IsTexts p w v L) (hl : L.length ≤ 5000) (hf : ∀ l ∈ L, l.length ≤ 64) :
    Calls Tryz.prog 63 #[v] w fun e w' => e = .returned (.int .i64 (weightL L : Nat)) ∧ w' = w := by
  obtain ⟨la, lc, rfl, hc⟩ := hL
  have HC := Lib.hid hc
  have HL := Lib.hid hl
  have HF := Lib.hid hf
  clear hc hl hf
  go_enter Tryz.func63, Tryz.ntmps63
  go_wp2_with fail
  go_loopw [3, 4] (fun nv iv wr => ∃ k : Nat, nv = .int .i64 ((weightL (L.take k) : Nat) : Int) ∧ iv = .int .i64 k ∧ k ≤ L.length ∧ wr = w) (fun _ iv _ => L.length - (intOf iv).toNat)
  case atStart => exact ⟨0, by simp [weightL], rfl, Nat.zero_le _, rfl⟩
  case round =>
    obtain ⟨k, rfl, rfl, hk, rfl⟩ := hrel
    have hll := HL.out
    have hw := weight_le (L := L.take k) (fun l hl => HF.out l (List.mem_of_mem_take hl))
    rw [List.length_take] at hw
    by_cases hlt : k < L.length
    · obtain ⟨l, hx⟩ : ∃ l, L[k]? = some l := ⟨L[k], by simp⟩
      obtain ⟨gb, off, rfl, -, hcell⟩ := HC.out k l hx
      obtain ⟨A, hA⟩ : ∃ A : ByteArray, strV l = .string A := ⟨_, rfl⟩
      rw [hA] at hcell
      have hz := strV_size hA
      have hll1 := HF.out l (List.mem_of_getElem? hx)
      have hcnt := weight_take hx
      obtain ⟨c, hc⟩ : ∃ c, c = weightL (L.take k) := ⟨_, rfl⟩
      rw [← hc] at hw hcnt ⊢
      have q1 : (0 : Int) ≤ (k : Int) := by omega
      have q2 : (k : Int) < (L.length : Int) := by omega
      have q3 : (k : Int) ≤ 1000000 := by omega
      have q4 : (c : Int) ≤ 1000000 := by omega
      have q5 : (A.size : Int) ≤ 64 := by omega
      have HCnt := Lib.hid hcnt
      have HLt := Lib.hid hlt
      have HZ := Lib.hid hz
      clear hx hA hcnt hc hll hlt hk hw hll1 hz
      go_wp2_with fail
      go_roundw
      case rel => exact ⟨k + 1, by rw [HCnt.out]; have := HZ.out; go_num, by go_num, HLt.out, trivial⟩
      case measure => have := HLt.out; simp [intOf]; omega
    · have q2 : ¬ (k : Int) < (L.length : Int) := by omega
      have e : L.take k = L := List.take_of_length_le (by omega)
      rw [e]
      clear hk hll hw hlt e
      go_wp2_with fail
      go_ret
      exact ⟨rfl, rfl⟩
theorem put_at {F : Bool} {O : Lines} {x : List UInt8} {k : Nat} (hk : k ≤ O.length) (hs : SortedL F O) (h1 : ∀ (j : Nat) b, k ≤ j → O[j]? = some b → aheadB F x b = true) (h2 : k = 0 ∨ ∃ m y, k = m + 1 ∧ O[m]? = some y ∧ aheadB F x y = false) {L : Lines} {i : Nat} (hi : L[i]? = some x) (hO : O = sortL F (L.take i)) :
    O.take k ++ [x] ++ O.drop k = sortL F (L.take (i + 1)) := by
  rw [List.append_assoc, show [x] ++ O.drop k = x :: O.drop k from rfl, put_is (by rw [List.take_append_drop]; exact hs) (fun a ha => ?_) (fun b hb => ?_), List.take_append_drop, List.take_add_one, hi]
  · refine sortL_congr ?_
    rw [hO]
    exact ((sortL_perm F _).cons x).trans (List.perm_append_singleton x _).symm
  · obtain ⟨j, hj, hjk⟩ := mem_take_at ha
    rcases h2 with h2 | ⟨m, y, rfl, hm, hy⟩
    · omega
    · exact upto_trans (sorted_at hs hj hm (by omega)) hy
  · obtain ⟨j, hj⟩ := mem_drop_at hb
    exact upto_of (h1 _ b (by omega) hj)
set_option maxRecDepth 100000 in
set_option maxHeartbeats 8000000 in
theorem docSorted_any {p : Nat → Prop} (q : Nat) (F : Bool) (v : Value) (L : Lines) (w : World) (c1 : w.cell? ⟨q, 1, none⟩ = some (.bool F)) (hL : IsTexts p w v L) (hl : L.length ≤ 5000) :
    Calls Tryz.prog 65 #[.pointer (some ⟨q, 0, none⟩), v] w fun e w' => ∃ v', e = .returned v' ∧ w'.ownsRow w.heap.size 9 1 v' (sortL F L).length ((sortL F L).map strV) ∧ Below w.heap.size w w' := by
  obtain ⟨la, lc, e, -⟩ := id hL
  subst e
  have HL := Lib.hid hl
  have HTx := Lib.hid hL
  have HC1 := Lib.hid (show ∀ W, Below w.heap.size w W → W.cell? ⟨q, 1, none⟩ = some (.bool F) from fun W hb => Pm.Below.cell hb c1)
  clear hL hl c1
  go_enter Tryz.func65, Tryz.ntmps65
  go_wp2_with fail
  go_loopw [5, 6] (fun ov iv wr => ∃ k : Nat, iv = .int .i64 k ∧ k ≤ L.length ∧ wr.ownsRow w.heap.size 9 1 ov (sortL F (L.take k)).length ((sortL F (L.take k)).map strV) ∧ Below w.heap.size w wr) (fun _ iv _ => L.length - (intOf iv).toNat)
  case atStart => exact ⟨0, rfl, Nat.zero_le _, World.ownsRow_nil w w.heap.size 9 1, Below.refl _ _⟩
  case round =>
    obtain ⟨i, rfl, hi, hown, hbw⟩ := hrel
    have hll := HL.out
    by_cases hlt : i < L.length
    · obtain ⟨x, hx⟩ : ∃ x, L[i]? = some x := ⟨L[i], by simp⟩
      obtain ⟨_, _, e, hcl⟩ := HTx.out.below hbw
      cases e
      obtain ⟨gb, off, rfl, -, cx⟩ := hcl i x hx
      obtain ⟨oa, oc, rfl⟩ := owns_slice hown
      have hol : (sortL F (L.take i)).length = i := by rw [sortL_length, List.length_take]; omega
      obtain ⟨O, hO⟩ : ∃ O, O = sortL F (L.take i) := ⟨_, rfl⟩
      rw [← hO] at hown hol ⊢
      have hcap := row_cap hown
      obtain ⟨SX, hSX⟩ : ∃ S : ByteArray, strV x = .string S := ⟨_, rfl⟩
      rw [hSX] at cx
      have q1 : (0 : Int) ≤ (i : Int) := by omega
      have q2 : (i : Int) < (L.length : Int) := by omega
      have q3 : (i : Int) ≤ 5000 := by omega
      have hty := isTexts_of_owns hown
      have hah : ∀ (y : List UInt8) (m : Nat), Calls Tryz.prog 90 #[.pointer (some ⟨q, 0, none⟩), strV x, strV y] (wr.drewN m) (fun e w' => e = .returned (.bool (aheadB F x y)) ∧ w' = wr.drewN m) := fun y m => docAhead_any q F x y _ (HC1.out wr hbw)
      rw [hSX] at hah
      rw [hol]
      have HOwn := Lib.hid hown
      have HTy := Lib.hid hty
      have HAh := Lib.hid hah
      have HX := Lib.hid hx
      have HSX := Lib.hid hSX
      have HO := Lib.hid hO
      have HOl := Lib.hid hol
      have HCap := Lib.hid hcap
      have HBw := Lib.hid hbw
      have HLt := Lib.hid hlt
      clear hown hcl hx hSX hO hol hty hah hcap hbw hlt hi hll
      go_wp2_with fail
      go_loopw [7] (fun av W => ∃ k d : Nat, av = .int .i64 k ∧ k ≤ i ∧ W = wr.drewN d ∧ RowKit.Hid (∀ (j : Nat) b, k ≤ j → O[j]? = some b → aheadB F x b = true)) (fun av _ => (intOf av).toNat)
      case atStart => exact ⟨i, 0, rfl, Nat.le_refl _, rfl, Lib.hid (fun j b hj hb => by have := (List.getElem?_eq_some_iff.1 hb).1; have := HOl.out; omega)⟩
      case round =>
        obtain ⟨k, d, rfl, hk, rfl, HA⟩ := hrel
        have hbd : Below wr.heap.size wr (wr.drewN d) := ⟨rfl, rfl, rfl, Nat.le_refl _, fun _ _ => rfl⟩
        have cx' := Pm.Below.cell hbd cx
        have HAh2 := Lib.hid (show ∀ (y : List UInt8) (m : Nat), Calls Tryz.prog 90 #[.pointer (some ⟨q, 0, none⟩), .string SX, strV y] ((wr.drewN d).drewN m) (fun e w' => e = .returned (.bool (aheadB F x y)) ∧ w' = (wr.drewN d).drewN m) from fun y m => by rw [World.drewN_drewN]; exact HAh.out y _)
        obtain ⟨V, hV⟩ : ∃ V, V = wr.drewN d := ⟨_, rfl⟩
        rw [← hV] at hbd cx' HAh2 ⊢
        have HV := Lib.hid hV
        have HBd := Lib.hid hbd
        clear hV hbd cx
        by_cases hk0 : k = 0
        · have q4 : ¬ (0 : Int) < (k : Int) := by omega
          have q5 : ¬ 0 < k := by omega
          have HStop := Lib.hid (put_at (k := k) (F := F) (O := O) (x := x) (by have := HOl.out; omega) (by rw [HO.out]; exact sortL_sorted F _) HA.out (.inl hk0) HX.out HO.out)
          clear hk0
          go_wp2_with fail
          go_quiet (fail)
          have HBq := Lib.hid (show Below wr.heap.size wr (V.drewN nq) from HBd.out.trans ⟨rfl, rfl, rfl, Nat.le_refl _, fun _ _ => rfl⟩)
          have cx2 : (V.drewN nq).cell? ⟨gb, off + i, none⟩ = some (.string SX) := cx'
          generalize V.drewN nq = V2 at HBq cx2 ⊢
          go_upto_region 8 with fail
          clear cx' HAh2 HV HBd HA HAh
          have hk3 : (k : Int) ≤ (oc : Int) := by have := HCap.out; have := HOl.out; omega
          have hk1 : (0 : Int) ≤ (k : Int) := by omega
          have hk2 : (k : Int) ≤ (i : Int) := by omega
          have hki : k ≤ O.length := by have := HOl.out; omega
          have hown0 := World.ownsRow_made V2 (e := 9) (base := V2.heap.size) (size := 1) #[] 0 (Nat.le_refl _) (by decide) rfl
          have hba : Below wr.heap.size wr (V2.alloc (.cells #[] 9)) := HBq.out.alloc HBq.out.size _
          have htk := texts_take (HTy.out.below hba) k hki
          obtain ⟨A, hA⟩ : ∃ A, A = O.take k := ⟨_, rfl⟩
          have hAl : A.length = k := by rw [hA, List.length_take]; omega
          rw [← hA] at htk
          have HOwn0 := Lib.hid hown0
          have HTk := Lib.hid htk
          have HBa := Lib.hid hba
          have HKi := Lib.hid hki
          have HA := Lib.hid hA
          have HAl := Lib.hid hAl
          clear hown0 hba htk hki hA hAl
          go_upto_region 9 with (at_builtin; refine wpList_append_lines rfl (.tmp 34) (.tmp 37) rfl V2.heap.size _ _ [] A rfl HOwn0.out rfl HTk.out ?p1 ?p2 ?_)
          case p1 => have := HAl.out; have := HKi.out; have := HOl.out; simp; omega
          case p2 => simp
          intro v1 w1 ho1 hg1 _
          have ho1 : w1.ownsRow V2.heap.size 9 1 v1 A.length (A.map strV) := by simpa using ho1
          have hb1 : Below V2.heap.size V2 w1 := ((Below.refl V2.heap.size V2).alloc (Nat.le_refl _) (.cells #[] 9)).grown hg1 (by simp) (fun j ej => (HOwn0.out.lt j ej).1)
          have cx3 := Pm.Below.cell hb1 cx2
          obtain ⟨a1, l1, rfl⟩ := owns_slice ho1
          have HO1 := Lib.hid ho1
          have HB1 := Lib.hid hb1
          clear ho1 hg1 hb1 cx2 HOwn0 HTk
          go_upto_region 9 with fail
          have HB1a := Lib.hid (show Below V2.heap.size V2 (w1.alloc (.cells #[.string SX] 9)) from HB1.out.alloc HB1.out.size _)
          have HO1a := Lib.hid (show (w1.alloc (.cells #[.string SX] 9)).ownsRow V2.heap.size 9 1 (.slice a1 A.length l1) A.length (A.map strV) from (Below.toFrame ((Below.refl w1.heap.size w1).alloc (Nat.le_refl _) (.cells #[.string SX] 9)) fun _ => False).owns HO1.out (fun _ _ h => h))
          have HNew := Lib.hid (text_new w1 x SX HSX.out (0, 0))
          go_upto_region 10 with (at_builtin; refine wpList_append_lines rfl (.tmp 39) (.tmp 44) rfl V2.heap.size _ _ A [x] rfl HO1a.out rfl HNew.out ?p1 ?p2 ?_)
          case p1 => have := HAl.out; simp; omega
          case p2 => have := HB1.out.size; simp; omega
          intro v2 w2 ho2 hg2 _
          obtain ⟨B, hB⟩ : ∃ B, B = A ++ [x] := ⟨_, rfl⟩
          have ho2 : w2.ownsRow V2.heap.size 9 1 v2 B.length (B.map strV) := by rw [hB]; simpa using ho2
          have hb2 : Below V2.heap.size V2 w2 := HB1a.out.grown hg2 HB1a.out.size (fun j ej => (HO1a.out.lt j ej).1)
          have hBl : B.length = k + 1 := by rw [hB, List.length_append, HAl.out]; rfl
          obtain ⟨a2, l2, rfl⟩ := owns_slice ho2
          have htd := fun A' hA' => texts_drop (A := A') (HTy.out.below (HBq.out.trans (hb2.mono HBq.out.size))) k HKi.out HCap.out hA'
          rw [HOl.out] at htd
          obtain ⟨C, hC⟩ : ∃ C, C = O.drop k := ⟨_, rfl⟩
          have hCl : C.length = i - k := by rw [hC, List.length_drop, HOl.out]
          rw [← hC] at htd
          have HO2 := Lib.hid ho2
          have HB2 := Lib.hid hb2
          have HB := Lib.hid hB
          have HBl := Lib.hid hBl
          have HTd := Lib.hid htd
          have HC := Lib.hid hC
          have HCl := Lib.hid hCl
          clear ho2 hg2 hb2 HO1a HB1a HO1 HB1 HNew hB hBl htd hC hCl
          go_upto_region 10 with fail
          by_cases hok : oc = k
          · have hik : i = k := by have := HCap.out; have := HOl.out; have := HCl.out; omega
            have htdd := HTd.out oa (by rw [if_pos hok])
            have e0 : i - k = 0 := by omega
            have e1 : oc - k = 0 := by omega
            rw [e0, e1] at htdd
            have HTdd := Lib.hid htdd
            clear htdd e0 e1
            subst hok
            subst hik
            go_wp2_with (at_builtin; refine wpList_append_lines rfl (.tmp 46) (.tmp 49) rfl V2.heap.size _ _ B C rfl HO2.out rfl HTdd.out ?p1 ?p2 ?_)
            case p1 => have := HBl.out; have := HCl.out; omega
            case p2 => exact HB2.out.size
            intro v3 w3 ho3 hg3 _
            have hb3 : Below V2.heap.size V2 w3 := HB2.out.grown hg3 HB2.out.size (fun j ej => (HO2.out.lt j ej).1)
            have ho3 : w3.ownsRow V2.heap.size 9 1 v3 (B ++ C).length ((B ++ C).map strV) := by simpa using ho3
            rw [show B ++ C = sortL F (L.take (i + 1)) from by rw [HB.out, HA.out, HC.out]; exact HStop.out] at ho3
            have HO3 := Lib.hid ho3
            have HB3 := Lib.hid hb3
            clear ho3 hg3 hb3
            go_wp2_with fail
            go_roundw
            case rel => exact ⟨i + 1, by go_num, HLt.out, row_low HO3.out (by have := HBw.out.size; have := HBq.out.size; omega), HBw.out.trans ((HBq.out.trans (HB3.out.mono HBq.out.size)).mono HBw.out.size)⟩
            case measure => have := HLt.out; simp [intOf]; omega
          · obtain ⟨A2, hA2⟩ : ∃ A2, (oa.map fun y => y.add k) = A2 := ⟨_, rfl⟩
            have HTdd := Lib.hid (HTd.out A2 (by rw [if_neg hok]; exact hA2.symm))
            go_wp2_with (at_builtin; refine wpList_append_lines rfl (.tmp 46) (.tmp 49) rfl V2.heap.size _ _ B C rfl HO2.out rfl HTdd.out ?p1 ?p2 ?_)
            case p1 => have := HBl.out; have := HCl.out; omega
            case p2 => exact HB2.out.size
            intro v3 w3 ho3 hg3 _
            have hb3 : Below V2.heap.size V2 w3 := HB2.out.grown hg3 HB2.out.size (fun j ej => (HO2.out.lt j ej).1)
            have ho3 : w3.ownsRow V2.heap.size 9 1 v3 (B ++ C).length ((B ++ C).map strV) := by simpa using ho3
            rw [show B ++ C = sortL F (L.take (i + 1)) from by rw [HB.out, HA.out, HC.out]; exact HStop.out] at ho3
            have HO3 := Lib.hid ho3
            have HB3 := Lib.hid hb3
            clear ho3 hg3 hb3
            go_wp2_with fail
            go_roundw
            case rel => exact ⟨i + 1, by go_num, HLt.out, row_low HO3.out (by have := HBw.out.size; have := HBq.out.size; omega), HBw.out.trans ((HBq.out.trans (HB3.out.mono HBq.out.size)).mono HBw.out.size)⟩
            case measure => have := HLt.out; simp [intOf]; omega
        · obtain ⟨m, hm⟩ : ∃ m, k = m + 1 := ⟨k - 1, by omega⟩
          obtain ⟨y, hy⟩ : ∃ y, O[m]? = some y := ⟨O[m]'(by have := HOl.out; omega), List.getElem?_eq_getElem _⟩
          obtain ⟨_, _, e, hco⟩ := HTy.out.below HBd.out
          cases e
          obtain ⟨go, ofo, hoa, -, cy⟩ := hco m y hy
          obtain ⟨SY, hSY⟩ : ∃ S : ByteArray, strV y = .string S := ⟨_, rfl⟩
          rw [hSY] at cy
          have hcall := fun n => HAh2.out y n
          rw [hSY] at hcall
          have HCall := Lib.hid hcall
          have q4 : (0 : Int) < (k : Int) := by omega
          have q5 : 0 < k := by omega
          have q6 : (k : Int) - 1 = (m : Int) := by omega
          have q7 : (m : Int) < (i : Int) := by omega
          have q8 : (0 : Int) ≤ (m : Int) := by omega
          have q9 : IntKind.i64.wrap (m : Int) = (m : Int) := by simp [IntKind.wrap, IntKind.bits, IntKind.signed]; omega
          have HY := Lib.hid hy
          have HM := Lib.hid hm
          cases hb : aheadB F x y with
          | true =>
            have HB := Lib.hid hb
            rw [hb] at HCall
            subst hoa
            clear hcall hSY hy hco hk0 hm hb
            go_wp2_with fail
            go_quiet ((go_at_call 90; exact Calls.quiet_of_same (HCall.out _)))
            have HV2 := Lib.hid (show V.drewN nq = wr.drewN (d + nq) from by rw [HV.out, World.drewN_drewN])
            generalize V.drewN nq = V2 at HV2 ⊢
            clear cx' cy
            go_wp2_with fail
            go_roundw
            case rel =>
              refine ⟨m, d + nq, by go_num, by have := HM.out; omega, HV2.out, Lib.hid (fun j b hj hb => ?_)⟩
              by_cases hjm : j = m
              · subst hjm
                rw [HY.out] at hb
                cases hb
                exact HB.out
              · exact HA.out j b (by have := HM.out; omega) hb
            case measure => have := HM.out; simp [intOf]; omega
          | false =>
            have HStop := Lib.hid (put_at (k := k) (F := F) (O := O) (x := x) (by have := HOl.out; omega) (by rw [HO.out]; exact sortL_sorted F _) HA.out (.inr ⟨m, y, hm, hy, hb⟩) HX.out HO.out)
            rw [hb] at HCall
            subst hoa
            clear hcall hSY hy hco hk0 hm hb
            go_wp2_with fail
            go_quiet ((go_at_call 90; exact Calls.quiet_of_same (HCall.out _)))
            clear cy
            have HBq := Lib.hid (show Below wr.heap.size wr (V.drewN nq) from HBd.out.trans ⟨rfl, rfl, rfl, Nat.le_refl _, fun _ _ => rfl⟩)
            have cx2 : (V.drewN nq).cell? ⟨gb, off + i, none⟩ = some (.string SX) := cx'
            generalize V.drewN nq = V2 at HBq cx2 ⊢
            go_upto_region 8 with fail
            clear cx' HAh2 HV HBd HA HAh
            have hk3 : (k : Int) ≤ (oc : Int) := by have := HCap.out; have := HOl.out; omega
            have hk1 : (0 : Int) ≤ (k : Int) := by omega
            have hk2 : (k : Int) ≤ (i : Int) := by omega
            have hki : k ≤ O.length := by have := HOl.out; omega
            have hown0 := World.ownsRow_made V2 (e := 9) (base := V2.heap.size) (size := 1) #[] 0 (Nat.le_refl _) (by decide) rfl
            have hba : Below wr.heap.size wr (V2.alloc (.cells #[] 9)) := HBq.out.alloc HBq.out.size _
            have htk := texts_take (HTy.out.below hba) k hki
            obtain ⟨A, hA⟩ : ∃ A, A = O.take k := ⟨_, rfl⟩
            have hAl : A.length = k := by rw [hA, List.length_take]; omega
            rw [← hA] at htk
            have HOwn0 := Lib.hid hown0
            have HTk := Lib.hid htk
            have HBa := Lib.hid hba
            have HKi := Lib.hid hki
            have HA := Lib.hid hA
            have HAl := Lib.hid hAl
            clear hown0 hba htk hki hA hAl
            go_upto_region 9 with (at_builtin; refine wpList_append_lines rfl (.tmp 34) (.tmp 37) rfl V2.heap.size _ _ [] A rfl HOwn0.out rfl HTk.out ?p1 ?p2 ?_)
            case p1 => have := HAl.out; have := HKi.out; have := HOl.out; simp; omega
            case p2 => simp
            intro v1 w1 ho1 hg1 _
            have ho1 : w1.ownsRow V2.heap.size 9 1 v1 A.length (A.map strV) := by simpa using ho1
            have hb1 : Below V2.heap.size V2 w1 := ((Below.refl V2.heap.size V2).alloc (Nat.le_refl _) (.cells #[] 9)).grown hg1 (by simp) (fun j ej => (HOwn0.out.lt j ej).1)
            have cx3 := Pm.Below.cell hb1 cx2
            obtain ⟨a1, l1, rfl⟩ := owns_slice ho1
            have HO1 := Lib.hid ho1
            have HB1 := Lib.hid hb1
            clear ho1 hg1 hb1 cx2 HOwn0 HTk
            go_upto_region 9 with fail
            have HB1a := Lib.hid (show Below V2.heap.size V2 (w1.alloc (.cells #[.string SX] 9)) from HB1.out.alloc HB1.out.size _)
            have HO1a := Lib.hid (show (w1.alloc (.cells #[.string SX] 9)).ownsRow V2.heap.size 9 1 (.slice a1 A.length l1) A.length (A.map strV) from (Below.toFrame ((Below.refl w1.heap.size w1).alloc (Nat.le_refl _) (.cells #[.string SX] 9)) fun _ => False).owns HO1.out (fun _ _ h => h))
            have HNew := Lib.hid (text_new w1 x SX HSX.out (0, 0))
            go_upto_region 10 with (at_builtin; refine wpList_append_lines rfl (.tmp 39) (.tmp 44) rfl V2.heap.size _ _ A [x] rfl HO1a.out rfl HNew.out ?p1 ?p2 ?_)
            case p1 => have := HAl.out; simp; omega
            case p2 => have := HB1.out.size; simp; omega
            intro v2 w2 ho2 hg2 _
            obtain ⟨B, hB⟩ : ∃ B, B = A ++ [x] := ⟨_, rfl⟩
            have ho2 : w2.ownsRow V2.heap.size 9 1 v2 B.length (B.map strV) := by rw [hB]; simpa using ho2
            have hb2 : Below V2.heap.size V2 w2 := HB1a.out.grown hg2 HB1a.out.size (fun j ej => (HO1a.out.lt j ej).1)
            have hBl : B.length = k + 1 := by rw [hB, List.length_append, HAl.out]; rfl
            obtain ⟨a2, l2, rfl⟩ := owns_slice ho2
            have htd := fun A' hA' => texts_drop (A := A') (HTy.out.below (HBq.out.trans (hb2.mono HBq.out.size))) k HKi.out HCap.out hA'
            rw [HOl.out] at htd
            obtain ⟨C, hC⟩ : ∃ C, C = O.drop k := ⟨_, rfl⟩
            have hCl : C.length = i - k := by rw [hC, List.length_drop, HOl.out]
            rw [← hC] at htd
            have HO2 := Lib.hid ho2
            have HB2 := Lib.hid hb2
            have HB := Lib.hid hB
            have HBl := Lib.hid hBl
            have HTd := Lib.hid htd
            have HC := Lib.hid hC
            have HCl := Lib.hid hCl
            clear ho2 hg2 hb2 HO1a HB1a HO1 HB1 HNew hB hBl htd hC hCl
            go_upto_region 10 with fail
            by_cases hok : oc = k
            · have hik : i = k := by have := HCap.out; have := HOl.out; have := HCl.out; omega
              have htdd := HTd.out _ (by rw [if_pos hok])
              have e0 : i - k = 0 := by omega
              have e1 : oc - k = 0 := by omega
              rw [e0, e1] at htdd
              have HTdd := Lib.hid htdd
              clear htdd e0 e1
              subst hok
              subst hik
              go_wp2_with (at_builtin; refine wpList_append_lines rfl (.tmp 46) (.tmp 49) rfl V2.heap.size _ _ B C rfl HO2.out rfl HTdd.out ?p1 ?p2 ?_)
              case p1 => have := HBl.out; have := HCl.out; omega
              case p2 => exact HB2.out.size
              intro v3 w3 ho3 hg3 _
              have hb3 : Below V2.heap.size V2 w3 := HB2.out.grown hg3 HB2.out.size (fun j ej => (HO2.out.lt j ej).1)
              have ho3 : w3.ownsRow V2.heap.size 9 1 v3 (B ++ C).length ((B ++ C).map strV) := by simpa using ho3
              rw [show B ++ C = sortL F (L.take (i + 1)) from by rw [HB.out, HA.out, HC.out]; exact HStop.out] at ho3
              have HO3 := Lib.hid ho3
              have HB3 := Lib.hid hb3
              clear ho3 hg3 hb3
              go_wp2_with fail
              go_roundw
              case rel => exact ⟨i + 1, by go_num, HLt.out, row_low HO3.out (by have := HBw.out.size; have := HBq.out.size; omega), HBw.out.trans ((HBq.out.trans (HB3.out.mono HBq.out.size)).mono HBw.out.size)⟩
              case measure => have := HLt.out; simp [intOf]; omega
            · have HTdd := Lib.hid (HTd.out (some ⟨go, ofo + k, none⟩) (by rw [if_neg hok]; simp only [Option.map_some, Addr.add_mid]))
              go_wp2_with (at_builtin; refine wpList_append_lines rfl (.tmp 46) (.tmp 49) rfl V2.heap.size _ _ B C rfl HO2.out rfl HTdd.out ?p1 ?p2 ?_)
              case p1 => have := HBl.out; have := HCl.out; omega
              case p2 => exact HB2.out.size
              intro v3 w3 ho3 hg3 _
              have hb3 : Below V2.heap.size V2 w3 := HB2.out.grown hg3 HB2.out.size (fun j ej => (HO2.out.lt j ej).1)
              have ho3 : w3.ownsRow V2.heap.size 9 1 v3 (B ++ C).length ((B ++ C).map strV) := by simpa using ho3
              rw [show B ++ C = sortL F (L.take (i + 1)) from by rw [HB.out, HA.out, HC.out]; exact HStop.out] at ho3
              have HO3 := Lib.hid ho3
              have HB3 := Lib.hid hb3
              clear ho3 hg3 hb3
              go_wp2_with fail
              go_roundw
              case rel => exact ⟨i + 1, by go_num, HLt.out, row_low HO3.out (by have := HBw.out.size; have := HBq.out.size; omega), HBw.out.trans ((HBq.out.trans (HB3.out.mono HBq.out.size)).mono HBw.out.size)⟩
              case measure => have := HLt.out; simp [intOf]; omega
    · have q2 : ¬ (i : Int) < (L.length : Int) := by omega
      have e : L.take i = L := List.take_of_length_le (by omega)
      rw [e] at hown
      have HOwn := Lib.hid hown
      have HBw := Lib.hid hbw
      clear hown hbw e hll hi hlt
      go_wp2_with fail
      go_ret
      exact ⟨_, rfl, HOwn.out, HBw.out⟩
end Go.Proofs.YtpgigpajpcianaaGreatDoor

namespace Go.Proofs.YtpgigpajpcianaaGreatDoor
open Go.RowKit

def placeC (no : Int) (at' : Nat) (l : List UInt8) (there : Bool) : Array Value := #[.int .i64 no, .int .i64 at', strV l, .bool there]
theorem ret_place {fn : Func} {p q : Tmp} (hr : fn.results = #[.cell p 156, .tmp q]) {a : Act} {w : World} {R : Ending → World → Prop} {B : Nat} {cs : Array Value} {v : Value}
    (hd : a.defers = []) (hp : a.tmps.getD p undef = .pointer (some ⟨B, 0, none⟩)) (hq : a.tmps.getD q undef = v) (hg : w.heap[B]? = some (.cells cs 156 (0, 0))) (hs : cs.size = 4)
    (h : R (.returned (.tuple #[.agg cs, v])) w) : bodyPost Tryz.prog fn R .ret a w := by
  refine bodyPost_ret (v := .tuple #[.agg cs, v]) ?_ hd h
  have hp' : a.tmps[p]?.getD undef = .pointer (some ⟨B, 0, none⟩) := by simpa using hp
  have hq' : a.tmps[q]?.getD undef = v := by simpa using hq
  have hl := run_loadVar_row (P := Tryz.prog) w B 156 156 cs (0, 0) _ hg Tryz.underlying156 rfl (by rw [hs]; kernel_rfl)
  simp [results, hr, hp', hq', asAddr, hl]
def gotC (S : Script) (s : DSt) (no : Int) (at' : Nat) (l : List UInt8) (b : Bool) : Array Value :=
  if readE S s no at' 65 ≠ 0 then placeC no at' l b
  else placeC no (if readB S s no at' 65 = [] then at' else at' + ((readB S s no at' 65).takeWhile (· ≠ 10)).length + 1) ((readB S s no at' 65).takeWhile (· ≠ 10)) (!(readB S s no at' 65).isEmpty)
def GotPlace (base r : Nat) (own : Nat → Nat) (S : Script) (s : DSt) (no : Int) (at' : Nat) (l : List UInt8) (b : Bool) (w : World) (e : Ending) (w' : World) : Prop :=
  e = .returned (.tuple #[.agg (gotC S s no at' l b), .int .i64 (readE S s no at' 65)]) ∧ RAt base r own S (readS S s no at' 65) w' ∧ Frame (· = r) w w'
theorem readB_len (S : Script) (s : DSt) (no at' : Int) : (readB S s no at' 65).length ≤ 65 := by
  unfold readB
  split
  · exact List.length_take_le _ _
  · simp
theorem takeWhile_at {B : List UInt8} {k : Nat} (h1 : ∀ j c, j < k → B[j]? = some c → c ≠ 10) (h2 : k = B.length ∨ B[k]? = some 10) (hk : k ≤ B.length) : B.takeWhile (· ≠ 10) = B.take k := by
  induction B generalizing k with
  | nil => simp
  | cons x r ih =>
    cases k with
    | zero =>
      rcases h2 with h2 | h2
      · simp at h2
      · simp only [List.getElem?_cons_zero, Option.some.injEq] at h2
        simp [h2]
    | succ k =>
      have hx := h1 0 x (by omega) rfl
      rw [List.takeWhile_cons, if_pos (by simpa using hx), List.take_succ_cons, ih (k := k) (fun j c hj hc => h1 (j + 1) c (Nat.succ_lt_succ hj) (by simpa using hc)) (by simpa using h2) (by simpa using hk)]
set_option maxRecDepth 100000 in
set_option maxHeartbeats 8000000 in
theorem docGet_any {base r q : Nat} {own : Nat → Nat} {S : Script} {s : DSt} {w : World} (c0 : w.cell? ⟨q, 0, none⟩ = some (.pointer (some ⟨r, 0, none⟩))) (h : RAt base r own S s w) (hs : Small s) (hS : S.length ≤ 1000000) (no : Int) (at0 : Nat) (hat : at0 ≤ 1000000) (l : List UInt8) (b : Bool) :
    Calls Tryz.prog 91 #[.pointer (some ⟨q, 0, none⟩), .agg (placeC no at0 l b)] w (GotPlace base r own S s no at0 l b w) := by
  unfold GotPlace gotC
  have hrl := h.bnd r (by obtain ⟨_, _, _, h⟩ := h; rw [h.orr]; decide)
  have HR := Lib.hid (show ∀ W, Below w.heap.size w W → Calls Tryz.prog 116 #[.pointer (some ⟨r, 0, none⟩), .int .i64 no, .int .i64 at0, .int .i64 65] W (RefRead base r own S (readS S s no at0 65) (readE S s no at0 65) (readB S s no at0 65) W) from fun W hb => refRead_any (h.below hb) hs hS no at0 65)
  have hbl := readB_len S s no at0
  obtain ⟨E, hE⟩ : ∃ E, E = readE S s no at0 65 := ⟨_, rfl⟩
  obtain ⟨B, hB⟩ : ∃ B, B = readB S s no at0 65 := ⟨_, rfl⟩
  obtain ⟨s', hs'⟩ : ∃ s', s' = readS S s no at0 65 := ⟨_, rfl⟩
  rw [← hE, ← hB, ← hs'] at HR ⊢
  rw [← hB] at hbl
  have HBl := Lib.hid hbl
  have HRl := Lib.hid hrl.2
  have HBnd := Lib.hid h.bnd
  have HBase := Lib.hid (Nat.le_trans hrl.1 (Nat.le_of_lt hrl.2))
  obtain ⟨S0, hS0⟩ : ∃ S0 : ByteArray, strV l = .string S0 := ⟨_, rfl⟩
  have HS0 := Lib.hid hS0
  unfold placeC
  rw [hS0]
  have HC0 := Lib.hid c0
  obtain ⟨cs, hcs⟩ : ∃ cs : Array Value, cs = (if E ≠ 0 then #[.int .i64 no, .int .i64 at0, .string S0, .bool b] else #[.int .i64 no, .int .i64 (if B = [] then at0 else at0 + (B.takeWhile (· ≠ 10)).length + 1 : Nat), strV (B.takeWhile (· ≠ 10)), .bool (!B.isEmpty)]) := ⟨_, rfl⟩
  rw [← hcs]
  have HCs := Lib.hid hcs
  have HAt := Lib.hid hat
  clear h hs hS hrl hE hB hs' hbl hS0 c0 hcs hat
  go_enter Tryz.func91, Tryz.ntmps91
  go_upto_region 1 with fail
  have hb1 : Below w.heap.size w ((w.alloc (.cells #[.int .i64 no, .int .i64 at0, .string S0, .bool b] 156)).alloc (.cells #[.int .i64 0, .int .i64 0, .string ByteArray.empty, .bool false] 156)) := ((Below.refl _ _).alloc (Nat.le_refl _) _).alloc (by simp) _
  have hr4 := heap_alloc_last (w.alloc (.cells #[.int .i64 no, .int .i64 at0, .string S0, .bool b] 156)) (.cells #[.int .i64 0, .int .i64 0, .string ByteArray.empty, .bool false] 156)
  rw [World.size_alloc] at hr4
  have hr3 := (((Below.refl (w.alloc (.cells #[.int .i64 no, .int .i64 at0, .string S0, .bool b] 156)).heap.size (w.alloc (.cells #[.int .i64 no, .int .i64 at0, .string S0, .bool b] 156))).alloc (Nat.le_refl _) (.cells #[.int .i64 0, .int .i64 0, .string ByteArray.empty, .bool false] 156)).block w.heap.size (by simp)).trans (heap_alloc_last w (.cells #[.int .i64 no, .int .i64 at0, .string S0, .bool b] 156))
  have hs1 : ((w.alloc (.cells #[.int .i64 no, .int .i64 at0, .string S0, .bool b] 156)).alloc (.cells #[.int .i64 0, .int .i64 0, .string ByteArray.empty, .bool false] 156)).heap.size = w.heap.size + 2 := by simp
  change Code.wp _ _ _ _ ((w.alloc (.cells #[.int .i64 no, .int .i64 at0, .string S0, .bool b] 156)).alloc (.cells #[.int .i64 0, .int .i64 0, .string ByteArray.empty, .bool false] 156))
  generalize ((w.alloc (.cells #[.int .i64 no, .int .i64 at0, .string S0, .bool b] 156)).alloc (.cells #[.int .i64 0, .int .i64 0, .string ByteArray.empty, .bool false] 156)) = W1 at hb1 hr3 hr4 hs1 ⊢
  have e0 : W1.cell? ⟨w.heap.size, 0, none⟩ = some (.int .i64 no) := by rw [cell_of_row _ _ _ _ _ _ hr3]; rfl
  have e1 : W1.cell? ⟨w.heap.size, 1, none⟩ = some (.int .i64 at0) := by rw [cell_of_row _ _ _ _ _ _ hr3]; rfl
  have c0 := Pm.Below.cell hb1 HC0.out
  have HRd := Lib.hid (HR.out W1.drew hb1.drew)
  have HB1 := Lib.hid hb1
  have HS1 := Lib.hid hs1
  have HR3 := Lib.hid hr3
  have HR4 := Lib.hid hr4
  clear hb1 hr3 hr4 hs1 HR HC0
  go_cut [6, 7] (fun x y W => ∃ av cv, x = .slice av B.length cv ∧ y = .int .i64 E ∧ RowKit.Hid (IsBytes (w.heap.size + 2 ≤ ·) W (.slice av B.length cv) B) ∧ RowKit.Hid (RAt base r own S s' W) ∧ RowKit.Hid (Frame (· = r) W1 W))
  case first =>
    go_region_with (go_at_call 116; refine HRd.out.mono ?_; rintro e w1 ⟨v, rfl, ho, hd, hf⟩; obtain ⟨av, cv, rfl⟩ : ∃ a c, v = .slice a B.length c := (by obtain ⟨a, c, e, -⟩ := ho; exact ⟨a, c, e⟩); have HO := Lib.hid ho; have HD := Lib.hid hd; have HF := Lib.hid ((Frame.refl (· = r) W1).drew.trans hf); clear ho hd hf)
    all_goals
      go_wp2_with fail
      go_meet
      case rel => exact ⟨av, cv, rfl, rfl, Lib.hid (by have := HO.out; rwa [show W1.drew.heap.size = w.heap.size + 2 from HS1.out] at this), HD, HF⟩
  case rest =>
    obtain ⟨av, cv, rfl, rfl, HO, HD, HF⟩ := hcut
    have hr3 := HF.out.heap HR3.out (fun e => by have := HRl.out; have e' : w.heap.size = r := e; omega)
    have hr4 := HF.out.heap HR4.out (fun e => by have := HRl.out; have e' : w.heap.size + 1 = r := e; omega)
    have hfw : Frame (· = r) w wc := (Below.toFrame HB1.out _).trans HF.out
    have HFw := Lib.hid hfw
    have hsz := HF.out.size
    rw [HS1.out] at hsz
    have HSz := Lib.hid hsz
    have HEnd := Lib.hid (show ∀ W, Frame (fun k => w.heap.size ≤ k) wc W → RAt base r own S s' W ∧ Frame (· = r) w W from fun W hf =>
      ⟨HD.out.frame hf (fun k hk => Classical.byContradiction fun h0 => by have := (HBnd.out k h0).2; have hk : w.heap.size ≤ k := hk; omega) (fun k hk => by have := HBase.out; have hk : w.heap.size ≤ k := hk; omega), HFw.out.then hf (fun k h1 h2 => by have h2 : w.heap.size ≤ k := h2; omega)⟩)
    clear e0 e1 c0 HRd HF HR3 HR4 HB1 HS1 hfw hsz
    by_cases hE : E = 0
    · subst hE
      have hcs := HCs.out
      rw [if_neg (by decide)] at hcs
      obtain ⟨tv, htv⟩ : ∃ tv, tv = !B.isEmpty := ⟨_, rfl⟩
      obtain ⟨bl, hbl⟩ : ∃ bl, bl = B.length := ⟨_, rfl⟩
      have t1 : decide (0 < bl) = tv := by rw [htv, hbl]; cases B <;> simp
      have t2 : decide ((0 : Int) < (bl : Int)) = tv := by rw [← t1]; simp
      have z3 : ∀ k, wc.frozen? ⟨w.heap.size, k, none⟩ = false := fun k => by simp [World.frozen?, hr3]
      have z33 := z3 3
      have z32 := z3 2
      have e2 : wc.cell? ⟨w.heap.size, 2, none⟩ = some (.string S0) := by rw [cell_of_row _ _ _ _ _ _ hr3]; rfl
      have e3 : wc.cell? ⟨w.heap.size, 3, none⟩ = some (.bool b) := by rw [cell_of_row _ _ _ _ _ _ hr3]; rfl
      have HR3 := Lib.hid hr3
      have HR4 := Lib.hid hr4
      have HCs2 := Lib.hid (show cs = #[.int .i64 no, .int .i64 (if B = [] then at0 else at0 + (B.takeWhile (· ≠ 10)).length + 1 : Nat), strV (B.takeWhile (· ≠ 10)), .bool tv] by rw [htv]; exact hcs)
      have HTv := Lib.hid htv
      have HBll := Lib.hid hbl
      rw [← hbl]
      clear hr3 hr4 hcs htv hbl z3
      go_wp2_with fail
      go_loopw [8] (fun iv wr => ∃ i : Nat, iv = .int .i64 i ∧ i ≤ bl ∧ RowKit.Hid (∀ (j : Nat) c, j < i → B[j]? = some c → c ≠ 10) ∧ RowKit.Hid (wr.heap[w.heap.size]? = some (.cells #[.int .i64 no, .int .i64 at0, strV (B.take i), .bool tv] 156 (0, 0))) ∧ RowKit.Hid (Frame (· = w.heap.size) wc wr)) (fun iv _ => bl - (intOf iv).toNat)
      case atStart =>
        refine ⟨0, rfl, Nat.zero_le _, Lib.hid (fun j c hj => by omega), Lib.hid ?_, Lib.hid ?_⟩
        · have := setCell_row (setCell_row HR3.out 3 (.bool tv)) 2 (.string ByteArray.empty)
          exact this
        · exact (Frame.cell wc ⟨w.heap.size, 3, none⟩ (.bool tv)).trans (Frame.cell _ ⟨w.heap.size, 2, none⟩ _)
      case round =>
        obtain ⟨i, rfl, hi, HNo, HRow, HFr⟩ := hrel
        have hrow := HRow.out
        obtain ⟨SL, hSL⟩ : ∃ S : ByteArray, strV (B.take i) = .string S := ⟨_, rfl⟩
        rw [hSL] at hrow
        have hsl := strV_size hSL
        rw [List.length_take] at hsl
        have e1 : wr.cell? ⟨w.heap.size, 1, none⟩ = some (.int .i64 at0) := by rw [cell_of_row _ _ _ _ _ _ hrow]; rfl
        have e2 : wr.cell? ⟨w.heap.size, 2, none⟩ = some (.string SL) := by rw [cell_of_row _ _ _ _ _ _ hrow]; rfl
        have e3 : wr.cell? ⟨w.heap.size, 3, none⟩ = some (.bool tv) := by rw [cell_of_row _ _ _ _ _ _ hrow]; rfl
        have z : ∀ k, wr.frozen? ⟨w.heap.size, k, none⟩ = false := fun k => by simp [World.frozen?, hrow]
        have z1 := z 1
        have z2 := z 2
        have q1 : (0 : Int) ≤ (i : Int) := by omega
        have hbl := HBll.out
        have hb65 := HBl.out
        have hat := HAt.out
        have q5 : (i : Int) ≤ 65 := by omega
        have q6 : (SL.size : Int) ≤ 65 := by omega
        have q11 : (at0 : Int) ≤ 1000000 := by omega
        have HSLl := Lib.hid (show SL.size = (B.take i).length by rw [List.length_take]; exact hsl)
        have hr4 := HFr.out.heap HR4.out (fun e => by have e' : w.heap.size + 1 = w.heap.size := e; omega)
        have HRz := Lib.hid hr4
        have HSL := Lib.hid hSL
        have HRw := Lib.hid hrow
        by_cases hlt : i < bl
        · obtain ⟨c, hc⟩ : ∃ c, B[i]? = some c := ⟨B[i]'(by omega), List.getElem?_eq_getElem _⟩
          obtain ⟨_, _, e, hcap, hcl⟩ := HO.out.frame HFr.out (fun k hk e => by have e' : k = w.heap.size := e; have hk : w.heap.size + 2 ≤ k := hk; omega)
          cases e
          obtain ⟨gb, off, rfl, -, cc⟩ := hcl i c hc
          have q2 : (i : Int) < (bl : Int) := by omega
          by_cases h10 : c = 10
          · have t1 : ((c.toNat : Int) != 10) = false := by rw [h10]; decide
            have HTk := Lib.hid (takeWhile_at HNo.out (.inr (by rw [hc, h10])) (by omega))
            clear hcap hlt hc hcl h10 z hsl hbl hb65 hat hSL hrow hr4
            cases tv with
            | true =>
              have q9 : IntKind.i64.wrap ((at0 : Int) + (SL.size : Int)) = (at0 : Int) + (SL.size : Int) := by rw [IntKind.wrap_i64]; omega
              have q10 : IntKind.i64.wrap ((at0 : Int) + (SL.size : Int) + 1) = (at0 : Int) + (SL.size : Int) + 1 := by rw [IntKind.wrap_i64]; omega
              go_upto_region 12 with fail
              have HRx := Lib.hid (setCell_row HRw.out 1 (.int .i64 ((at0 : Int) + (SL.size : Int) + 1)))
              have HRy := Lib.hid ((Frame.cell wr ⟨w.heap.size, 1, none⟩ (.int .i64 ((at0 : Int) + (SL.size : Int) + 1))).heap HRz.out (fun e => by have e' : w.heap.size + 1 = w.heap.size := e; omega))
              go_wp2_with (first | (refine wpList_load_row rfl 156 (.tmp 3) rfl w.heap.size rfl 156 _ (0, 0) _ HRx.out Tryz.underlying156 rfl (by kernel_rfl) ?_) | (refine wpList_store_row rfl 156 (.tmp 4) (.tmp 63) rfl (w.heap.size + 1) _ rfl rfl _ _ HRy.out (by kernel_rfl) rfl (by kernel_rfl) ?_))
              have hcs : cs = #[.int .i64 no, .int .i64 ((at0 : Int) + (SL.size : Int) + 1), .string SL, .bool true] := by
                rw [HCs2.out, HTk.out, HSL.out, if_neg (fun e => by have h := HTv.out; rw [e] at h; cases h), ← HSLl.out]
                simp
              refine ret_place rfl rfl rfl rfl (setRow_heap _ _ _ _ _ _ HRy.out) rfl ?_
              rw [hcs]
              exact ⟨rfl, HEnd.out _ ((HFr.out.mono (fun k _ e => by have e' : k = w.heap.size := e; show w.heap.size ≤ k; omega)).trans (((Frame.cell wr _ _).mono (fun k _ e => by have e' : k = w.heap.size := e; show w.heap.size ≤ k; omega)).trans ((Frame.row _ _ _).mono (fun k _ e => by have e' : k = w.heap.size + 1 := e; show w.heap.size ≤ k; omega))))⟩
            | false =>
              go_upto_region 12 with fail
              go_wp2_with (first | (refine wpList_load_row rfl 156 (.tmp 3) rfl w.heap.size rfl 156 _ (0, 0) _ HRw.out Tryz.underlying156 rfl (by kernel_rfl) ?_) | (refine wpList_store_row rfl 156 (.tmp 4) (.tmp 63) rfl (w.heap.size + 1) _ rfl rfl _ _ HRz.out (by kernel_rfl) rfl (by kernel_rfl) ?_))
              have hcs : cs = #[.int .i64 no, .int .i64 (at0 : Int), .string SL, .bool false] := by
                rw [HCs2.out, HTk.out, HSL.out, if_pos (by have h := HTv.out; cases B with | nil => rfl | cons x r => cases h)]
              refine ret_place rfl rfl rfl rfl (setRow_heap _ _ _ _ _ _ HRz.out) rfl ?_
              rw [hcs]
              exact ⟨rfl, HEnd.out _ ((HFr.out.mono (fun k _ e => by have e' : k = w.heap.size := e; show w.heap.size ≤ k; omega)).trans ((Frame.row _ _ _).mono (fun k _ e => by have e' : k = w.heap.size + 1 := e; show w.heap.size ≤ k; omega)))⟩
          · have t1 : ((c.toNat : Int) != 10) = true := by
              simp only [bne_iff_ne, ne_eq]
              intro e
              exact h10 (UInt8.toNat_inj.1 (by simpa using (by omega : c.toNat = 10)))
            have hcb : bl ≤ cv := by omega
            have hne : ¬ cv = i := by omega
            have hpart := bytes_part (n := i) (q := i + 1) (A := some ⟨gb, off + i, none⟩) (HO.out.frame HFr.out (fun k hk e => by have e' : k = w.heap.size := e; have hk : w.heap.size + 2 ≤ k := hk; omega)) (by omega) (by omega) (by rw [if_neg hne]; simp only [Option.map_some, Addr.add_mid])
            have hsnoc := take_snoc hc
            obtain ⟨SC, hSC⟩ : ∃ S : ByteArray, strV [c] = .string S := ⟨_, rfl⟩
            have hadd := add_fits (S := SL) (T := SC) (by omega) (by rw [strV_size hSC]; simp)
            have hcat := strV_add hSL hSC
            rw [← hsnoc] at hcat
            have HCat := Lib.hid hcat
            have q3 : (i : Int) + 1 ≤ (bl : Int) := by omega
            have q4 : (i : Int) + 1 ≤ (cv : Int) := by omega
            have q7 : IntKind.i64.wrap ((i : Int) + 1) = (i : Int) + 1 := by rw [IntKind.wrap_i64]; omega
            have hcv := conv_any (hpart.below (Below.drew (Below.refl _ _)))
            have hone : (B.take (i + 1)).drop i = [c] := by rw [hsnoc]; exact List.drop_left' (by rw [List.length_take]; omega)
            rw [hone, hSC, show i + 1 - i = 1 by omega] at hcv
            have q8 : (0 : Int) ≤ (i : Int) + 1 := by omega
            have HLt := Lib.hid hlt
            have H10 := Lib.hid h10
            have HC := Lib.hid hc
            clear hlt hc hcl h10 z hsl hbl hb65 hat hSL hrow hr4 hpart hcb hsnoc hSC hcat hone hcap
            go_upto_region 9 with fail
            go_region
            go_wp2_with fail
            go_roundw
            case rel =>
              refine ⟨i + 1, by go_num, HLt.out, Lib.hid (fun j c' hj hc' => ?_), Lib.hid ?_, Lib.hid ?_⟩
              · by_cases hji : j < i
                · exact HNo.out j c' hji hc'
                · obtain rfl : j = i := by omega
                  rw [HC.out] at hc'
                  cases hc'
                  exact H10.out
              · rw [HCat.out]
                exact setCell_row HRw.out 2 (.string (SL ++ SC))
              · exact HFr.out.trans (Frame.cell wr ⟨w.heap.size, 2, none⟩ (.string (SL ++ SC))).drew
            case measure => have := HLt.out; simp [intOf]; omega
        · have q2 : ¬ (i : Int) < (bl : Int) := by omega
          have HTk := Lib.hid (takeWhile_at HNo.out (.inl (by omega)) (by omega))
          clear hlt z hsl hbl hb65 hat hSL hrow hr4
          cases tv with
          | true =>
            have q9 : IntKind.i64.wrap ((at0 : Int) + (SL.size : Int)) = (at0 : Int) + (SL.size : Int) := by rw [IntKind.wrap_i64]; omega
            have q10 : IntKind.i64.wrap ((at0 : Int) + (SL.size : Int) + 1) = (at0 : Int) + (SL.size : Int) + 1 := by rw [IntKind.wrap_i64]; omega
            go_upto_region 12 with fail
            have HRx := Lib.hid (setCell_row HRw.out 1 (.int .i64 ((at0 : Int) + (SL.size : Int) + 1)))
            have HRy := Lib.hid ((Frame.cell wr ⟨w.heap.size, 1, none⟩ (.int .i64 ((at0 : Int) + (SL.size : Int) + 1))).heap HRz.out (fun e => by have e' : w.heap.size + 1 = w.heap.size := e; omega))
            go_wp2_with (first | (refine wpList_load_row rfl 156 (.tmp 3) rfl w.heap.size rfl 156 _ (0, 0) _ HRx.out Tryz.underlying156 rfl (by kernel_rfl) ?_) | (refine wpList_store_row rfl 156 (.tmp 4) (.tmp 63) rfl (w.heap.size + 1) _ rfl rfl _ _ HRy.out (by kernel_rfl) rfl (by kernel_rfl) ?_))
            have hcs : cs = #[.int .i64 no, .int .i64 ((at0 : Int) + (SL.size : Int) + 1), .string SL, .bool true] := by
              rw [HCs2.out, HTk.out, HSL.out, if_neg (fun e => by have h := HTv.out; rw [e] at h; cases h), ← HSLl.out]
              simp
            refine ret_place rfl rfl rfl rfl (setRow_heap _ _ _ _ _ _ HRy.out) rfl ?_
            rw [hcs]
            exact ⟨rfl, HEnd.out _ ((HFr.out.mono (fun k _ e => by have e' : k = w.heap.size := e; show w.heap.size ≤ k; omega)).trans (((Frame.cell wr _ _).mono (fun k _ e => by have e' : k = w.heap.size := e; show w.heap.size ≤ k; omega)).trans ((Frame.row _ _ _).mono (fun k _ e => by have e' : k = w.heap.size + 1 := e; show w.heap.size ≤ k; omega))))⟩
          | false =>
            go_upto_region 12 with fail
            go_wp2_with (first | (refine wpList_load_row rfl 156 (.tmp 3) rfl w.heap.size rfl 156 _ (0, 0) _ HRw.out Tryz.underlying156 rfl (by kernel_rfl) ?_) | (refine wpList_store_row rfl 156 (.tmp 4) (.tmp 63) rfl (w.heap.size + 1) _ rfl rfl _ _ HRz.out (by kernel_rfl) rfl (by kernel_rfl) ?_))
            have hcs : cs = #[.int .i64 no, .int .i64 (at0 : Int), .string SL, .bool false] := by
              rw [HCs2.out, HTk.out, HSL.out, if_pos (by have h := HTv.out; cases B with | nil => rfl | cons x r => cases h)]
            refine ret_place rfl rfl rfl rfl (setRow_heap _ _ _ _ _ _ HRz.out) rfl ?_
            rw [hcs]
            exact ⟨rfl, HEnd.out _ ((HFr.out.mono (fun k _ e => by have e' : k = w.heap.size := e; show w.heap.size ≤ k; omega)).trans ((Frame.row _ _ _).mono (fun k _ e => by have e' : k = w.heap.size + 1 := e; show w.heap.size ≤ k; omega)))⟩
    · have g1 : (E != 0) = true := by simpa using hE
      have hcs := HCs.out
      rw [if_pos hE] at hcs
      have HR3 := Lib.hid hr3
      have HR4 := Lib.hid hr4
      have HCs2 := Lib.hid hcs
      clear hE hr3 hr4 hcs
      go_wp2_with (first | (refine wpList_load_row rfl 156 (.tmp 3) rfl w.heap.size rfl 156 _ (0, 0) _ HR3.out Tryz.underlying156 rfl (by kernel_rfl) ?_) | (refine wpList_store_row rfl 156 (.tmp 4) (.tmp 23) rfl (w.heap.size + 1) _ rfl rfl _ _ HR4.out (by kernel_rfl) rfl (by kernel_rfl) ?_))
      refine ret_place rfl rfl rfl rfl (setRow_heap _ _ _ _ _ _ HR4.out) rfl ?_
      rw [HCs2.out]
      exact ⟨rfl, HEnd.out _ ((Frame.row _ _ _).mono (fun k _ e => by have e' : k = w.heap.size + 1 := e; show w.heap.size ≤ k; omega))⟩
end Go.Proofs.YtpgigpajpcianaaGreatDoor

namespace Go.Proofs.YtpgigpajpcianaaGreatDoor
open Go.RowKit

def ownDoc (ownR : Nat → Nat) (q : Nat) (uv nv : Value) (k : Nat) : Prop := ownR k ≠ 0 ∨ k = q ∨ uv.ownBlock = some k ∨ nv.ownBlock = some k
structure DocAt (base q r : Nat) (ownR : Nat → Nat) (S : Script) (F : Bool) (s : DSt) (run : Lines) (nos : List Int) (told : List UInt8) (uv nv : Value) (w : World) : Prop where
  heap : w.heap[q]? = some (.cells #[.pointer (some ⟨r, 0, none⟩), .bool F, uv, nv, strV told] 99 (0, 0))
  disk : RAt base r ownR S s w
  run : w.ownsRow base 9 1 uv run.length (run.map strV)
  nos : w.ownsRow base 3 1 nv nos.length (nos.map (Value.int .i64))
  oq : ownR q = 0
  low : base ≤ q
  ou : ∀ k, uv.ownBlock = some k → ownR k = 0 ∧ k ≠ q
  on : ∀ k, nv.ownBlock = some k → ownR k = 0 ∧ k ≠ q ∧ uv.ownBlock ≠ some k
def DocLeft (base q r : Nat) (own : Nat → Prop) (S : Script) (F : Bool) (s : DSt) (run : Lines) (nos : List Int) (told : List UInt8) (w w' : World) : Prop :=
  ∃ ownR uv nv, DocAt base q r ownR S F s run nos told uv nv w' ∧ (∀ k, k < w.heap.size → ownDoc ownR q uv nv k → own k) ∧ Frame own w w'
section
variable {base q r : Nat} {ownR : Nat → Nat} {S : Script} {F : Bool} {s : DSt} {run : Lines} {nos : List Int} {told : List UInt8} {uv nv : Value} {w : World}
theorem DocAt.lt (h : DocAt base q r ownR S F s run nos told uv nv w) : q < w.heap.size := (Array.getElem?_eq_some_iff.1 h.heap).1
theorem DocAt.bnd (h : DocAt base q r ownR S F s run nos told uv nv w) : ∀ k, ownDoc ownR q uv nv k → base ≤ k ∧ k < w.heap.size := by
  rintro k (h1 | h1 | h1 | h1)
  · exact h.disk.bnd k h1
  · subst h1
    exact ⟨h.low, h.lt⟩
  · exact h.run.lt k h1
  · exact h.nos.lt k h1
theorem DocAt.frame {p : Nat → Prop} {w' : World} (h : DocAt base q r ownR S F s run nos told uv nv w) (hf : Frame p w w') (hp : ∀ k, p k → ¬ ownDoc ownR q uv nv k) (hl : ∀ k, p k → base ≤ k) : DocAt base q r ownR S F s run nos told uv nv w' where
  heap := hf.heap h.heap (fun e => hp _ e (.inr (.inl rfl)))
  disk := h.disk.frame hf (fun k hk => Classical.byContradiction fun h0 => hp k hk (.inl h0)) hl
  run := hf.owns h.run (fun k hk e => hp k e (.inr (.inr (.inl hk))))
  nos := hf.owns h.nos (fun k hk e => hp k e (.inr (.inr (.inr hk))))
  oq := h.oq
  low := h.low
  ou := h.ou
  on := h.on
theorem DocAt.below {w' : World} (h : DocAt base q r ownR S F s run nos told uv nv w) (hb : Below w.heap.size w w') : DocAt base q r ownR S F s run nos told uv nv w' :=
  h.frame (Below.toFrame hb fun _ => False) (fun _ e => e.elim) (fun _ e => e.elim)
theorem DocAt.left (h : DocAt base q r ownR S F s run nos told uv nv w) {w' : World} (hb : Below w.heap.size w w') : DocLeft base q r (ownDoc ownR q uv nv) S F s run nos told w w' :=
  ⟨ownR, uv, nv, h.below hb, fun _ _ h => h, Below.toFrame hb _⟩
theorem DocLeft.then {own : Nat → Prop} {s' : DSt} {run' : Lines} {nos' : List Int} {told' : List UInt8} {own1 : Nat → Prop} {w1 w2 : World} (hf : Frame own w w1) (ho : ∀ k, k < w.heap.size → own1 k → own k) (h : DocLeft base q r own1 S F s' run' nos' told' w1 w2) : DocLeft base q r own S F s' run' nos' told' w w2 := by
  obtain ⟨ownR, uv, nv, h1, h2, h3⟩ := h
  exact ⟨ownR, uv, nv, h1, fun k hk e => ho k hk (h2 k (Nat.lt_of_lt_of_le hk hf.size) e), hf.then h3 ho⟩
theorem DocAt.call (h : DocAt base q r ownR S F s run nos told uv nv w) {s' : DSt} {w' : World} (hl : RLeft base r ownR S s' w w') : DocLeft base q r (ownDoc ownR q uv nv) S F s' run nos told w w' := by
  obtain ⟨own', hd, hs, hf⟩ := hl
  have hlt := h.lt
  refine ⟨own', uv, nv, ⟨hf.heap h.heap (fun e => e h.oq), hd, hf.owns h.run (fun k hk e => e (h.ou k hk).1), hf.owns h.nos (fun k hk e => e (h.on k hk).1), by rw [hs q hlt]; exact h.oq, h.low, fun k hk => ?_, fun k hk => ?_⟩, fun k hk e => ?_, hf.mono (fun k _ e => .inl e)⟩
  · rw [hs k (h.run.lt k hk).2]
    exact h.ou k hk
  · rw [hs k (h.nos.lt k hk).2]
    exact h.on k hk
  · rcases e with e | e
    · rw [hs k hk] at e
      exact .inl e
    · exact .inr e
theorem DocAt.froz (h : DocAt base q r ownR S F s run nos told uv nv w) (k : Nat) : w.frozen? ⟨q, k, none⟩ = false := by simp [World.frozen?, h.heap]
theorem DocAt.c0 (h : DocAt base q r ownR S F s run nos told uv nv w) : w.cell? ⟨q, 0, none⟩ = some (.pointer (some ⟨r, 0, none⟩)) := by rw [cell_of_row _ _ _ _ _ _ h.heap]; rfl
theorem DocAt.c1 (h : DocAt base q r ownR S F s run nos told uv nv w) : w.cell? ⟨q, 1, none⟩ = some (.bool F) := by rw [cell_of_row _ _ _ _ _ _ h.heap]; rfl
theorem DocAt.c2 (h : DocAt base q r ownR S F s run nos told uv nv w) : w.cell? ⟨q, 2, none⟩ = some uv := by rw [cell_of_row _ _ _ _ _ _ h.heap]; rfl
theorem DocAt.c3 (h : DocAt base q r ownR S F s run nos told uv nv w) : w.cell? ⟨q, 3, none⟩ = some nv := by rw [cell_of_row _ _ _ _ _ _ h.heap]; rfl
theorem DocAt.c4 (h : DocAt base q r ownR S F s run nos told uv nv w) : w.cell? ⟨q, 4, none⟩ = some (strV told) := by rw [cell_of_row _ _ _ _ _ _ h.heap]; rfl
theorem DocAt.putRun (h : DocAt base q r ownR S F s run nos told uv nv w) {w1 : World} {run' : Lines} {v' : Value} (hf : Frame (fun k => uv.ownBlock = some k) w w1) (ho : w1.ownsRow base 9 1 v' run'.length (run'.map strV)) (hl : ∀ k, v'.ownBlock = some k → ownR k = 0 ∧ k ≠ q ∧ nv.ownBlock ≠ some k) :
    DocAt base q r ownR S F s run' nos told v' nv (w1.setCell ⟨q, 2, none⟩ v') := by
  have hq := hf.heap h.heap (fun e => (h.ou q e).2 rfl)
  have hc := Frame.cell w1 ⟨q, 2, none⟩ v'
  have hd := h.disk.frame hf (fun k hk => (h.ou k hk).1) (fun k hk => (h.run.lt k hk).1)
  refine ⟨setCell_row hq 2 v', hd.frame hc (fun k e => by have e' : k = q := e; rw [e']; exact h.oq) (fun k e => by have e' : k = q := e; rw [e']; exact h.low), hc.owns ho (fun k hk e => (hl k hk).2.1 e), ?_, h.oq, h.low, fun k hk => ⟨(hl k hk).1, (hl k hk).2.1⟩, fun k hk => ⟨(h.on k hk).1, (h.on k hk).2.1, fun e => (hl k e).2.2 hk⟩⟩
  exact hc.owns (hf.owns h.nos (fun k hk e => (h.on k hk).2.2 e)) (fun k hk e => (h.on k hk).2.1 e)
theorem DocAt.putNos (h : DocAt base q r ownR S F s run nos told uv nv w) {w1 : World} {nos' : List Int} {v' : Value} (hf : Frame (fun k => nv.ownBlock = some k) w w1) (ho : w1.ownsRow base 3 1 v' nos'.length (nos'.map (Value.int .i64))) (hl : ∀ k, v'.ownBlock = some k → ownR k = 0 ∧ k ≠ q ∧ uv.ownBlock ≠ some k) :
    DocAt base q r ownR S F s run nos' told uv v' (w1.setCell ⟨q, 3, none⟩ v') := by
  have hq := hf.heap h.heap (fun e => (h.on q e).2.1 rfl)
  have hc := Frame.cell w1 ⟨q, 3, none⟩ v'
  have hd := h.disk.frame hf (fun k hk => (h.on k hk).1) (fun k hk => (h.nos.lt k hk).1)
  refine ⟨setCell_row hq 3 v', hd.frame hc (fun k e => by have e' : k = q := e; rw [e']; exact h.oq) (fun k e => by have e' : k = q := e; rw [e']; exact h.low), ?_, hc.owns ho (fun k hk e => (hl k hk).2.1 e), h.oq, h.low, h.ou, hl⟩
  exact hc.owns (hf.owns h.run (fun k hk e => (h.on k e).2.2 hk)) (fun k hk e => (h.ou k hk).2 e)
theorem DocAt.putTold (h : DocAt base q r ownR S F s run nos told uv nv w) (told' : List UInt8) :
    DocAt base q r ownR S F s run nos told' uv nv (w.setCell ⟨q, 4, none⟩ (strV told')) := by
  have hc := Frame.cell w ⟨q, 4, none⟩ (strV told')
  refine ⟨setCell_row h.heap 4 (strV told'), h.disk.frame hc (fun k e => by have e' : k = q := e; rw [e']; exact h.oq) (fun k e => by have e' : k = q := e; rw [e']; exact h.low), hc.owns h.run (fun k hk e => (h.ou k hk).2 e), hc.owns h.nos (fun k hk e => (h.on k hk).2.1 e), h.oq, h.low, h.ou, h.on⟩
end

end Go.Proofs.YtpgigpajpcianaaGreatDoor

namespace Go.Proofs.YtpgigpajpcianaaGreatDoor
open Go.RowKit

structure Pl where
  no : Int
  at' : Nat
  line : List UInt8
  there : Bool
def Pl.cells (p : Pl) : List Value := [.int .i64 p.no, .int .i64 p.at', strV p.line, .bool p.there]
theorem Pl.agg (p : Pl) : placeC p.no p.at' p.line p.there = p.cells.toArray := rfl
def Like (p : Pl) (r : Rn) : Prop := p.no = r.no ∧ p.line = r.next ∧ p.there = !r.over ∧ (r.over = false → p.at' = r.at')
def plL : List Pl → List Value
  | [] => []
  | p :: P => .int .i64 p.no :: .int .i64 p.at' :: strV p.line :: .bool p.there :: plL P
theorem plL_append : ∀ P P' : List Pl, plL (P ++ P') = plL P ++ plL P'
  | [], P' => rfl
  | p :: P, P' => by simp only [plL, List.cons_append, plL_append P P']
theorem plL_one (p : Pl) : plL [p] = p.cells := rfl
theorem plL_get : ∀ {P : List Pl} {j : Nat} {p : Pl}, P[j]? = some p → (plL P)[j * 4]? = some (.int .i64 p.no) ∧ (plL P)[j * 4 + 1]? = some (.int .i64 p.at') ∧ (plL P)[j * 4 + 2]? = some (strV p.line) ∧ (plL P)[j * 4 + 3]? = some (.bool p.there)
  | [], j, p, h => by simp at h
  | x :: P, 0, p, h => by
    simp only [List.getElem?_cons_zero, Option.some.injEq] at h
    subst h
    exact ⟨rfl, rfl, rfl, rfl⟩
  | x :: P, j + 1, p, h => by
    have ih := plL_get (P := P) (j := j) (p := p) (by simpa using h)
    rw [show (j + 1) * 4 = j * 4 + 1 + 1 + 1 + 1 by omega]
    exact ih
theorem plL_set : ∀ {P : List Pl} {j : Nat} (p : Pl), j < P.length → plL (P.set j p) = ((((plL P).set (j * 4) (.int .i64 p.no)).set (j * 4 + 1) (.int .i64 p.at')).set (j * 4 + 2) (strV p.line)).set (j * 4 + 3) (.bool p.there)
  | [], j, p, h => by simp at h
  | x :: P, 0, p, _ => rfl
  | x :: P, j + 1, p, h => by
    have ih := plL_set (P := P) (j := j) p (by simpa using h)
    rw [show (j + 1) * 4 = j * 4 + 1 + 1 + 1 + 1 by omega]
    simp only [List.set_cons_succ, plL]
    rw [ih]
theorem got_like {S : Script} {s : DSt} {p : Pl} {r : Rn} (hn : p.no = r.no) (ha : p.at' = r.at') (h0 : readE S s r.no r.at' 65 = 0) :
    ∃ p' : Pl, gotC S s p.no p.at' p.line p.there = placeC p'.no p'.at' p'.line p'.there ∧ Like p' (readR S s r).2.1 := by
  rw [hn, ha]
  unfold gotC readR
  have hno : ¬ readE S s r.no r.at' 65 ≠ 0 := by rw [h0]; decide
  simp only [if_neg hno]
  refine ⟨⟨r.no, _, _, _⟩, rfl, rfl, rfl, rfl, fun h => ?_⟩
  have h1 : readB S s r.no r.at' 65 ≠ [] := fun e => by
    have h' : (readB S s r.no r.at' 65).isEmpty = false := h
    rw [e] at h'
    cases h'
  exact if_neg h1
theorem readAll_cons {S : Script} (s : DSt) (r : Rn) (L : List Rn) : readAll S s (r :: L) = if (readR S s r).2.2 ≠ 0 then ((readR S s r).1, r :: L, (readR S s r).2.2)
    else ((readAll S (readR S s r).1 L).1, (readR S s r).2.1 :: (readAll S (readR S s r).1 L).2.1, (readAll S (readR S s r).1 L).2.2) := rfl
theorem readAll_snoc {S : Script} (r : Rn) : ∀ (L : List Rn) (s : DSt), (readAll S s L).2.2 = 0 → readAll S s (L ++ [r]) =
    if (readR S (readAll S s L).1 r).2.2 ≠ 0 then ((readR S (readAll S s L).1 r).1, (readAll S s L).2.1 ++ [r], (readR S (readAll S s L).1 r).2.2)
    else ((readR S (readAll S s L).1 r).1, (readAll S s L).2.1 ++ [(readR S (readAll S s L).1 r).2.1], 0)
  | [], s, _ => by
    rw [List.nil_append, readAll_cons]
    rfl
  | x :: L, s, h => by
    rw [readAll_cons] at h
    by_cases h0 : (readR S s x).2.2 ≠ 0
    · rw [if_pos h0] at h
      exact absurd h h0
    · rw [if_neg h0] at h
      have ih := readAll_snoc r L (readR S s x).1 h
      rw [List.cons_append, readAll_cons, readAll_cons, if_neg h0, if_neg h0, ih]
      by_cases h1 : (readR S (readAll S (readR S s x).1 L).1 r).2.2 ≠ 0
      · rw [if_pos h1, if_pos h1]; rfl
      · rw [if_neg h1, if_neg h1]; rfl
theorem readAll_stop {S : Script} (M : List Rn) : ∀ (L : List Rn) (s : DSt), (readAll S s L).2.2 ≠ 0 → (readAll S s (L ++ M)).1 = (readAll S s L).1 ∧ (readAll S s (L ++ M)).2.2 = (readAll S s L).2.2
  | [], s, h => absurd rfl h
  | x :: L, s, h => by
    rw [readAll_cons] at h
    rw [List.cons_append, readAll_cons, readAll_cons]
    by_cases h0 : (readR S s x).2.2 ≠ 0
    · rw [if_pos h0, if_pos h0]
      exact ⟨rfl, rfl⟩
    · rw [if_neg h0] at h
      rw [if_neg h0, if_neg h0]
      exact readAll_stop M L _ h
theorem readR_stays {S : Script} (s : DSt) (r : Rn) : (readR S s r).1.T = s.T ∧ (readR S s r).1.n ≤ s.n + 1 := by
  have h : (readS S s r.no r.at' 65).T = s.T ∧ (readS S s r.no r.at' 65).n ≤ s.n + 1 := by
    unfold readS
    split
    · exact ⟨rfl, Nat.le_succ _⟩
    · unfold cntS
      exact ⟨rfl, Nat.le_refl _⟩
  unfold readR
  split <;> exact h
theorem readAll_stays {S : Script} : ∀ (L : List Rn) (s : DSt), (readAll S s L).1.T = s.T ∧ (readAll S s L).1.n ≤ s.n + L.length
  | [], s => ⟨rfl, Nat.le_refl _⟩
  | x :: L, s => by
    obtain ⟨h1, h2⟩ := readR_stays (S := S) s x
    obtain ⟨h3, h4⟩ := readAll_stays L (readR S s x).1
    rw [readAll_cons, List.length_cons]
    split
    · exact ⟨h1, by show (readR S s x).1.n ≤ _; omega⟩
    · exact ⟨h3.trans h1, by show (readAll S (readR S s x).1 L).1.n ≤ _; omega⟩
theorem removeAll_cons {S : Script} (s : DSt) (r : Rn) (L : List Rn) : removeAll S s (r :: L) = if removeE S s r.no ≠ 0 then (removeS S s r.no, removeE S s r.no) else removeAll S (removeS S s r.no) L := rfl
theorem removeAll_snoc {S : Script} (r : Rn) : ∀ (L : List Rn) (s : DSt), (removeAll S s L).2 = 0 → removeAll S s (L ++ [r]) = (removeS S (removeAll S s L).1 r.no, removeE S (removeAll S s L).1 r.no)
  | [], s, _ => by
    rw [List.nil_append, removeAll_cons]
    show (if removeE S s r.no ≠ 0 then _ else (removeS S s r.no, 0)) = (removeS S s r.no, removeE S s r.no)
    by_cases h : removeE S s r.no ≠ 0
    · rw [if_pos h]
    · rw [if_neg h, Classical.not_not.1 h]
  | x :: L, s, h => by
    rw [removeAll_cons] at h
    by_cases h0 : removeE S s x.no ≠ 0
    · rw [if_pos h0] at h
      exact absurd h h0
    · rw [if_neg h0] at h
      rw [List.cons_append, removeAll_cons, removeAll_cons, if_neg h0, if_neg h0, removeAll_snoc r L _ h]
theorem removeAll_stop {S : Script} (M : List Rn) : ∀ (L : List Rn) (s : DSt), (removeAll S s L).2 ≠ 0 → removeAll S s (L ++ M) = removeAll S s L
  | [], s, h => absurd rfl h
  | x :: L, s, h => by
    rw [removeAll_cons] at h
    rw [List.cons_append, removeAll_cons, removeAll_cons]
    by_cases h0 : removeE S s x.no ≠ 0
    · rw [if_pos h0, if_pos h0]
    · rw [if_neg h0] at h
      rw [if_neg h0, if_neg h0]
      exact removeAll_stop M L _ h
theorem removeS_stays {S : Script} (s : DSt) (no : Int) {B : Nat} (hB : ∀ t ∈ s.T, t.1.length ≤ B) : (removeS S s no).T.length = s.T.length ∧ (removeS S s no).n ≤ s.n + 1 ∧ ∀ t ∈ (removeS S s no).T, t.1.length ≤ B := by
  unfold removeS
  rcases fileAt_cases s.T no with ⟨k, t, e, hk, hf⟩ | hf
  · rw [hf]
    simp only [Option.isNone_some, Bool.false_eq_true, if_false, Option.getD_some]
    split
    · refine ⟨by simp, by simp [cntS], fun x hx => ?_⟩
      rcases List.mem_or_eq_of_mem_set hx with hx | rfl
      · exact hB x hx
      · exact hB (t, true) (List.mem_of_getElem? hk)
    · exact ⟨rfl, by simp [cntS], hB⟩
  · rw [hf]
    exact ⟨rfl, Nat.le_succ _, hB⟩
theorem removeAll_stays {S : Script} {B : Nat} : ∀ (L : List Rn) (s : DSt), (∀ t ∈ s.T, t.1.length ≤ B) → (removeAll S s L).1.T.length = s.T.length ∧ (removeAll S s L).1.n ≤ s.n + L.length ∧ ∀ t ∈ (removeAll S s L).1.T, t.1.length ≤ B
  | [], s, h => ⟨rfl, Nat.le_refl _, h⟩
  | x :: L, s, h => by
    obtain ⟨h1, h2, h3⟩ := removeS_stays (S := S) s x.no h
    obtain ⟨h4, h5, h6⟩ := removeAll_stays L (removeS S s x.no) h3
    rw [removeAll_cons, List.length_cons]
    split
    · exact ⟨h1, by show (removeS S s x.no).n ≤ _; omega, h3⟩
    · exact ⟨h4.trans h1, by omega, h6⟩
end Go.Proofs.YtpgigpajpcianaaGreatDoor

namespace Go.Proofs.YtpgigpajpcianaaGreatDoor
open Go.RowKit

structure FitD (s : DSt) (run : Lines) : Prop where
  n : s.n ≤ 500000
  T : s.T.length ≤ 64
  t : ∀ x ∈ s.T, x.1.length ≤ 500000
  l : run.length ≤ 4501
  f : FineL run
theorem FitD.small {s : DSt} {run : Lines} (h : FitD s run) : Small s := ⟨by have := h.n; omega, h.T, fun x hx => by have := h.t x hx; omega⟩
def SpillTo (base q r : Nat) (own : Nat → Prop) (S : Script) (F : Bool) (s : DSt) (run : Lines) (nos : List Int) (told : List UInt8) (w : World) (e : Ending) (w' : World) : Prop :=
  ∃ run' nos', e = .returned (.int .i64 (spillD S F ⟨s, run, nos.map fresh⟩).2) ∧ DocLeft base q r own S F (spillD S F ⟨s, run, nos.map fresh⟩).1.d run' nos' told w w' ∧
    ((spillD S F ⟨s, run, nos.map fresh⟩).2 = 0 → run' = [] ∧ nos' = nos ++ [createN S s])
theorem writeAll_split {S : Script} {no : Int} : ∀ (L : Lines) (i : Nat) (d : DSt), (writeAll S no d (L.take i)).2 = 0 → writeAll S no d L = writeAll S no (writeAll S no d (L.take i)).1 (L.drop i)
  | [], i, d, _ => by simp [writeAll]
  | l :: L, 0, d, _ => by simp [writeAll]
  | l :: L, i + 1, d, h => by
    simp only [List.take_succ_cons, List.drop_succ_cons] at h ⊢
    rw [writeAll_cons] at h
    rw [writeAll_cons, writeAll_cons]
    by_cases h0 : writeE S d no (l ++ [10]) ≠ 0
    · rw [if_pos h0] at h
      exact absurd h h0
    · rw [if_neg h0] at h
      rw [if_neg h0, if_neg h0]
      exact writeAll_split L i _ h
theorem writeAll_step {S : Script} {no : Int} {L : Lines} {i : Nat} {d : DSt} {l : List UInt8} (hi : L[i]? = some l) (h : (writeAll S no d (L.take i)).2 = 0) :
    (writeE S (writeAll S no d (L.take i)).1 no (l ++ [10]) ≠ 0 → writeAll S no d L = (writeS S (writeAll S no d (L.take i)).1 no (l ++ [10]), writeE S (writeAll S no d (L.take i)).1 no (l ++ [10]))) ∧
    (writeE S (writeAll S no d (L.take i)).1 no (l ++ [10]) = 0 → writeAll S no d (L.take (i + 1)) = (writeS S (writeAll S no d (L.take i)).1 no (l ++ [10]), 0)) := by
  have hlt := (List.getElem?_eq_some_iff.1 hi).1
  have hdr : L.drop i = l :: L.drop (i + 1) := by rw [List.drop_eq_getElem_cons hlt]; congr 1; exact (List.getElem?_eq_some_iff.1 hi).2
  refine ⟨fun h0 => ?_, fun h0 => ?_⟩
  · rw [writeAll_split L i d h, hdr, writeAll_cons, if_pos h0]
  · have h1 := writeAll_split (S := S) (no := no) (L.take (i + 1)) i d (by rw [List.take_take, Nat.min_eq_left (by omega)]; exact h)
    rw [List.take_take, Nat.min_eq_left (by omega), take_snoc hi, List.drop_left' (by rw [List.length_take]; omega)] at h1
    rw [take_snoc hi, h1, writeAll_cons, if_neg (by rw [h0]; decide)]
    rfl
section
variable {base q r : Nat} {ownR : Nat → Nat} {S : Script} {F : Bool} {s : DSt} {run : Lines} {nos : List Int} {told : List UInt8} {uv nv : Value} {w : World}
set_option maxRecDepth 100000 in
set_option maxHeartbeats 8000000 in
theorem docSpill_any (h : DocAt base q r ownR S F s run nos told uv nv w) (hfit : FitD s run) (hnl : nos.length ≤ 64) (hS : S.length ≤ 1000000) :
    Calls Tryz.prog 64 #[.pointer (some ⟨q, 0, none⟩)] w (SpillTo base q r (ownDoc ownR q uv nv) S F s run nos told w) := by
  unfold SpillTo spillD
  simp only []
  have HC := Lib.hid (refCreate_any h.disk hfit.small hS)
  have c0 := h.c0
  have H := Lib.hid h
  have HFit := Lib.hid hfit
  have HNl := Lib.hid hnl
  have HSl := Lib.hid hS
  by_cases hE : createE S s = 0
  case neg =>
    rw [if_pos hE]
    obtain ⟨E, hEe⟩ : ∃ E, E = createE S s := ⟨_, rfl⟩
    rw [← hEe] at HC hE ⊢
    have g1 : (E != 0) = true := by simpa using hE
    clear h hfit hnl hS hEe hE
    go_enter Tryz.func64, Tryz.ntmps64
    go_wp2_with fail
    refine HC.out.mono ?_
    rintro e w1 ⟨rfl, hl⟩
    have HL := Lib.hid (H.out.call hl)
    clear hl
    go_wp2_with fail
    go_ret
    exact ⟨_, _, rfl, HL.out, fun h0 => by rw [h0] at g1; cases g1⟩
  case pos =>
  rw [if_neg (by rw [hE]; decide)]
  obtain ⟨no, hno⟩ : ∃ no, no = createN S s := ⟨_, rfl⟩
  obtain ⟨d0, hd0⟩ : ∃ d0, d0 = createS S s := ⟨_, rfl⟩
  rw [hE, ← hno, ← hd0] at HC
  rw [← hno, ← hd0]
  obtain ⟨L, hL⟩ : ∃ L, L = sortL F run := ⟨_, rfl⟩
  obtain ⟨Q, hQ⟩ : ∃ Q, Q = writeAll S no d0 L := ⟨_, rfl⟩
  rw [← hL, ← hQ]
  obtain ⟨R, hR⟩ : ∃ R : SpD × Int, R = (if Q.2 ≠ 0 then (⟨Q.1, run, nos.map fresh⟩, Q.2) else (⟨Q.1, [], nos.map fresh ++ [fresh no]⟩, 0)) := ⟨_, rfl⟩
  rw [← hR]
  have HR := Lib.hid hR
  have HL := Lib.hid hL
  have HQ := Lib.hid hQ
  have hTl : s.T.length < 64 := by unfold createE at hE; split at hE; cases hE; omega
  have hd0' : d0 = { cntS S s with T := s.T ++ [([], true)] } := by
    have hc : cntE S s = 0 := by unfold createE at hE; rwa [if_neg (by omega)] at hE
    rw [hd0]; unfold createS; rw [if_neg (by omega), if_pos hc]
  have hno' : no = (s.T.length : Int) + 1 := by rw [hno]; unfold createN; rw [if_pos hE]
  have hfa : fileAt d0.T no = some [] := by rw [hd0', hno']; exact fileAt_new s.T []
  have HFa := Lib.hid hfa
  have HD0 := Lib.hid hd0'
  clear h hfit hnl hS hE hno hd0 hno' hfa hd0' hL hQ hR
  go_enter Tryz.func64, Tryz.ntmps64
  go_wp2_with fail
  refine HC.out.mono ?_
  rintro e w1 ⟨rfl, hl⟩
  obtain ⟨ownR1, uv1, nv1, h1, ho1, hf1⟩ := H.out.call hl
  have c3 := h1.c3
  have z3 := h1.froz 3
  obtain ⟨na, nc, rfl⟩ := owns_slice h1.nos
  obtain ⟨ua, uc, rfl⟩ := owns_slice h1.run
  have H1 := Lib.hid h1
  have HO1 := Lib.hid ho1
  have HF1 := Lib.hid hf1
  obtain ⟨i3, hi3, y0, y1, y2⟩ := info_parts Tryz.info3b
  have I3 := Lib.hid hi3
  have Y0 := Lib.hid y0
  have Y1 := Lib.hid y1
  have Y2 := Lib.hid y2
  clear hl h1 ho1 hf1 c0 hi3 y0 y1 y2 HC
  go_wp2_with (at_builtin; refine wpList_append_own_at _ rfl _ _ 38 rfl base 3 i3 (.int .i64 0) 1 8 Tryz.underlying38 I3.out Y0.out Y1.out Y2.out rfl (by decide) _ _ _ rfl (H1.out.below ((Below.refl w1.heap.size w1).alloc (Nat.le_refl _) (.cells #[.int .i64 no] 3))).nos ⟨w1.heap.size, 0, none⟩ 1 1 [.int .i64 no] rfl rfl (cell_one_new _ _ _) (by simp [Value.oneCell']) ?p1 ?p2 ?p3 ?_)
  case p1 => unfold maxLen; have := HNl.out; omega
  case p2 => have := HNl.out; omega
  case p3 => have h := H1.out.lt; have h2 := H1.out.low; simp; omega
  intro nv2 w2 ho hg _ hl
  have hba : Below w1.heap.size w1 (w1.alloc (.cells #[.int .i64 no] 3)) := (Below.refl w1.heap.size w1).alloc (Nat.le_refl _) _
  have hf2 : Frame (fun k => (Value.slice na nos.length nc).ownBlock = some k) w1 w2 := (Below.toFrame hba _).grown hg (fun k _ e => e)
  have ho2 : w2.ownsRow base 3 1 nv2 (nos ++ [no]).length ((nos ++ [no]).map (Value.int .i64)) := by rw [List.length_append, List.map_append]; exact ho
  have hl2 : ∀ k, nv2.ownBlock = some k → (Value.slice na nos.length nc).ownBlock = some k ∨ w1.heap.size ≤ k := fun k hk => by
    rcases hl with hl | hl
    · exact .inl (hl ▸ hk)
    · rw [hl] at hk
      have hk := Option.some.inj hk
      exact .inr (by first | omega | (simp at hk; omega))
  have h2 := H1.out.putNos hf2 ho2 (fun k hk => by
    rcases hl2 k hk with e | e
    · exact H1.out.on k e
    · refine ⟨Classical.byContradiction fun h0 => ?_, fun e2 => ?_, fun e2 => ?_⟩
      · have := (H1.out.disk.bnd k h0).2; omega
      · have := H1.out.lt; omega
      · have := (H1.out.run.lt k e2).2; omega)
  obtain ⟨na2, nc2, rfl⟩ := owns_slice ho
  have hz : w2.heap[q]? = _ := hf2.heap H1.out.heap (fun e => (H1.out.on q e).2.1 rfl)
  have z3 : w2.frozen? ⟨q, 3, none⟩ = false := by simp [World.frozen?, hz]
  have c3 : w2.cell? ⟨q, 3, none⟩ = some (.slice na nos.length nc) := by rw [cell_of_row _ _ _ _ _ _ hz]; rfl
  have hlow1 : ∀ k, k < w.heap.size → ownDoc ownR1 q (.slice ua run.length uc) (.slice na2 (nos.length + 1) nc2) k → ownDoc ownR q uv nv k := fun k hk e => by
    rcases e with e | e | e | e
    · exact HO1.out k hk (.inl e)
    · exact HO1.out k hk (.inr (.inl e))
    · exact HO1.out k hk (.inr (.inr (.inl e)))
    · rcases hl2 k e with e | e
      · exact HO1.out k hk (.inr (.inr (.inr e)))
      · have := HF1.out.size; omega
  have hfr3 : Frame (ownDoc ownR q uv nv) w (w2.setCell ⟨q, 3, none⟩ (.slice na2 (nos.length + 1) nc2)) := HF1.out.then (hf2.mono (fun k _ e => .inr e) |>.trans ((Frame.cell w2 ⟨q, 3, none⟩ _).mono (fun k _ e => .inl e)) : Frame (fun k => k = q ∨ (Value.slice na nos.length nc).ownBlock = some k) w1 _) (fun k hk e => by
    rcases e with e | e
    · exact .inr (.inl e)
    · exact HO1.out k hk (.inr (.inr (.inr e))))
  have HLow1 := Lib.hid hlow1
  clear hba hf2 ho2 hl2 hz hlow1 hl hg ho
  go_upto_region 5 with fail
  generalize w2.setCell ⟨q, 3, none⟩ (.slice na2 (nos.length + 1) nc2) = W3 at h2 hfr3 ⊢
  have c2 := h2.c2
  have hsd := docSorted_any q F (.slice ua run.length uc) run W3 h2.c1 (isTexts_of_owns h2.run) (by have := HFit.out.l; omega)
  rw [← HL.out] at hsd
  have HSd := Lib.hid hsd
  have H2 := Lib.hid h2
  have HF3 := Lib.hid hfr3
  clear c3 z3 hsd h2 hfr3 H1 HF1 HO1
  go_wp2_with fail
  refine HSd.out.mono ?_
  rintro e w4 ⟨rv, rfl, hown4, hb4⟩
  obtain ⟨ra, rc, rfl⟩ := owns_slice hown4
  obtain ⟨own2, hown2⟩ : ∃ own2, own2 = ownDoc ownR1 q (.slice ua run.length uc) (.slice na2 (nos.length + 1) nc2) := ⟨_, rfl⟩
  have hb2 := H2.out.bnd
  have hleft := H2.out.left (Below.refl _ _)
  rw [← hown2] at hb2
  have HLow := Lib.hid HLow1.out
  rw [← hown2] at HLow
  have HTx := Lib.hid (isTexts_of_owns hown4)
  have HOwn4 := Lib.hid hown2
  have HBn2 := Lib.hid hb2
  have HB4 := Lib.hid hb4
  have HD4 := Lib.hid (H2.out.below hb4)
  clear hown4 hb4 hb2 hleft c2 HSd HLow1
  go_wp2_with fail
  go_loopw [6] (fun iv wr => ∃ i : Nat, iv = .int .i64 i ∧ i ≤ L.length ∧ RowKit.Hid ((writeAll S no d0 (L.take i)).2 = 0 ∧ DocLeft base q r own2 S F (writeAll S no d0 (L.take i)).1 run (nos ++ [no]) told w4 wr)) (fun iv _ => L.length - (intOf iv).toNat)
  case atStart => exact ⟨0, rfl, Nat.zero_le _, Lib.hid ⟨rfl, _, _, _, HD4.out, fun k _ e => by rw [HOwn4.out]; exact e, Frame.refl _ _⟩⟩
  case round =>
    obtain ⟨i, rfl, hi, HI⟩ := hrel
    have hll : L.length ≤ 4501 := by rw [HL.out, sortL_length]; exact HFit.out.l
    have q1 : (0 : Int) ≤ (i : Int) := by omega
    have q3 : (i : Int) ≤ 4501 := by omega
    obtain ⟨h0, ownR', uv', nv', h', ho', hf'⟩ := HI.out
    have c0 := h'.c0
    by_cases hlt : i < L.length
    · obtain ⟨l, hl⟩ : ∃ l, L[i]? = some l := ⟨L[i], by simp⟩
      obtain ⟨_, _, e, hcl⟩ := HTx.out.frame hf' (fun k hk e => by have := (HBn2.out k e).2; omega)
      cases e
      obtain ⟨gb, off, rfl, -, cl⟩ := hcl i l hl
      have q2 : (i : Int) < (L.length : Int) := by omega
      obtain ⟨SL, hSL⟩ : ∃ S : ByteArray, strV l = .string S := ⟨_, rfl⟩
      rw [hSL] at cl
      have hfl := HFit.out.f.perm (sortL_perm F run).symm
      rw [← HL.out] at hfl
      have hl64 := (hfl l (List.mem_of_getElem? hl)).1
      have hadd := add_fits (S := SL) (T := ⟨#[10]⟩) (by rw [strV_size hSL]; omega) (by decide)
      have hadd2 : (9223372036854775807 < SL.size + 1) = False := by have := strV_size hSL; simp; omega
      have hadd3 : SL.size ≤ 64 := by rw [strV_size hSL]; exact hl64
      have hcat : strV (l ++ [10]) = .string (SL ++ ⟨#[10]⟩) := strV_add hSL rfl
      obtain ⟨bs, hbs⟩ : ∃ bs, bs = l ++ [10] := ⟨_, rfl⟩
      obtain ⟨ca, w5, hcv, -, hby, hb5⟩ := conv_str bs wr.drew
      rw [← hbs] at hcat
      rw [hcat] at hcv
      obtain ⟨k1, k2, k3, k4, -⟩ := writeAll_is (S := S) no (L.take i) d0 [] (fun x hx => hfl x (List.mem_of_mem_take hx)) HFa.out
      obtain ⟨D, hD⟩ : ∃ D, D = (writeAll S no d0 (L.take i)).1 := ⟨_, rfl⟩
      obtain ⟨z1, z2⟩ := writeAll_step hl h0
      rw [← hD] at h' k1 k2 k4 z1 z2
      rw [← hbs] at z1 z2
      have hsm : Small D := by
        have e0 : d0.n = s.n + 1 ∧ d0.T.length = s.T.length + 1 := by rw [HD0.out]; exact ⟨rfl, by simp⟩
        have f1 := HFit.out.n
        have f2 := HFit.out.t
        refine ⟨by rw [List.length_take] at k1; omega, by omega, fun x hx => ?_⟩
        refine Nat.le_trans (k4 500000 (fun y hy => ?_) ?_ x hx) (by decide)
        · rw [HD0.out] at hy
          simp only [List.mem_append, List.mem_singleton] at hy
          rcases hy with hy | rfl
          · exact f2 y hy
          · simp
        · have := weight_le (L := L.take i) (fun x hx => (hfl x (List.mem_of_mem_take hx)).1)
          rw [List.length_take] at this
          simp
          omega
      have hbw : Below wr.heap.size wr w5 := (Below.refl _ _).drew.trans hb5
      have c05 := Pm.Below.cell hbw c0
      have cl5 := Pm.Below.cell hbw cl
      have hwr := refWrite_any (h'.disk.below hbw) hsm HSl.out no _ bs hby (fun k hk => Classical.byContradiction fun e => by have := (h'.disk.bnd k e).2; have hk : wr.heap.size ≤ k := hk; omega)
      obtain ⟨E, hE⟩ : ∃ E, E = writeE S D no bs := ⟨_, rfl⟩
      obtain ⟨D', hD'⟩ : ∃ D', D' = writeS S D no bs := ⟨_, rfl⟩
      rw [← hE, ← hD'] at hwr z1 z2
      have HWr := Lib.hid hwr
      have H' := Lib.hid h'
      have HO' := Lib.hid ho'
      have HF' := Lib.hid hf'
      have HBw := Lib.hid hbw
      have HZ1 := Lib.hid z1
      have HZ2 := Lib.hid z2
      have HLt := Lib.hid hlt
      clear h0 h' ho' hf' hcl hl hSL hfl hl64 hcat hby hb5 k1 k2 k3 k4 hD z1 z2 hsm hbw hwr hE hD' hlt hi hll HI hbs
      go_upto_region 9 with fail
      go_cut [7] (fun ev W => ev = .int .i64 E ∧ RowKit.Hid (DocLeft base q r own2 S F D' run (nos ++ [no]) told w4 W))
      case first =>
        go_region_with (go_at_call 89; refine HWr.out.mono ?_; rintro e w6 ⟨rfl, hl6⟩; have HL6 := Lib.hid hl6; clear hl6)
        all_goals
          go_wp2_with fail
          go_meet
          case rel => exact ⟨rfl, Lib.hid (DocLeft.then (HF'.out.trans (Below.toFrame HBw.out _)) HO'.out ((H'.out.below HBw.out).call HL6.out))⟩
      case rest =>
        obtain ⟨rfl, HDl⟩ := hcut
        by_cases hE0 : E = 0
        · have g1 : (E != 0) = false := by simpa using hE0
          have HZ := Lib.hid (HZ2.out hE0)
          clear hE0 c0 cl hcv hadd hadd2 c05 cl5
          go_wp2_with fail
          go_roundw
          case rel => exact ⟨i + 1, by go_num, HLt.out, Lib.hid ⟨by rw [HZ.out], by rw [HZ.out]; exact HDl.out⟩⟩
          case measure => have := HLt.out; simp [intOf]; omega
        · have g1 : (E != 0) = true := by simpa using hE0
          have hr : R = (⟨D', run, nos.map fresh⟩, E) := by rw [HR.out, HQ.out, HZ1.out hE0]; exact if_pos hE0
          have HRr := Lib.hid hr
          have HE0 := Lib.hid hE0
          clear hE0 c0 cl hcv hadd hadd2 c05 cl5 hr
          go_wp2_with fail
          go_ret
          refine ⟨run, nos ++ [no], by rw [HRr.out]; rfl, ?_, fun h0 => ?_⟩
          · rw [HRr.out]
            exact DocLeft.then (HF3.out.trans (Below.toFrame HB4.out _)) HLow.out HDl.out
          · rw [HRr.out] at h0
            exact absurd h0 HE0.out
    · have q2 : ¬ (i : Int) < (L.length : Int) := by omega
      have e : L.take i = L := List.take_of_length_le (by omega)
      rw [e, ← HQ.out] at h0 h'
      have c2 := h'.c2
      have z2 := h'.froz 2
      have hd := h'.putRun (Frame.refl _ _) (run' := []) (v' := .slice none 0 0) (World.ownsRow_nil wr base 9 1) (fun k hk => by cases hk)
      have hr : R = (⟨Q.1, [], nos.map fresh ++ [fresh no]⟩, 0) := by rw [HR.out]; exact if_neg (by rw [h0]; decide)
      have hq2 : own2 q := by rw [HOwn4.out]; exact .inr (.inl rfl)
      have hfin : DocLeft base q r own2 S F Q.1 [] (nos ++ [no]) told w4 (wr.setCell ⟨q, 2, none⟩ (.slice none 0 0)) := ⟨ownR', _, nv', hd, fun k hk e => by
        rcases e with e | e | e | e
        · exact ho' k hk (.inl e)
        · exact ho' k hk (.inr (.inl e))
        · cases e
        · exact ho' k hk (.inr (.inr (.inr e))), hf'.then (Frame.cell wr ⟨q, 2, none⟩ (.slice none 0 0)) (fun k _ e => by have e' : k = q := e; rw [e']; exact hq2)⟩
      have HRr := Lib.hid hr
      have HFin := Lib.hid hfin
      clear h0 h' ho' hf' hd hr hq2 hfin e hll hi hlt HI
      go_wp2_with fail
      go_ret
      refine ⟨by rw [HRr.out]; rfl, [], nos ++ [no], ?_, fun _ => ⟨rfl, rfl⟩⟩
      rw [HRr.out]
      exact DocLeft.then (HF3.out.trans (Below.toFrame HB4.out _)) HLow.out HFin.out
end

end Go.Proofs.YtpgigpajpcianaaGreatDoor

namespace Go.Proofs.YtpgigpajpcianaaGreatDoor
open Go.RowKit

def TakeTo (base q r : Nat) (own : Nat → Prop) (S : Script) (F : Bool) (s : DSt) (run : Lines) (nos : List Int) (told : List UInt8) (l : List UInt8) (w : World) (e : Ending) (w' : World) : Prop :=
  e = .returned (.int .i64 (takeD S F ⟨s, run, nos.map fresh⟩ l).2) ∧ ∃ run' nos', DocLeft base q r own S F (takeD S F ⟨s, run, nos.map fresh⟩ l).1.d run' nos' told w w' ∧
    ((takeD S F ⟨s, run, nos.map fresh⟩ l).2 = 0 → run' = (takeD S F ⟨s, run, nos.map fresh⟩ l).1.run ∧ nos'.map fresh = (takeD S F ⟨s, run, nos.map fresh⟩ l).1.rs)
section
variable {base q r : Nat} {ownR : Nat → Nat} {S : Script} {F : Bool} {s : DSt} {run : Lines} {nos : List Int} {told : List UInt8} {uv nv : Value} {w : World}
theorem spill_plain {S : Script} {F : Bool} {x : SpD} (h : (spillD S F x).2 = 0) : (spillD S F x).1.run = [] ∧ (spillD S F x).1.rs = x.rs ++ [fresh (createN S x.d)] := by
  unfold spillD at h ⊢
  by_cases h1 : createE S x.d ≠ 0
  · rw [if_pos h1] at h
    exact absurd h h1
  · rw [if_neg h1] at h ⊢
    by_cases h2 : (writeAll S (createN S x.d) (createS S x.d) (sortL F x.run)).2 ≠ 0
    · rw [if_pos h2] at h
      exact absurd h h2
    · rw [if_neg h2]
      exact ⟨rfl, rfl⟩
set_option maxRecDepth 100000 in
set_option maxHeartbeats 8000000 in
theorem docTake_any (h : DocAt base q r ownR S F s run nos told uv nv w) (hfit : FitD s run) (hnl : nos.length ≤ 64) (hS : S.length ≤ 1000000) (l : List UInt8) (hl : l.length ≤ 64) :
    Calls Tryz.prog 41 #[.pointer (some ⟨q, 0, none⟩), strV l] w (TakeTo base q r (ownDoc ownR q uv nv) S F s run nos told l w) := by
  obtain ⟨SL, hSL⟩ : ∃ S : ByteArray, strV l = .string S := ⟨_, rfl⟩
  have hz := strV_size hSL
  obtain ⟨ua, uc, rfl⟩ := owns_slice h.run
  have hsp := docSpill_any h hfit (by omega) hS
  have hwt := docWeight_any _ run w (isTexts_of_owns h.run) (by have := hfit.l; omega) (fun x hx => (hfit.f x hx).1)
  have hwl := weight_le (L := run) (fun x hx => (hfit.f x hx).1)
  have c2 := h.c2
  have HSL := Lib.hid hSL
  have H := Lib.hid h
  have HFit := Lib.hid hfit
  have HSp := Lib.hid hsp
  have HWt := Lib.hid hwt
  unfold TakeTo
  obtain ⟨R, hR⟩ : ∃ R, R = takeD S F ⟨s, run, nos.map fresh⟩ l := ⟨_, rfl⟩
  rw [← hR, hSL]
  have HR := Lib.hid hR
  by_cases hbig : 256 < weightL run + l.length + 1
  · have hn : run ≠ [] := fun e => by rw [e] at hbig; simp [weightL] at hbig; omega
    have q2 : (256 : Int) < (weightL run : Nat) + (SL.size : Int) + 1 := by omega
    obtain ⟨W, hW⟩ : ∃ W, W = weightL run := ⟨_, rfl⟩
    rw [← hW] at q2 hwl HWt
    have q3 : (W : Int) ≤ 65 * 4501 := by have := hfit.l; omega
    have q4 : (SL.size : Int) ≤ 64 := by omega
    have q1 : (0 : Int) < (run.length : Int) := by have := List.length_pos_iff.2 hn; omega
    have q5 : 0 < run.length := by omega
    have q6 : IntKind.i64.wrap ((W : Int) + (SL.size : Int)) = (W : Int) + (SL.size : Int) := by rw [IntKind.wrap_i64]; omega
    have q7 : IntKind.i64.wrap ((W : Int) + (SL.size : Int) + 1) = (W : Int) + (SL.size : Int) + 1 := by rw [IntKind.wrap_i64]; omega
    have hbd := h.bnd
    have hsub := hwt
    unfold takeD at hR
    rw [if_pos hbig] at hR
    obtain ⟨Q, hQ⟩ : ∃ Q, Q = spillD S F ⟨s, run, nos.map fresh⟩ := ⟨_, rfl⟩
    unfold SpillTo at HSp
    rw [← hQ] at HSp hR
    have HQ := Lib.hid hQ
    have HRr := Lib.hid hR
    clear hSL hz h hsp hwt hfit hnl hS hl hR hbig hwl hW hn hQ hsub HR
    go_enter Tryz.func41, Tryz.ntmps41
    go_wp2_with fail
    refine HWt.out.mono ?_
    rintro e w' ⟨rfl, hw'⟩
    have hw' := hw'.symm
    subst hw'
    go_wp2_with fail
    refine HSp.out.mono ?_
    rintro e w1 ⟨run1, nos1, rfl, hl1, hz1⟩
    by_cases h0 : Q.2 = 0
    · obtain ⟨hz1, hz2⟩ := hz1 h0
      obtain ⟨ownR1, uv1, nv1, h1, ho1, hf1⟩ := hl1
      obtain ⟨ua1, uc1, rfl⟩ := owns_slice h1.run
      have g1 : (Q.2 != 0) = false := by rw [h0]; rfl
      have hr : R = (⟨Q.1.d, Q.1.run ++ [l], Q.1.rs⟩, 0) := by rw [HRr.out]; exact if_neg (by rw [h0]; decide)
      have hsp := spill_plain (S := S) (F := F) (x := ⟨s, run, nos.map fresh⟩) (by rw [← HQ.out]; exact h0)
      rw [← HQ.out] at hsp
      have HR0 := Lib.hid (show run1.length ≤ 4501 by rw [hz1]; decide)
      have HRn := Lib.hid (show run1 = Q.1.run by rw [hz1]; exact hsp.1.symm)
      have HRs := Lib.hid (show nos1.map fresh = Q.1.rs by rw [hz2, List.map_append]; exact hsp.2.symm)
      have HRr2 := Lib.hid hr
      have c2 := h1.c2
      have H1 := Lib.hid h1
      have HO1 := Lib.hid ho1
      have HF1 := Lib.hid hf1
      obtain ⟨D1, hD1⟩ : ∃ D1, D1 = Q.1.d := ⟨_, rfl⟩
      rw [← hD1] at H1
      have HD1 := Lib.hid hD1
      clear hz1 hz2 hr hsp h1 ho1 hf1 h0 hD1 HSp HWt
      go_upto_region 5 with fail
      go_wp2_with (at_builtin; refine wpList_append_lines rfl (.tmp 33) (.tmp 35) rfl base _ _ run1 [l] rfl (H1.out.below ((Below.refl w1.heap.size w1).alloc (Nat.le_refl _) (.cells #[.string SL] 9))).run rfl (text_new w1 l SL HSL.out _) ?p1 ?p2 ?_)
      case p1 => have := HR0.out; simp; omega
      case p2 => have h := H1.out.lt; have h2 := H1.out.low; simp; omega
      intro v2 w2 ho hg hl
      have hba : Below w1.heap.size w1 (w1.alloc (.cells #[.string SL] 9)) := (Below.refl w1.heap.size w1).alloc (Nat.le_refl _) _
      have hf2 : Frame (fun k => (Value.slice ua1 run1.length uc1).ownBlock = some k) w1 w2 := (Below.toFrame hba _).grown hg (fun k _ e => e)
      have hl2 : ∀ k, v2.ownBlock = some k → (Value.slice ua1 run1.length uc1).ownBlock = some k ∨ w1.heap.size ≤ k := fun k hk => by
        rcases hl with hl | hl
        · exact .inl (hl ▸ hk)
        · rw [hl] at hk
          have hk := Option.some.inj hk
          exact .inr (by first | omega | (simp at hk; omega))
      obtain ⟨R1, hR1⟩ : ∃ R1, R1 = run1 ++ [l] := ⟨_, rfl⟩
      have ho2 : w2.ownsRow base 9 1 v2 R1.length (R1.map strV) := by rw [hR1]; simpa using ho
      have h2 := H1.out.putRun hf2 ho2 (fun k hk => by
        rcases hl2 k hk with e | e
        · exact ⟨(H1.out.ou k e).1, (H1.out.ou k e).2, fun e2 => (H1.out.on k e2).2.2 e⟩
        · refine ⟨Classical.byContradiction fun h0 => ?_, fun e2 => ?_, fun e2 => ?_⟩
          · have := (H1.out.disk.bnd k h0).2; omega
          · have := H1.out.lt; omega
          · have := (H1.out.nos.lt k e2).2; omega)
      have hleft : DocLeft base q r (ownDoc ownR1 q (.slice ua1 run1.length uc1) nv1) S F D1 R1 nos1 told w1 (w2.setCell ⟨q, 2, none⟩ v2) := ⟨ownR1, v2, nv1, h2, fun k hk e => by
          rcases e with e | e | e | e
          · exact .inl e
          · exact .inr (.inl e)
          · rcases hl2 k e with e | e
            · exact .inr (.inr (.inl e))
            · omega
          · exact .inr (.inr (.inr e)), (hf2.mono (fun k _ e => .inr (.inr (.inl e)))).trans ((Frame.cell w2 ⟨q, 2, none⟩ v2).mono (fun k _ e => .inr (.inl e)))⟩
      obtain ⟨va2, vc2, rfl⟩ := owns_slice ho2
      have hz : w2.heap[q]? = _ := hf2.heap H1.out.heap (fun e => (H1.out.ou q e).2 rfl)
      have z2 : w2.frozen? ⟨q, 2, none⟩ = false := by simp [World.frozen?, hz]
      have c2 : w2.cell? ⟨q, 2, none⟩ = some (.slice ua1 run1.length uc1) := by rw [cell_of_row _ _ _ _ _ _ hz]; rfl
      have HLeft := Lib.hid hleft
      have HR1 := Lib.hid hR1
      clear hba hf2 hl2 ho ho2 h2 hleft hz hg hl hR1
      go_wp2_with fail
      go_ret
      exact ⟨by rw [HRr2.out]; rfl, R1, nos1, by rw [HRr2.out]; show DocLeft base q r _ S F Q.1.d R1 nos1 told w _; rw [← HD1.out]; exact DocLeft.then HF1.out HO1.out HLeft.out, fun _ => by rw [HRr2.out]; exact ⟨by rw [HR1.out, HRn.out], HRs.out⟩⟩
    · have g1 : (Q.2 != 0) = true := by simpa using h0
      have hr : R = Q := by rw [HRr.out]; exact if_pos h0
      have HRr2 := Lib.hid hr
      have HL1 := Lib.hid hl1
      have H0 := Lib.hid h0
      clear hr hl1 hz1 h0
      go_wp2_with fail
      go_ret
      refine ⟨by rw [HRr2.out]; rfl, run1, nos1, by rw [HRr2.out]; exact HL1.out, fun h0 => ?_⟩
      rw [HRr2.out] at h0
      exact absurd h0 H0.out
  · have hr : R = (⟨s, run ++ [l], nos.map fresh⟩, 0) := by rw [hR]; unfold takeD; exact if_neg hbig
    have HRr := Lib.hid hr
    have HR0 := Lib.hid (show run.length ≤ 4501 from hfit.l)
    have q2 : ¬ (256 : Int) < (weightL run : Nat) + (SL.size : Int) + 1 := by omega
    obtain ⟨W, hW⟩ : ∃ W, W = weightL run := ⟨_, rfl⟩
    rw [← hW] at q2 hwl HWt
    have q3 : (W : Int) ≤ 65 * 4501 := by have := hfit.l; omega
    have q4 : (SL.size : Int) ≤ 64 := by omega
    by_cases hn : run = []
    · have q1 : ¬ (0 : Int) < (run.length : Int) := by rw [hn]; simp
      have q5 : ¬ 0 < run.length := by rw [hn]; simp
      clear hSL hz h hsp hwt hfit hnl hS hl hR hbig hr hwl hW hn
      go_enter Tryz.func41, Tryz.ntmps41
      go_upto_region 5 with fail
      go_wp2_with (at_builtin; refine wpList_append_lines rfl (.tmp 33) (.tmp 35) rfl base _ _ run [l] rfl (H.out.below ((Below.refl w.heap.size w).alloc (Nat.le_refl _) (.cells #[.string SL] 9))).run rfl (text_new w l SL HSL.out _) ?p1 ?p2 ?_)
      case p1 => have := HR0.out; simp; omega
      case p2 => have h := H.out.lt; have h2 := H.out.low; simp; omega
      intro v2 w2 ho hg hl
      have hba : Below w.heap.size w (w.alloc (.cells #[.string SL] 9)) := (Below.refl w.heap.size w).alloc (Nat.le_refl _) _
      have hf2 : Frame (fun k => (Value.slice ua run.length uc).ownBlock = some k) w w2 := (Below.toFrame hba _).grown hg (fun k _ e => e)
      have hl2 : ∀ k, v2.ownBlock = some k → (Value.slice ua run.length uc).ownBlock = some k ∨ w.heap.size ≤ k := fun k hk => by
        rcases hl with hl | hl
        · exact .inl (hl ▸ hk)
        · rw [hl] at hk
          have hk := Option.some.inj hk
          exact .inr (by first | omega | (simp at hk; omega))
      obtain ⟨R1, hR1⟩ : ∃ R1, R1 = run ++ [l] := ⟨_, rfl⟩
      have ho2 : w2.ownsRow base 9 1 v2 R1.length (R1.map strV) := by rw [hR1]; simpa using ho
      have h2 := H.out.putRun hf2 ho2 (fun k hk => by
        rcases hl2 k hk with e | e
        · exact ⟨(H.out.ou k e).1, (H.out.ou k e).2, fun e2 => (H.out.on k e2).2.2 e⟩
        · refine ⟨Classical.byContradiction fun h0 => ?_, fun e2 => ?_, fun e2 => ?_⟩
          · have := (H.out.disk.bnd k h0).2; omega
          · have := H.out.lt; omega
          · have := (H.out.nos.lt k e2).2; omega)
      have hleft : DocLeft base q r (ownDoc ownR q (.slice ua run.length uc) nv) S F s R1 nos told w (w2.setCell ⟨q, 2, none⟩ v2) := ⟨ownR, v2, nv, h2, fun k hk e => by
          rcases e with e | e | e | e
          · exact .inl e
          · exact .inr (.inl e)
          · rcases hl2 k e with e | e
            · exact .inr (.inr (.inl e))
            · omega
          · exact .inr (.inr (.inr e)), (hf2.mono (fun k _ e => .inr (.inr (.inl e)))).trans ((Frame.cell w2 ⟨q, 2, none⟩ v2).mono (fun k _ e => .inr (.inl e)))⟩
      obtain ⟨va2, vc2, rfl⟩ := owns_slice ho2
      have hz : w2.heap[q]? = _ := hf2.heap H.out.heap (fun e => (H.out.ou q e).2 rfl)
      have z2 : w2.frozen? ⟨q, 2, none⟩ = false := by simp [World.frozen?, hz]
      have c2 : w2.cell? ⟨q, 2, none⟩ = some (.slice ua run.length uc) := by rw [cell_of_row _ _ _ _ _ _ hz]; rfl
      have HLeft := Lib.hid hleft
      have HR1 := Lib.hid hR1
      clear hba hf2 hl2 ho ho2 h2 hleft hz hg hl hR1
      go_wp2_with fail
      go_ret
      exact ⟨by rw [HRr.out]; rfl, _, _, by rw [HRr.out]; exact HLeft.out, fun _ => by rw [HRr.out]; exact ⟨HR1.out, rfl⟩⟩
    · have q1 : (0 : Int) < (run.length : Int) := by have := List.length_pos_iff.2 hn; omega
      have q5 : 0 < run.length := by omega
      have q6 : IntKind.i64.wrap ((W : Int) + (SL.size : Int)) = (W : Int) + (SL.size : Int) := by rw [IntKind.wrap_i64]; omega
      have q7 : IntKind.i64.wrap ((W : Int) + (SL.size : Int) + 1) = (W : Int) + (SL.size : Int) + 1 := by rw [IntKind.wrap_i64]; omega
      clear hSL hz h hsp hwt hfit hnl hS hl hR hbig hr hwl hW hn
      go_enter Tryz.func41, Tryz.ntmps41
      go_wp2_with fail
      refine HWt.out.mono ?_
      rintro e w' ⟨rfl, hw'⟩
      have hw' := hw'.symm
      subst hw'
      go_upto_region 5 with fail
      go_wp2_with (at_builtin; refine wpList_append_lines rfl (.tmp 33) (.tmp 35) rfl base _ _ run [l] rfl (H.out.below ((Below.refl w.heap.size w).alloc (Nat.le_refl _) (.cells #[.string SL] 9))).run rfl (text_new w l SL HSL.out _) ?p1 ?p2 ?_)
      case p1 => have := HR0.out; simp; omega
      case p2 => have h := H.out.lt; have h2 := H.out.low; simp; omega
      intro v2 w2 ho hg hl
      have hba : Below w.heap.size w (w.alloc (.cells #[.string SL] 9)) := (Below.refl w.heap.size w).alloc (Nat.le_refl _) _
      have hf2 : Frame (fun k => (Value.slice ua run.length uc).ownBlock = some k) w w2 := (Below.toFrame hba _).grown hg (fun k _ e => e)
      have hl2 : ∀ k, v2.ownBlock = some k → (Value.slice ua run.length uc).ownBlock = some k ∨ w.heap.size ≤ k := fun k hk => by
        rcases hl with hl | hl
        · exact .inl (hl ▸ hk)
        · rw [hl] at hk
          have hk := Option.some.inj hk
          exact .inr (by first | omega | (simp at hk; omega))
      obtain ⟨R1, hR1⟩ : ∃ R1, R1 = run ++ [l] := ⟨_, rfl⟩
      have ho2 : w2.ownsRow base 9 1 v2 R1.length (R1.map strV) := by rw [hR1]; simpa using ho
      have h2 := H.out.putRun hf2 ho2 (fun k hk => by
        rcases hl2 k hk with e | e
        · exact ⟨(H.out.ou k e).1, (H.out.ou k e).2, fun e2 => (H.out.on k e2).2.2 e⟩
        · refine ⟨Classical.byContradiction fun h0 => ?_, fun e2 => ?_, fun e2 => ?_⟩
          · have := (H.out.disk.bnd k h0).2; omega
          · have := H.out.lt; omega
          · have := (H.out.nos.lt k e2).2; omega)
      have hleft : DocLeft base q r (ownDoc ownR q (.slice ua run.length uc) nv) S F s R1 nos told w (w2.setCell ⟨q, 2, none⟩ v2) := ⟨ownR, v2, nv, h2, fun k hk e => by
          rcases e with e | e | e | e
          · exact .inl e
          · exact .inr (.inl e)
          · rcases hl2 k e with e | e
            · exact .inr (.inr (.inl e))
            · omega
          · exact .inr (.inr (.inr e)), (hf2.mono (fun k _ e => .inr (.inr (.inl e)))).trans ((Frame.cell w2 ⟨q, 2, none⟩ v2).mono (fun k _ e => .inr (.inl e)))⟩
      obtain ⟨va2, vc2, rfl⟩ := owns_slice ho2
      have hz : w2.heap[q]? = _ := hf2.heap H.out.heap (fun e => (H.out.ou q e).2 rfl)
      have z2 : w2.frozen? ⟨q, 2, none⟩ = false := by simp [World.frozen?, hz]
      have c2 : w2.cell? ⟨q, 2, none⟩ = some (.slice ua run.length uc) := by rw [cell_of_row _ _ _ _ _ _ hz]; rfl
      have HLeft := Lib.hid hleft
      have HR1 := Lib.hid hR1
      clear hba hf2 hl2 ho ho2 h2 hleft hz hg hl hR1
      go_wp2_with fail
      go_ret
      exact ⟨by rw [HRr.out]; rfl, _, _, by rw [HRr.out]; exact HLeft.out, fun _ => by rw [HRr.out]; exact ⟨HR1.out, rfl⟩⟩
end

end Go.Proofs.YtpgigpajpcianaaGreatDoor
