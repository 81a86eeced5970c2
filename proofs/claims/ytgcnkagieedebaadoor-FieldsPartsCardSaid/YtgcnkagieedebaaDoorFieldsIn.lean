/- The document's fields of a line, and what comes of it. -/
import Derived.Test.YtgcnkagieedebaaDoorFieldsTell
import Derived.Test.YtgcnkagieedebaaDoorGbegins
import Derived.Laws.OwnMore
import Derived.StillTailTactics
import Derived.Outline
namespace Go.Proofs.YtgcnkagieedebaaDoor
open Go.RowKit

theorem partsL_snoc_same (a : UInt8) : ∀ y : List UInt8, partsL a (y ++ [a]) = partsL a y ++ [[]]
  | [] => by rw [List.nil_append, partsL_same]; rfl
  | d :: r => by
    have ih := partsL_snoc_same a r
    rw [List.cons_append]
    by_cases hd : d = a
    · subst hd
      rw [partsL_same, partsL_same, ih]
      rfl
    · rw [partsL_other hd, partsL_other hd, ih]
      cases hp : partsL a r with
      | nil => exact absurd hp (partsL_ne a r)
      | cons h t => rfl
theorem partsL_snoc_other {a c : UInt8} (hc : c ≠ a) : ∀ (y l : List UInt8), (partsL a y)[(partsL a y).length - 1]? = some l → partsL a (y ++ [c]) = (partsL a y).set ((partsL a y).length - 1) (l ++ [c])
  | [], l, h => by
    simp only [partsL, List.length_cons, List.length_nil, Nat.zero_add, Nat.sub_self, List.getElem?_cons_zero] at h
    cases h
    rw [List.nil_append, partsL_other hc]
    rfl
  | d :: r, l, h => by
    obtain ⟨p, t, hp⟩ : ∃ p t, partsL a r = p :: t := by
      cases hp : partsL a r with
      | nil => exact absurd hp (partsL_ne a r)
      | cons p t => exact ⟨p, t, rfl⟩
    have ih := partsL_snoc_other hc r
    rw [hp] at ih
    rw [List.cons_append]
    by_cases hd : d = a
    · subst hd
      rw [partsL_same, hp] at h
      rw [partsL_same, partsL_same, hp]
      simp only [List.length_cons, Nat.add_sub_cancel, List.getElem?_cons_succ] at h ih ⊢
      rw [ih l h]
      rfl
    · rw [partsL_other hd, hp] at h
      rw [partsL_other hd, partsL_other hd, hp]
      cases t with
      | nil =>
        simp only [consL, List.length_cons, List.length_nil, Nat.zero_add, Nat.sub_self, List.getElem?_cons_zero] at h ih ⊢
        cases h
        rw [ih p rfl]
        rfl
      | cons q t =>
        simp only [consL, List.length_cons, Nat.add_sub_cancel, List.getElem?_cons_succ] at h ih ⊢
        rw [ih l h]
        rfl
theorem extract_one {x : List UInt8} {j : Nat} {c : UInt8} (h : x[j]? = some c) : (⟨x.toArray⟩ : ByteArray).extract j (j + 1) = ⟨#[c]⟩ := by
  obtain ⟨h1, h2⟩ := List.getElem?_eq_some_iff.1 h
  apply ByteArray.ext
  simp only [ByteArray.data_extract]
  apply Array.toList_inj.1
  simp only [Array.toList_extract, List.extract_eq_take_drop]
  rw [List.drop_eq_getElem_cons h1, h2]
  simp
theorem partsL_part (a : UInt8) : ∀ (x l : List UInt8), l ∈ partsL a x → l.length ≤ x.length
  | [], l, h => by
    rw [partsL, List.mem_singleton] at h
    subst h
    exact Nat.le_refl _
  | d :: r, l, h => by
    have ih := partsL_part a r
    by_cases hd : d = a
    · subst hd
      rw [partsL_same] at h
      rcases List.mem_cons.1 h with rfl | h
      · exact Nat.zero_le _
      · exact Nat.le_succ_of_le (ih l h)
    · rw [partsL_other hd] at h
      cases hp : partsL a r with
      | nil => exact absurd hp (partsL_ne a r)
      | cons p t =>
        rw [hp] at h ih
        rcases List.mem_cons.1 h with rfl | h
        · exact Nat.succ_le_succ (ih p List.mem_cons_self)
        · exact Nat.le_succ_of_le (ih l (List.mem_cons_of_mem _ h))

set_option maxRecDepth 100000 in
set_option maxHeartbeats 2000000 in
theorem fieldsIn_any (x : List UInt8) (a : UInt8) (w : World) (hx : x.length ≤ 64) : Calls Tryd.prog 48 #[strV x, .int .u8 a.toNat] w (OwnTexts w (partsL a x)) := by
  obtain ⟨S, hS⟩ : ∃ S : ByteArray, strV x = .string S := ⟨_, rfl⟩
  have z1 := strV_size hS
  have hS2 : (⟨x.toArray⟩ : ByteArray) = S := by
    unfold strV at hS
    injection hS
  rw [hS]
  have HS2 := Lib.hid hS2
  clear hS hS2
  go_enter Tryd.func48, Tryd.ntmps48
  go_wp2_with fail
  have hown0 : (w.alloc (.cells #[.string { data := #[] }] 9)).ownsRow w.heap.size 9 1 (.slice (some ⟨w.heap.size, 0, none⟩) 1 1) (partsL a []).length ((partsL a []).map strV) := World.ownsRow_lit w #[.string { data := #[] }] 1 (Nat.le_refl _) (by decide) rfl
  have hb0 : Below w.heap.size w (w.alloc (.cells #[.string { data := #[] }] 9)) := (Below.refl _ _).alloc (Nat.le_refl _) _
  generalize w.alloc (.cells #[.string { data := #[] }] 9) = W0 at hown0 hb0 ⊢
  have HOwn0 := Lib.hid hown0
  have HB0 := Lib.hid hb0
  clear hown0 hb0
  go_loopw [5, 6] (fun v iv wr => ∃ j : Nat, iv = .int .i64 j ∧ j ≤ x.length ∧ wr.ownsRow w.heap.size 9 1 v (partsL a (x.take j)).length ((partsL a (x.take j)).map strV) ∧ Below w.heap.size w wr) (fun _ i _ => x.length - (intOf i).toNat)
  case atStart => exact ⟨0, rfl, Nat.zero_le _, HOwn0.out, HB0.out⟩
  case round =>
    obtain ⟨j, rfl, hj, hown, hbr⟩ := hrel
    clear HOwn0 HB0
    obtain ⟨n, hn⟩ : ∃ n, n = (partsL a (x.take j)).length - 1 := ⟨_, rfl⟩
    have hlen : (partsL a (x.take j)).length = n + 1 := by
      have := partsL_len a (x.take j)
      omega
    have hcl := List.count_le_length (a := a) (l := x.take j)
    have hn64 : n ≤ 64 := by
      have := partsL_len a (x.take j)
      have := List.length_take (i := j) (l := x)
      omega
    rw [hlen] at hown
    have hform : ∃ gb cb, u5 = .slice (some ⟨gb, 0, none⟩) (n + 1) cb ∧ w.heap.size ≤ gb := by
      rcases hown.2 with ⟨-, h0⟩ | ⟨g, cap, cur, rfl, hb, _⟩
      · omega
      · exact ⟨g, cap, rfl, hb⟩
    obtain ⟨gb, cb, rfl, hgb⟩ := hform
    have HO := Lib.hid hown
    have HB := Lib.hid hbr
    have HLen := Lib.hid hlen
    clear hown hbr hcl hlen hn
    by_cases hlt : j < x.length
    · obtain ⟨c, hc⟩ : ∃ c, x[j]? = some c := ⟨x[j]'hlt, List.getElem?_eq_getElem hlt⟩
      have hz : j < S.size := by omega
      have hSj : c = S[j]'hz := by
        have e := HS2.out
        subst e
        have := (List.getElem?_eq_some_iff.1 hc).2
        rw [← this]
        rfl
      have q0 : (0 : Int) ≤ (j : Int) := by omega
      have q1 : (j : Int) < (x.length : Int) := by omega
      have hex : S.extract j (j + 1) = ⟨#[c]⟩ := by rw [← HS2.out]; exact extract_one hc
      have htk : x.take (j + 1) = x.take j ++ [c] := take_snoc hc
      have HTk := Lib.hid htk
      by_cases hca : c = a
      · have t1 : ((c.toNat : Int) == (a.toNat : Int)) = true := by rw [hca]; simp
        rw [hSj] at t1
        clear hex hc hSj htk
        obtain ⟨i0, hi, hz0, hz1, hz2⟩ := info_parts Tryd.info9
        have HCA := Lib.hid hca
        clear hca
        go_wp2_with (at_builtin; refine wpList_append_own _ rfl (.tmp 19) (.tmp 20) 64 rfl w.heap.size 9 i0 (.string ByteArray.empty) 1 16 Tryd.underlying64 hi hz0 hz1 hz2 rfl (by decide) _ _ _ rfl (HO.out.alloc _) ⟨wr.heap.size, 0, none⟩ 1 1 [.string { data := #[] }] rfl rfl (cell_one_new _ _ _) (by simp [Value.oneCell']) (by unfold maxLen; omega) (by omega) (by have := HB.out.size; simp; omega) ?_; intro v' w1 hown' hgrow hnil)
        refine ⟨⟨j + 1, by go_num, by omega, ?_, ?_⟩, by simp [intOf]; omega⟩
        · rw [HTk.out, HCA.out, partsL_snoc_same, List.map_append, List.length_append, HLen.out]
          exact hown'
        · exact (HB.out.alloc HB.out.size _).grown hgrow (by have := HB.out.size; simp; omega) (fun k e => (HO.out.lt k e).1)
      · have t1 : ((c.toNat : Int) == (a.toNat : Int)) = false := by
          apply beq_false_of_ne
          intro e
          exact hca (UInt8.toNat_inj.1 (by omega))
        rw [hSj] at t1
        obtain ⟨l, hl⟩ : ∃ l, (partsL a (x.take j))[n]? = some l := ⟨_, List.getElem?_eq_getElem (by rw [HLen.out]; omega)⟩
        have hll := partsL_part a (x.take j) l (List.mem_of_getElem? hl)
        have hlt2 := List.length_take (i := j) (l := x)
        obtain ⟨L1, hL1⟩ : ∃ S : ByteArray, strV l = .string S := ⟨_, rfl⟩
        have z2 := strV_size hL1
        have hsn := partsL_snoc_other hca (x.take j) l (by rw [HLen.out]; exact hl)
        rw [HLen.out, Nat.add_sub_cancel] at hsn
        have hadd : (9223372036854775807 < l.length + 1) = False := by simp; omega
        have hput : strV (l ++ [c]) = .string (L1 ++ ⟨#[c]⟩) := strV_add hL1 rfl
        have kc : wr.drew.cell? ⟨gb, n, none⟩ = some (.string L1) := by
          rw [HO.out.drew.cellAt n (by omega), List.getElem?_map, hl, ← hL1]
          rfl
        have HSn := Lib.hid hsn
        have HPut := Lib.hid hput
        clear hl hll hlt2 hL1 hsn hput hc hca htk hSj
        have q2 : ((n + 1 : Nat) : Int) - 1 = (n : Int) := by omega
        have q3 : (n : Int) < (n : Int) + 1 := by omega
        have q6 : (j : Int) ≤ (j : Int) + 1 := by omega
        have q7 : (j : Int) + 1 ≤ (x.length : Int) := by omega
        have q8 : IntKind.i64.wrap ((j : Int) + 1) = ((j + 1 : Nat) : Int) := by simp [IntKind.wrap, IntKind.bits, IntKind.signed]; omega
        have q9 : (0 : Int) ≤ ((j + 1 : Nat) : Int) := by omega
        have q10 : ((j + 1 : Nat) : Int) ≤ (x.length : Int) := by omega
        have q4 : IntKind.i64.wrap (n : Int) = (n : Int) := by simp [IntKind.wrap, IntKind.bits, IntKind.signed]; omega
        have q5 : ((S.extract j (j + 1))) = ⟨#[c]⟩ := hex
        go_wp2_with fail
        go_still_tail 17, (by kernel_rfl)
        have hO2 : wr.drew.ownsRow w.heap.size 9 1 (.slice (some ⟨gb, 0, none⟩) (n + 1) cb) (n + 1) ((partsL a (x.take j)).map strV) := HO.out
        have hB2 : Below w.heap.size w wr.drew := HB.out.drew
        change wpList _ _ _ _ _ wr.drew
        generalize wr.drew = wd at hO2 hB2 kc ⊢
        have hz2 := hO2.frozenAt n
        have hst := (hO2.stored n (.string (L1 ++ ⟨#[c]⟩))).1
        have HSt := Lib.hid hst
        have hB3 := hB2.setCell (p := ⟨gb, n, none⟩) hgb (.string (L1 ++ ⟨#[c]⟩))
        have HB3 := Lib.hid hB3
        clear hst hO2 hB2 hB3
        go_wp2_with fail
        refine ⟨⟨j + 1, by go_num, by omega, ?_, HB3.out⟩, by simp [intOf]; omega⟩
        rw [HTk.out, HSn.out, List.length_set, HLen.out, List.map_set, HPut.out]
        exact HSt.out
    · have q1 : ¬ (j : Int) < (x.length : Int) := by omega
      obtain rfl : j = x.length := by omega
      have hown := HO.out
      go_wp2_with fail
      go_ret
      have hlen := HLen.out
      rw [List.take_length] at hlen hown
      exact ⟨_, rfl, by rw [hlen]; exact hown, HB.out⟩

theorem join_take_le (s : List UInt8) (L : Lines) (j : Nat) : (Lib.join (L.take j) s).length ≤ (Lib.join L s).length := by
  have h1 := lenJ_join s (L.take j)
  have h2 := lenJ_join s L
  have h3 : lenJ s (L.take j) ≤ lenJ s L := by
    have := congrArg (lenJ s) (List.take_append_drop j L)
    simp only [lenJ, List.map_append, List.sum_append] at this ⊢
    omega
  by_cases hp : L.take j = []
  · rw [if_pos hp] at h1
    omega
  · have hL : L ≠ [] := fun e => hp (by subst e; simp)
    rw [if_neg hp] at h1
    rw [if_neg hL] at h2
    omega
/-- The call answers that; what lay before it lies as it lay. -/
def TellsV (w : World) (v : Value) (e : Ending) (w' : World) : Prop := e = .returned v ∧ Below w.heap.size w w'

set_option maxRecDepth 100000 in
set_option maxHeartbeats 4000000 in
theorem lineDoc_any (k : Int) (N : Nat) (va vb : Value) (a : UInt8) (x : List UInt8) (w : World) (hA : Pm.IsBytes w va [a]) (hx : x.length ≤ 64) (hN : N ≤ 65535) :
    Calls Tryd.prog 35 #[Pm.parV k N va vb, strV x] w (TellsV w (strV (lineF N [a] x))) := by
  have hb0 : Below w.heap.size w (w.alloc (.cells #[.int .i64 k, .int .i64 N, va, vb] 24)) := (Below.refl _ _).alloc (Nat.le_refl _) _
  have hin := fieldsIn_any x a (w.alloc (.cells #[.int .i64 k, .int .i64 N, va, vb] 24)) hx
  obtain ⟨S, hS⟩ : ∃ S : ByteArray, strV x = .string S := ⟨_, rfl⟩
  have z1 := strV_size hS
  have HSx := Lib.hid hS
  rw [hS] at hin ⊢
  have HAW := Lib.hid (show ∀ W, Below w.heap.size w W → Pm.IsBytes W va [a] from fun W hb => hA.below hb)
  obtain ⟨ba, ca, hva, hca, hcs⟩ := hA
  have hva1 : va = .slice ba 1 ca := hva
  clear hva
  subst hva1
  obtain ⟨ga, oa, rfl, hac⟩ := hcs 0 a rfl
  have HIn := Lib.hid hin
  have HB0 := Lib.hid hb0
  have ka := Pm.Below.cell hb0 hac
  clear hS hin hb0 hcs
  have ka2 : (w.alloc (.cells #[.int .i64 k, .int .i64 N, .slice (some ⟨ga, oa, none⟩) 1 ca, vb] 24)).cell? ⟨ga, oa, none⟩ = some (.int .u8 a.toNat) := ka
  clear ka hac
  unfold Pm.parV
  go_enter Tryd.func35, Tryd.ntmps35
  go_wp2_with fail
  refine HIn.out.mono ?_
  rintro e w1 ⟨v, rfl, hown, hb1⟩
  have hbw : Below w.heap.size w w1 := HB0.out.trans (hb1.mono HB0.out.size)
  have p1 : w1.cell? ⟨w.heap.size, 1, none⟩ = some (.int .i64 N) := Pm.Below.cell hb1 (by simp)
  have p2 : w1.cell? ⟨w.heap.size, 2, none⟩ = some (.slice (some ⟨ga, oa, none⟩) 1 ca) := Pm.Below.cell hb1 (by simp)
  have kc := Pm.conv_any (HAW.out w1 hbw)
  obtain ⟨SA, hSA⟩ : ∃ S : ByteArray, Pm.strV [a] = .string S := ⟨_, rfl⟩
  rw [hSA] at kc
  have hSA2 : strV [a] = .string SA := hSA
  have HSA := Lib.hid hSA2
  obtain ⟨n, hn⟩ : ∃ n, n = (partsL a x).length := ⟨_, rfl⟩
  rw [← hn] at hown
  have hn1 : 1 ≤ n := by rw [hn, partsL_len]; omega
  have hn65 : n ≤ 65 := by
    have := List.count_le_length (a := a) (l := x)
    rw [hn, partsL_len]
    omega
  have hform : ∃ gb cb, v = .slice (some ⟨gb, 0, none⟩) n cb := by
    rcases hown.2 with ⟨-, h0⟩ | ⟨g, cap, cur, rfl, hb, _⟩
    · omega
    · exact ⟨g, cap, rfl⟩
  obtain ⟨gb, cb, rfl⟩ := hform
  have hat : ∀ j l, (partsL a x)[j]? = some l → w1.cell? ⟨gb, j, none⟩ = some (strV l) := fun j l hl => by
    have hj := (List.getElem?_eq_some_iff.1 hl).1
    rw [hown.cellAt j (by omega), List.getElem?_map, hl]
    rfl
  have HAt := Lib.hid hat
  have HBW := Lib.hid hbw
  have hB := hasB_one x a
  rw [← hn] at hB
  have HN := Lib.hid hn
  clear hown hb1 hbw hSA hSA2 hat ka2 hn
  by_cases hone : n = 1
  · subst hone
    have HL := Lib.hid (show lineF N [a] x = x by rw [lineF, hB]; rfl)
    clear hB
    go_wp2_with fail
    go_ret
    exact ⟨by rw [HL.out, HSx.out]; rfl, HBW.out⟩
  · have q0 : ((n : Int) == 1) = false := beq_false_of_ne (by omega)
    have hl : lineF N [a] x = Lib.join (pickF N 0 (partsL a x)) [a] := by
      rw [lineF, hB, if_pos (by simp; omega)]
      rfl
    have HL := Lib.hid hl
    clear hl hB
    go_wp2_with fail
    have hst : strV (Lib.join (pickF N 0 ((partsL a x).take 0)) [a]) = .string { data := #[] } := rfl
    rw [← hst]
    clear hst
    go_loopw [6, 7, 8] (fun ov fv iv wr => ∃ j : Nat, ov = strV (Lib.join (pickF N 0 ((partsL a x).take j)) [a]) ∧ fv = .bool (decide (pickF N 0 ((partsL a x).take j) = [])) ∧ iv = .int .i64 j ∧ j ≤ n ∧ j ≤ 16 ∧ wr = w1) (fun _ _ i _ => n - (intOf i).toNat)
    case atStart => exact ⟨0, rfl, rfl, rfl, Nat.zero_le _, Nat.zero_le _, rfl⟩
    case round =>
      obtain ⟨j, rfl, rfl, rfl, hjn, hj16, rfl⟩ := hrel
      obtain ⟨P, hP⟩ : ∃ P, P = pickF N 0 ((partsL a x).take j) := ⟨_, rfl⟩
      have hPl : (Lib.join P [a]).length ≤ 64 := by
        rw [hP]
        have h1 := pick_join_le N [a] ((partsL a x).take j) 0
        have h2 := join_take_le [a] (partsL a x) j
        rw [join_partsL] at h2
        omega
      rw [← hP]
      obtain ⟨L0, hL0⟩ : ∃ S : ByteArray, strV (Lib.join P [a]) = .string S := ⟨_, rfl⟩
      rw [hL0]
      have z0 := strV_size hL0
      have HL0 := Lib.hid hL0
      have HP := Lib.hid hP
      clear hL0 hP
      by_cases hlt : j < n ∧ j < 16
      · obtain ⟨hlt, hlt16⟩ := hlt
        have q1 : (j : Int) < (n : Int) := by omega
        have q2 : (j : Int) < 16 := by omega
        have q3 : (0 : Int) ≤ (j : Int) := by omega
        obtain ⟨l, hl⟩ : ∃ l, (partsL a x)[j]? = some l := ⟨_, List.getElem?_eq_getElem (by rw [← HN.out]; omega)⟩
        have hcl := HAt.out j l hl
        have hll := partsL_part a x l (List.mem_of_getElem? hl)
        obtain ⟨L1, hL1⟩ : ∃ S : ByteArray, strV l = .string S := ⟨_, rfl⟩
        rw [hL1] at hcl
        have z2 := strV_size hL1
        have HL1 := Lib.hid hL1
        have htk := pickF_take (N := N) hl
        rw [← HP.out] at htk
        have HTk := Lib.hid htk
        have hbit := bit_div N j
        clear hL1 hl htk
        cases hb : N.testBit j with
        | false =>
          rw [hb, Bool.not_false] at hbit
          have htk := HTk.out
          rw [if_neg (by simp [hb])] at htk
          have HTk2 := Lib.hid htk
          clear htk hb
          go_wp2_with fail
          refine ⟨⟨j + 1, ?_, ?_, by go_num, by omega, by omega, trivial⟩, by simp [intOf]; omega⟩
          · rw [HTk2.out, HL0.out]
          · rw [HTk2.out]
        | true =>
          rw [hb, Bool.not_true] at hbit
          have htk := HTk.out
          rw [if_pos hb] at htk
          have hjs := joinBy_snoc [a] l P
          by_cases hPe : P = []
          · have hd : decide (P = []) = true := by simp [hPe]
            have e0 : strV (Lib.join (P ++ [l]) [a]) = .string (L0 ++ L1) := by
              have h := strV_add HL0.out HL1.out
              rw [hjs, if_pos hPe]
              rw [hPe, Lib.join_nil, List.nil_append] at h
              exact h
            have HE := Lib.hid e0
            have HTk2 := Lib.hid htk
            have hadd : (9223372036854775807 < (Lib.join P [a]).length + l.length) = False := by simp; omega
            clear htk hjs hb
            rw [hd]
            go_wp2_with fail
            refine ⟨⟨j + 1, ?_, ?_, by go_num, by omega, by omega, trivial⟩, by simp [intOf]; omega⟩
            · rw [HTk2.out, HE.out]
            · rw [HTk2.out]; simp
          · have hd : decide (P = []) = false := by simp [hPe]
            have e0 : strV (Lib.join (P ++ [l]) [a]) = .string (L0 ++ SA ++ L1) := by
              have h := strV_add (strV_add HL0.out HSA.out) HL1.out
              rw [hjs, if_neg hPe, ← List.append_assoc]
              exact h
            have HE := Lib.hid e0
            have HTk2 := Lib.hid htk
            have zA := strV_size HSA.out
            have hadd : (9223372036854775807 < (Lib.join P [a]).length + 1) = False := by simp; omega
            have hadd2 : (9223372036854775807 < (Lib.join P [a]).length + 1 + l.length) = False := by simp; omega
            clear htk hjs hb
            rw [hd]
            go_wp2_with fail
            refine ⟨⟨j + 1, ?_, ?_, by go_num, by omega, by omega, trivial⟩, by simp [intOf]; omega⟩
            · rw [HTk2.out, HE.out]
            · rw [HTk2.out]; simp
      · have q1 : ¬ ((j : Int) < (n : Int) ∧ (j : Int) < 16) := by omega
        have hfull : pickF N 0 ((partsL a x).take j) = pickF N 0 (partsL a x) := by
          by_cases h16 : j = 16
          · subst h16
            exact pickF_more hN _ 0 16 (by omega)
          · obtain rfl : j = n := by omega
            rw [HN.out, List.take_length]
        have HFull := Lib.hid (show P = _ from HP.out.trans hfull)
        clear hfull
        by_cases h1 : j < n
        · have q2 : (j : Int) < (n : Int) := by omega
          have q3 : ¬ (j : Int) < 16 := by omega
          clear q1 hlt
          go_wp2_with fail
          go_ret
          exact ⟨by rw [HL.out, ← HFull.out, HL0.out]; rfl, HBW.out⟩
        · have q2 : ¬ (j : Int) < (n : Int) := by omega
          clear q1 hlt
          go_wp2_with fail
          go_ret
          exact ⟨by rw [HL.out, ← HFull.out, HL0.out]; rfl, HBW.out⟩

end Go.Proofs.YtgcnkagieedebaaDoor
