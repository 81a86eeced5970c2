/- What FieldsParts asks: each field alone, all fields together, the lines of what is told. -/
import Derived.Test.YtgcnkagieedebaaDoorFieldsDenote
import Derived.Test.YtgcnkagieedebaaDoorFieldsLines
import Derived.Test.YtgcnkagieedebaaDoorFieldsTold
import Derived.Test.YtgcnkagieedebaaDoorFieldsHeavy
import Derived.Test.YtgcnkagieedebaaDoorTakeskit
import Derived.Test.YtgcnkagieedebaaDoorJoinback
import Derived.Outline
namespace Go.Proofs.YtgcnkagieedebaaDoor
open Go.RowKit

theorem pickF_past {k : Nat} : ∀ (L : Lines) (i : Nat), k < i → pickF (2 ^ k) i L = []
  | [], _, _ => rfl
  | l :: r, i, h => by
    have hb : (2 ^ k).testBit i = false := by rw [Nat.testBit_two_pow]; simp; omega
    rw [pickF, hb, pickF_past r (i + 1) (by omega)]
    rfl
theorem pickF_one {k : Nat} : ∀ (L : Lines) (i : Nat), i ≤ k → pickF (2 ^ k) i L = (L[k - i]?).toList
  | [], _, _ => by simp [pickF]
  | l :: r, i, h => by
    rcases Nat.lt_or_eq_of_le h with h | rfl
    · have hb : (2 ^ k).testBit i = false := by rw [Nat.testBit_two_pow]; simp; omega
      rw [pickF, hb, pickF_one r (i + 1) (by omega), show k - i = (k - (i + 1)) + 1 by omega, List.getElem?_cons_succ]
      rfl
    · have hb : (2 ^ i).testBit i = true := by rw [Nat.testBit_two_pow]; simp
      rw [pickF, hb, pickF_past r (i + 1) (by omega), Nat.sub_self]
      rfl
theorem pickF_all : ∀ (L : Lines) (i : Nat), i + L.length ≤ 16 → pickF 65535 i L = L
  | [], _, _ => rfl
  | l :: r, i, h => by
    simp only [List.length_cons] at h
    have hb : (65535 : Nat).testBit i = true := by rw [show (65535 : Nat) = 2 ^ 16 - 1 by decide, Nat.testBit_two_pow_sub_one]; simp; omega
    rw [pickF, hb, pickF_all r (i + 1) (by omega)]
    rfl
theorem partsL_mem (a c : UInt8) : ∀ (x p : List UInt8), p ∈ partsL a x → c ∈ p → c ∈ x ∧ c ≠ a
  | [], p, h, hc => by
    rw [partsL, List.mem_singleton] at h
    subst h
    cases hc
  | d :: r, p, h, hc => by
    have ih := partsL_mem a c r
    by_cases hd : d = a
    · subst hd
      rw [partsL_same] at h
      rcases List.mem_cons.1 h with rfl | h
      · cases hc
      · exact ⟨List.mem_cons_of_mem _ (ih p h hc).1, (ih p h hc).2⟩
    · rw [partsL_other hd] at h
      cases hp : partsL a r with
      | nil => exact absurd hp (partsL_ne a r)
      | cons q t =>
        rw [hp] at h ih
        rcases List.mem_cons.1 h with rfl | h
        · rcases List.mem_cons.1 hc with rfl | hc
          · exact ⟨List.mem_cons_self, hd⟩
          · exact ⟨List.mem_cons_of_mem _ (ih q List.mem_cons_self hc).1, (ih q List.mem_cons_self hc).2⟩
        · exact ⟨List.mem_cons_of_mem _ (ih p (List.mem_cons_of_mem _ h) hc).1, (ih p (List.mem_cons_of_mem _ h) hc).2⟩
theorem join_mem {c : UInt8} {s : List UInt8} {L : Lines} (h : c ∈ Lib.join L s) : c ∈ s ∨ ∃ p ∈ L, c ∈ p := by
  cases L with
  | nil => cases h
  | cons x r =>
    rw [Lib.join_cons] at h
    rcases List.mem_append.1 h with h | h
    · exact .inr ⟨x, List.mem_cons_self, h⟩
    · simp only [Lib.joinTail, List.mem_flatten, List.mem_map] at h
      obtain ⟨y, ⟨p, hp, rfl⟩, hc⟩ := h
      rcases List.mem_append.1 hc with hc | hc
      · exact .inl hc
      · exact .inr ⟨p, List.mem_cons_of_mem _ hp, hc⟩
theorem pickF_mem {N : Nat} {p : List UInt8} : ∀ (L : Lines) (i : Nat), p ∈ pickF N i L → p ∈ L
  | [], _, h => by cases h
  | l :: r, i, h => by
    rw [pickF] at h
    split at h
    · rcases List.mem_cons.1 h with rfl | h
      · exact List.mem_cons_self
      · exact List.mem_cons_of_mem _ (pickF_mem r (i + 1) h)
    · exact List.mem_cons_of_mem _ (pickF_mem r (i + 1) h)
theorem lineF_mem {N : Nat} {a c : UInt8} {x : List UInt8} (h : c ∈ lineF N [a] x) : c ∈ x ∨ c = a := by
  unfold lineF at h
  split at h
  · rcases join_mem h with h | ⟨p, hp, hc⟩
    · exact .inr (List.mem_singleton.1 h)
    · exact .inl (partsL_mem a c x p (pickF_mem _ _ hp) hc).1
  · exact .inl h

theorem readL_comes {a : UInt8} (ha : a ≠ 10) (N : Nat) (x : List UInt8) : readL (joinL (comesL N [a] (readL x true (0, 0, 0)).1)) true (0, 0, 0) = (comesL N [a] (readL x true (0, 0, 0)).1, true, (0, 0, 0)) := by
  obtain ⟨h64, -⟩ := readL_lines x true (0, 0, 0)
  have hten := readL_ten x true (0, 0, 0)
  refine readL_joinL (fun l hl => ?_) (fun l hl => ?_)
  · obtain ⟨m, hm, rfl⟩ := List.mem_map.1 hl
    exact Nat.le_trans (lineF_le N a m) (h64 m hm)
  · obtain ⟨m, hm, rfl⟩ := List.mem_map.1 hl
    intro h
    rcases lineF_mem h with h | h
    · exact hten m hm h
    · exact ha h.symm

/-! A line: its fields, one alone. -/
theorem lineF_one {a : UInt8} {l : List UInt8} (h : (partsL a l).length = 1) (N : Nat) : lineF N [a] l = l := by
  rw [lineF, hasB_one, h]
  rfl
theorem lineF_many {a : UInt8} {l : List UInt8} (h : (partsL a l).length ≠ 1) (N : Nat) : lineF N [a] l = Lib.join (pickF N 0 (partsL a l)) [a] := by
  have := partsL_len a l
  rw [lineF, hasB_one, if_pos (by simp; omega)]
  rfl
/-- The k-th field, or nothing. -/
def fieldAt (a : UInt8) (l : List UInt8) (k : Nat) : List UInt8 := ((partsL a l)[k]?).getD []
theorem lineF_bit {a : UInt8} {l : List UInt8} (h : (partsL a l).length ≠ 1) (k : Nat) : lineF (2 ^ k) [a] l = fieldAt a l k := by
  rw [lineF_many h, pickF_one _ 0 (Nat.zero_le _), Nat.sub_zero]
  unfold fieldAt
  cases (partsL a l)[k]? with
  | none => rfl
  | some p => exact Lib.join_one p [a]
theorem fieldAt_bare (a : UInt8) (l : List UInt8) (k : Nat) : a ∉ fieldAt a l k := by
  unfold fieldAt
  cases h : (partsL a l)[k]? with
  | none => exact fun h => by cases h
  | some p => exact fun hc => (partsL_mem a a l p (List.mem_of_getElem? h) hc).2 rfl
theorem lineF_all {a : UInt8} {l : List UInt8} (h : (partsL a l).length ≤ 16) : lineF 65535 [a] l = l := by
  by_cases h1 : (partsL a l).length = 1
  · exact lineF_one h1 _
  · rw [lineF_many h1, pickF_all _ 0 (by omega), join_partsL]
/-- The first k fields. -/
theorem join_next {a : UInt8} {l : List UInt8} {k : Nat} (h1 : 1 ≤ k) (hk : k < (partsL a l).length) : Lib.join ((partsL a l).take (k + 1)) [a] = Lib.join ((partsL a l).take k) [a] ++ ([a] ++ fieldAt a l k) := by
  have h : (partsL a l)[k]? = some (fieldAt a l k) := by
    unfold fieldAt
    rw [List.getElem?_eq_getElem hk]
    rfl
  rw [take_snoc h, joinBy_snoc, if_neg]
  intro e
  have := congrArg List.length e
  rw [List.length_take, List.length_nil] at this
  omega
theorem fields_whole (N : Nat) (a : UInt8) (x : List UInt8) (cuts : List Int) (hN : N ≤ 65535) (hx : x.length ≤ 4000) (hall : (readL x true (0, 0, 0)).2.1 = true) (D : DS (LS Unit)) (hD : D = drive (fieldsF N [a] []) [⟨x, true, 0, 0, 0⟩] cuts 100000 0 (start (fieldsF N [a] []) (fieldsI N [a] []))) :
    D.got.outs 0 = joinL (comesL N [a] (readL x true (0, 0, 0)).1) ∧ (decide (D.got.err = 0) && decide (D.got.need = -1)) = true := by
  have hm : min N 65535 = N := Nat.min_eq_left hN
  obtain ⟨d1, d2, d3⟩ := fields_drive N [a] [] ⟨x, true, 0, 0, 0⟩ cuts ⟨hN, rfl⟩ hx
  rw [← hD] at d1 d2 d3
  obtain ⟨p0, -⟩ := fields_case N [a] [] ⟨x, true, 0, 0, 0⟩ D.got d1 d2 d3
  obtain ⟨-, f2, -⟩ := run_final (fieldsT N [a]) (fun _ _ => rfl) () x true (0, 0, 0)
  obtain ⟨q1, q2⟩ := f2 hall
  have hn : (fieldsFin N [a] [] ⟨x, true, 0, 0, 0⟩).need = needOf (finalB (fieldsT N [a]) ⟨true, false, [], ()⟩ x true).1 := by
    unfold fieldsFin
    rw [hm]
    rfl
  have he : (fieldsFin N [a] [] ⟨x, true, 0, 0, 0⟩).err = (finalB (fieldsT N [a]) ⟨true, false, [], ()⟩ x true).2.2 := by
    unfold fieldsFin
    rw [hm]
    rfl
  refine ⟨?_, ?_⟩
  · rw [p0]
    unfold fieldsWant
    simp only
    rw [hm]
    rfl
  · rw [d2, d3, hn, he, q2, needOf, q1]
    rfl
theorem fields_takes {N : Nat} {a : UInt8} (h1 : 1 ≤ N) (hN : N ≤ 65535) (ha : a ≠ 10) : takeE 7 7 N [a] [] = 0 := by
  have h10 : ¬ (a = 10) := ha
  simp [takeE, Pm.checkE, Pm.fits, Pm.kindOf, Pm.kinds, Pm.mayBe, Pm.tooMuch]
  exact fun _ => ⟨by omega, by omega, h10⟩

set_option maxRecDepth 100000 in
set_option maxHeartbeats 4000000 in
theorem bare_any (a : UInt8) (i : Nat) (cs : List Value) (t : Nat → List UInt8) (w : World)
    (hcs : ∀ k, k < 16 → ∃ g o n cap, cs[k]? = some (.slice (some ⟨g, o, none⟩) n cap) ∧ i < n ∧ w.cell? ⟨g, o + i, none⟩ = some (strV (t k)) ∧ a ∉ t k ∧ (t k).length ≤ 64) :
    Calls Tryd.prog 26 #[.int .u8 a.toNat, .int .i64 i, .agg cs.toArray] w (Pm.Gives w (.bool true)) := by
  have hb : Below w.heap.size w (w.alloc (.cells cs.toArray 67)) := (Below.refl _ _).alloc (Nat.le_refl _) _
  have hrow := heap_alloc_last w (.cells cs.toArray 67)
  go_enter Tryd.func26, Tryd.ntmps26
  go_wp2_with fail
  have hat : ∀ k, k < 16 → ∃ g o n cap, (w.alloc (.cells cs.toArray 67)).cell? ⟨w.heap.size, k, none⟩ = some (.slice (some ⟨g, o, none⟩) n cap) ∧ i < n ∧ (w.alloc (.cells cs.toArray 67)).cell? ⟨g, o + i, none⟩ = some (strV (t k)) ∧ a ∉ t k ∧ (t k).length ≤ 64 := fun k hk => by
    obtain ⟨g, o, n, cap, h1, h2, h3, h4⟩ := hcs k hk
    refine ⟨g, o, n, cap, ?_, h2, Pm.Below.cell hb h3, h4⟩
    rw [cell_of_row _ _ _ _ _ _ hrow, List.getElem?_toArray]
    exact h1
  generalize w.alloc (.cells cs.toArray 67) = W1 at hat hb ⊢
  have HAt := Lib.hid hat
  have HB := Lib.hid hb
  clear hat hb hcs hrow
  go_loopw [7] (fun kv wr => ∃ k : Nat, kv = .int .i64 k ∧ k ≤ 16 ∧ wr = W1) (fun kv _ => 16 - (intOf kv).toNat)
  case atStart => exact ⟨0, rfl, Nat.zero_le _, rfl⟩
  case round =>
    obtain ⟨k, rfl, hk, rfl⟩ := hrel
    by_cases hlt : k < 16
    · obtain ⟨g, o, n, cap, h1, h2, h3, h4, h5⟩ := HAt.out k hlt
      have q0 : (0 : Int) ≤ (k : Int) := by omega
      have q1 : (k : Int) < 16 := by omega
      have q2 : (0 : Int) ≤ (i : Int) := by omega
      have q3 : (i : Int) < (n : Int) := by omega
      obtain ⟨S, hS⟩ : ∃ S : ByteArray, strV (t k) = .string S := ⟨_, rfl⟩
      rw [hS] at h3
      have z1 := strV_size hS
      have hSj : ∀ j (hz : j < S.size), ((((S[j]'hz).toNat : Nat) : Int) == (a.toNat : Int)) = false := fun j hz => by
        apply beq_false_of_ne
        intro e
        have e2 : S[j]'hz = a := UInt8.toNat_inj.1 (by omega)
        have e3 : (⟨(t k).toArray⟩ : ByteArray) = S := by
          unfold strV at hS
          injection hS
        subst e3
        apply h4
        rw [← e2]
        have hl : j < (t k).length := by simpa [ByteArray.size] using hz
        exact List.mem_iff_getElem.2 ⟨j, hl, rfl⟩
      have HSj := Lib.hid hSj
      have H1 := Lib.hid h1
      have H3 := Lib.hid h3
      clear hS h4 hSj h2
      clear h1 h3
      go_wp2_with fail
      go_loopw [8] (fun jv w2 => ∃ j : Nat, jv = .int .i64 j ∧ j ≤ S.size ∧ w2 = wr) (fun jv _ => S.size - (intOf jv).toNat)
      case atStart => exact ⟨0, rfl, Nat.zero_le _, rfl⟩
      case round =>
        obtain ⟨j, rfl, hj, rfl⟩ := hrel
        have h1 := H1.out
        have h3 := H3.out
        by_cases hlj : j < S.size
        · have hz : j < S.size := hlj
          have t1 := HSj.out j hz
          have q4 : (0 : Int) ≤ (j : Int) := by omega
          have q5 : (j : Int) < ((t k).length : Int) := by omega
          go_wp2_with fail
          exact ⟨⟨j + 1, by go_num, by omega, trivial⟩, by simp [intOf]; omega⟩
        · have q5 : ¬ (j : Int) < ((t k).length : Int) := by omega
          go_wp2_with fail
          exact ⟨⟨k + 1, by go_num, by omega, trivial⟩, by simp [intOf]; omega⟩
    · have q1 : ¬ (k : Int) < 16 := by omega
      go_wp2_with fail
      go_ret
      exact ⟨rfl, HB.out⟩

end Go.Proofs.YtgcnkagieedebaaDoor
