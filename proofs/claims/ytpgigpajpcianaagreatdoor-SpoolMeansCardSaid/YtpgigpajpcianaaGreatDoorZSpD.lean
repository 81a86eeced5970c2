/- What slices.SortStableFunc does with lines: they come to their order. -/
import Derived.Test.YtpgigpajpcianaaGreatDoorZSpmerge
import Derived.Test.YtpgigpajpcianaaGreatDoorZQA
import Derived.Test.YtpgigpajpcianaaGreatDoorZSpC
import Derived.Test.YtpgigpajpcianaaGreatDoorZDdefs
import Derived.Test.YtpgigpajpcianaaGreatDoorZDlines
import Derived.Test.YtpgigpajpcianaaGreatDoorZSpA
import Derived.Test.YtpgigpajpcianaaGreatDoorZItell
import Derived.Test.YtpgigpajpcianaaGreatDoorZIA
import Derived.Deep.MidRow
import Derived.Maps.AppendAt
import Derived.Deep.LoopGhost
namespace Go.Proofs.YtpgigpajpcianaaGreatDoor
open Go.Shelf Go.RowKit

theorem block_left {P Z Q : Lines} {a n : Nat} (h : a + n ≤ P.length) : ((P ++ Z ++ Q).drop a).take n = (P.drop a).take n := by
  rw [List.append_assoc, List.drop_append_of_le_length (by omega), List.take_append_of_le_length (by rw [List.length_drop]; omega)]
theorem block_right {P Z Q : Lines} {a n : Nat} (h : P.length + Z.length ≤ a) : ((P ++ Z ++ Q).drop a).take n = (Q.drop (a - (P.length + Z.length))).take n := by
  rw [show P ++ Z ++ Q = (P ++ Z) ++ Q from rfl, List.drop_append, List.drop_of_length_le (by simp; omega), List.nil_append]
  simp
theorem block_beyond {L : Lines} {a n : Nat} (h : L.length ≤ a) : (L.drop a).take n = [] := by rw [List.drop_of_length_le h]; simp
structure Half (F : Bool) (bs i : Nat) (L : Lines) : Prop where
  great : ∀ k, k < i → SortedL F ((L.drop (k * (2 * bs))).take (2 * bs))
  small : ∀ k, 2 * i ≤ k → SortedL F ((L.drop (k * bs)).take bs)
theorem half_start {F : Bool} {bs : Nat} {L : Lines} (h : Blocks F bs L) : Half F bs 0 L := ⟨fun k hk => by omega, fun k _ => h k⟩
theorem half_next {F : Bool} {bs i : Nat} {P X Y Q : Lines} (h : Half F bs i (P ++ X ++ Y ++ Q)) (hP : P.length = i * (2 * bs)) (hX : X.length = bs) (hY : Y.length = bs ∨ (Y.length ≤ bs ∧ Q = [])) : Half F bs (i + 1) (P ++ sortL F (X ++ Y) ++ Q) := by
  have e1 : P ++ X ++ Y ++ Q = P ++ (X ++ Y) ++ Q := by simp
  have hl : (sortL F (X ++ Y)).length = (X ++ Y).length := sortL_length F _
  refine ⟨fun k hk => ?_, fun k hk => ?_⟩
  · rcases Nat.lt_or_ge k i with h1 | h1
    · have := h.great k h1
      have h3 : k * (2 * bs) + 2 * bs ≤ P.length := by rw [hP]; exact (by have := Nat.mul_le_mul_right (2 * bs) (Nat.succ_le_of_lt h1); rw [Nat.succ_mul] at this; exact this)
      rw [e1, block_left h3] at this
      rw [block_left h3]
      exact this
    · obtain rfl : k = i := by omega
      rw [List.append_assoc, ← hP, List.drop_left]
      rcases hY with h2 | ⟨h2, rfl⟩
      · rw [List.take_append_of_le_length (by rw [hl, List.length_append]; omega), List.take_of_length_le (by rw [hl, List.length_append]; omega)]
        exact sortL_sorted F _
      · rw [List.append_nil, List.take_of_length_le (by rw [hl, List.length_append]; omega)]
        exact sortL_sorted F _
  · have h3 := h.small k (by omega)
    have h4 : P.length + bs + bs ≤ k * bs := by
      rw [hP]
      have := Nat.mul_le_mul_right bs hk
      have e : 2 * (i + 1) * bs = i * (2 * bs) + bs + bs := by rw [Nat.mul_add, Nat.add_mul, Nat.mul_comm 2 i, Nat.mul_assoc]; omega
      omega
    have h5 : P.length + (X ++ Y).length ≤ k * bs := by
      rw [List.length_append]
      rcases hY with h2 | ⟨h2, -⟩ <;> omega
    rw [e1, block_right h5] at h3
    rw [block_right (by rw [hl]; exact h5), hl]
    exact h3
theorem half_blocks {F : Bool} {bs i : Nat} {L : Lines} (h : Half F bs i L) : SortedL F ((L.drop (i * (2 * bs))).take bs) ∧ SortedL F ((L.drop (i * (2 * bs) + bs)).take bs) := by
  have h1 := h.small (2 * i) (Nat.le_refl _)
  have h2 := h.small (2 * i + 1) (by omega)
  rw [show 2 * i * bs = i * (2 * bs) by rw [Nat.mul_comm 2 i, Nat.mul_assoc]] at h1
  rw [show (2 * i + 1) * bs = i * (2 * bs) + bs by rw [Nat.add_mul, Nat.mul_comm 2 i, Nat.mul_assoc]; omega] at h2
  exact ⟨h1, h2⟩
theorem half_done {F : Bool} {bs i : Nat} {L : Lines} (h : Half F bs i L) (hl : L.length ≤ i * (2 * bs) + bs) : Blocks F (2 * bs) L := fun k => by
  rcases Nat.lt_trichotomy k i with h1 | h1 | h1
  · exact h.great k h1
  · subst h1
    have := (half_blocks h).1
    rw [List.take_of_length_le (by rw [List.length_drop]; omega)] at this
    rw [List.take_of_length_le (by rw [List.length_drop]; omega)]
    exact this
  · rw [block_beyond (by have := Nat.mul_le_mul_right (2 * bs) (Nat.succ_le_of_lt h1); rw [Nat.succ_mul] at this; omega)]
    exact List.Pairwise.nil
theorem half_ends {F : Bool} {bs i : Nat} {L : Lines} (h : Half F bs i L) (hl : L.length ≤ i * (2 * bs)) : Blocks F (2 * bs) L := fun k => by
  rcases Nat.lt_or_ge k i with h1 | h1
  · exact h.great k h1
  · rw [block_beyond (by have := Nat.mul_le_mul_right (2 * bs) h1; omega)]
    exact List.Pairwise.nil
theorem four_parts (L : Lines) (a n k : Nat) : L = L.take a ++ (L.drop a).take n ++ (L.drop (a + n)).take k ++ L.drop (a + n + k) := by
  have h1 := List.take_append_drop a L
  have h2 := List.take_append_drop n (L.drop a)
  have h3 := List.take_append_drop k ((L.drop a).drop n)
  rw [List.drop_drop] at h2 h3
  rw [List.drop_drop] at h3
  rw [List.append_assoc, List.append_assoc, h3, h2, h1]
structure First (F : Bool) (i : Nat) (L : Lines) : Prop where
  done : ∀ k, k < i → SortedL F ((L.drop (k * 20)).take 20)
theorem first_next {F : Bool} {i : Nat} {P X Q : Lines} (h : First F i (P ++ X ++ Q)) (hP : P.length = i * 20) (hX : X.length = 20 ∨ (X.length ≤ 20 ∧ Q = [])) : First F (i + 1) (P ++ sortL F X ++ Q) := ⟨fun k hk => by
  rcases Nat.lt_or_ge k i with h1 | h1
  · have := h.done k h1
    have h3 : k * 20 + 20 ≤ P.length := by omega
    rw [block_left h3] at this
    rw [block_left h3]
    exact this
  · obtain rfl : k = i := by omega
    rw [List.append_assoc, ← hP, List.drop_left]
    rcases hX with h2 | ⟨h2, rfl⟩
    · rw [List.take_append_of_le_length (by rw [sortL_length]; omega), List.take_of_length_le (by rw [sortL_length]; omega)]
      exact sortL_sorted F _
    · rw [List.append_nil, List.take_of_length_le (by rw [sortL_length]; omega)]
      exact sortL_sorted F _⟩
theorem first_all {F : Bool} {i : Nat} {L : Lines} (h : First F i L) (hl : L.length ≤ i * 20) : Blocks F 20 L := fun k => by
  rcases Nat.lt_or_ge k i with h1 | h1
  · exact h.done k h1
  · rw [block_beyond (by omega)]
    exact List.Pairwise.nil
theorem three_parts (L : Lines) (a n : Nat) : L = L.take a ++ (L.drop a).take n ++ L.drop (a + n) := by
  have h1 := List.take_append_drop a L
  have h2 := List.take_append_drop n (L.drop a)
  rw [List.drop_drop] at h2
  rw [List.append_assoc, h2, h1]
theorem parts_perm {F : Bool} {P X Q L : Lines} (h : (P ++ X ++ Q).Perm L) : (P ++ sortL F X ++ Q).Perm L := ((((sortL_perm F X).append_left P).append_right Q)).trans h
section
variable {b off sz : Nat} {w : World}
set_option maxRecDepth 100000 in
set_option maxHeartbeats 16000000 in
theorem stable_any (F : Bool) (L : Lines) (h : RowAt b off sz L w) (cap : Nat) (hL : L.length ≤ 100000) :
    Calls Tryz.prog 148 #[.slice (some ⟨b, off, none⟩) L.length cap, .int .i64 L.length, cmpV F] w (Turned b off sz (sortL F L) w) := by
  have h0 := Lib.hid h
  obtain ⟨n, hn⟩ : ∃ n, n = L.length := ⟨_, rfl⟩
  have HN := Lib.hid hn
  have HIns := Lib.hid (fun (P X Q : Lines) (w : World) (h : RowAt b off sz (P ++ X ++ Q) w) (hN : n = (P ++ X ++ Q).length) (a e : Int) (ha : a = P.length) (he : e = (P.length + X.length : Nat)) => insertion_any F P X Q h n cap hN (by omega) a e ha he)
  have HSym := Lib.hid (fun (s : Nat) => symMerge_ok (b := b) (off := off) (sz := sz) F n cap (by omega) s)
  rw [← hn] at hL ⊢
  have q0 : (n : Int) ≤ 100000 := by omega
  clear h hn
  unfold cmpV at HIns ⊢
  unfold SymOk cmpV at HSym
  obtain ⟨ov, hov⟩ : ∃ ov, ov = ordV F := ⟨_, rfl⟩
  rw [← hov] at HIns HSym ⊢
  clear hov
  go_enter Tryz.func148, Tryz.ntmps148
  go_wp2_with fail
  go_loopw [7, 8] (fun av bv wr => ∃ (A : Nat) (i : Nat) (M : Lines), av = .int .i64 (A : Nat) ∧ bv = .int .i64 ((A : Int) + 20) ∧ A = i * 20 ∧ A ≤ n ∧ RowKit.Hid (M.Perm L) ∧ RowKit.Hid (First F i M) ∧ RowKit.Hid (RowAt b off sz M wr) ∧ RowKit.Hid (Frame (· = b) w wr)) (fun av _ _ => n - (intOf av).toNat)
  case atStart => exact ⟨0, 0, L, rfl, rfl, rfl, Nat.zero_le _, Lib.hid (List.Perm.refl L), Lib.hid ⟨fun k hk => by omega⟩, h0, Lib.hid (Frame.refl _ _)⟩
  case round =>
    obtain ⟨A, i, M, rfl, rfl, hA, hAn, HPm, HFs, HR, HF⟩ := hrel
    have hMl : M.length = n := by rw [HPm.out.length_eq, ← HN.out]
    have HA := Lib.hid hA
    have HMl := Lib.hid hMl
    clear hA hMl
    by_cases hlt : (A : Int) + 20 ≤ (n : Int)
    · have hp := three_parts M A 20
      have l1 : (M.take A).length = A := by rw [List.length_take, HMl.out]; omega
      have l2 : ((M.drop A).take 20).length = 20 := by rw [List.length_take, List.length_drop, HMl.out]; omega
      have hr := HR.out
      have hf := HFs.out
      have hpm := HPm.out
      have hml := HMl.out
      rw [hp] at hr hf hpm hml
      generalize M.take A = P at *
      generalize (M.drop A).take 20 = X at *
      generalize M.drop (A + 20) = Q at *
      have HC := Lib.hid (HIns.out P X Q wr hr hml.symm (A : Int) ((A : Int) + 20) (by omega) (by omega))
      have HNx := Lib.hid (show First F (i + 1) (P ++ sortL F X ++ Q) from first_next hf (by rw [l1]; exact HA.out) (.inl l2))
      have HPm2 := Lib.hid (parts_perm (F := F) hpm)
      clear hp l1 l2 hr hf hpm hml HPm HFs HR HMl
      have r1 : IntKind.i64.wrap ((A : Int) + 20 + 20) = (A : Int) + 20 + 20 := by rw [IntKind.wrap_i64]; omega
      go_wp2_with fail
      refine HC.out.mono ?_
      rintro e W1 ⟨rfl, q1, q2⟩
      have HR1 := Lib.hid q1
      have HF1 := Lib.hid (HF.out.trans q2)
      clear q1 q2 HF
      go_wp2_with fail
      go_roundw
      case rel => exact ⟨A + 20, i + 1, _, by congr 1, by congr 1, by have := HA.out; omega, by omega, HPm2, HNx, HR1, HF1⟩
      case measure => simp [intOf]; omega
    · have hp := three_parts M A n
      have l1 : (M.take A).length = A := by rw [List.length_take, HMl.out]; omega
      have l2 : ((M.drop A).take n).length = n - A := by rw [List.length_take, List.length_drop, HMl.out]; omega
      have l3 : M.drop (A + n) = [] := List.drop_of_length_le (by rw [HMl.out]; omega)
      have hr := HR.out
      have hf := HFs.out
      have hpm := HPm.out
      have hml := HMl.out
      rw [hp] at hr hf hpm hml
      rw [l3] at hr hf hpm hml
      generalize M.take A = P at *
      generalize (M.drop A).take n = X at *
      have HC := Lib.hid (HIns.out P X [] wr hr hml.symm (A : Int) (n : Int) (by omega) (by rw [l1, l2]; omega))
      have hbl : Blocks F 20 (P ++ sortL F X ++ []) := first_all (first_next hf (by rw [l1]; exact HA.out) (.inr ⟨by omega, rfl⟩)) (by simp [sortL_length]; have := HA.out; omega)
      have HBl := Lib.hid hbl
      have HPm2 := Lib.hid (parts_perm (F := F) hpm)
      clear hp l1 l2 l3 hr hf hpm hml HPm HFs HR HMl hbl
      go_wp2_with fail
      refine HC.out.mono ?_
      rintro e W1 ⟨rfl, q1, q2⟩
      have HR1 := Lib.hid q1
      have HF1 := Lib.hid (HF.out.trans q2)
      clear q1 q2 HF
      go_wp2_with fail
      go_loopw [6] (fun sv wr2 => ∃ (bs : Nat) (M : Lines), sv = .int .i64 (bs : Nat) ∧ 20 ≤ bs ∧ bs ≤ 200000 ∧ RowKit.Hid (M.Perm L) ∧ RowKit.Hid (Blocks F bs M) ∧ RowKit.Hid (RowAt b off sz M wr2) ∧ RowKit.Hid (Frame (· = b) w wr2)) (fun sv _ => n - (intOf sv).toNat)
      case atStart => exact ⟨20, _, rfl, Nat.le_refl _, by decide, HPm2, HBl, HR1, HF1⟩
      case round =>
        clear HPm2 HBl HR1 HF1 HC HA hAn hlt
        obtain ⟨bs, M, rfl, hbs, hbs2, HPm, HBl, HR, HF⟩ := hrel
        have HMl := Lib.hid (show M.length = n by rw [HPm.out.length_eq, ← HN.out])
        by_cases hlt : (bs : Int) < (n : Int)
        · have r1 : IntKind.i64.wrap (2 * (bs : Int)) = 2 * (bs : Int) := by rw [IntKind.wrap_i64]; omega
          have r2 : IntKind.i64.wrap ((bs : Int) * 2) = (bs : Int) * 2 := by rw [IntKind.wrap_i64]; omega
          have HHf := Lib.hid (half_start HBl.out)
          clear HBl
          go_wp2_with fail
          go_loopw [7, 8] (fun av bv wr3 => ∃ (A i : Nat) (M : Lines), av = .int .i64 (A : Nat) ∧ bv = .int .i64 ((A : Int) + 2 * (bs : Int)) ∧ RowKit.Hid (A = i * (2 * bs)) ∧ A ≤ n ∧ RowKit.Hid (M.Perm L) ∧ RowKit.Hid (Half F bs i M) ∧ RowKit.Hid (RowAt b off sz M wr3) ∧ RowKit.Hid (Frame (· = b) w wr3)) (fun av _ _ => n - (intOf av).toNat)
          case atStart => exact ⟨0, 0, M, rfl, by simp, (show 0 = 0 * (2 * bs) by simp), Nat.zero_le _, HPm, HHf, HR, HF⟩
          case round =>
            clear HPm HHf HR HF HMl
            obtain ⟨A, i, M, rfl, rfl, HA, hAn, HPm, HHf, HR, HF⟩ := hrel
            have HMl := Lib.hid (show M.length = n by rw [HPm.out.length_eq, ← HN.out])
            have r3 : IntKind.i64.wrap ((A : Int) + (bs : Int)) = (A : Int) + (bs : Int) := by rw [IntKind.wrap_i64]; omega
            by_cases hlt2 : (A : Int) + 2 * (bs : Int) ≤ (n : Int)
            · have hp := four_parts M A bs bs
              have l1 : (M.take A).length = A := by rw [List.length_take, HMl.out]; omega
              have l2 : ((M.drop A).take bs).length = bs := by rw [List.length_take, List.length_drop, HMl.out]; omega
              have l3 : ((M.drop (A + bs)).take bs).length = bs := by rw [List.length_take, List.length_drop, HMl.out]; omega
              have hr := HR.out
              have hf := HHf.out
              have hpm := HPm.out
              have hml := HMl.out
              have hb := half_blocks hf
              rw [← HA.out] at hb
              rw [hp] at hr hf hpm hml
              generalize M.take A = P at *
              generalize (M.drop A).take bs = X at *
              generalize (M.drop (A + bs)).take bs = Y at *
              generalize M.drop (A + bs + bs) = Q at *
              have HC := Lib.hid (HSym.out (bs + bs) P X Y Q wr (by omega) hr hb.1 hb.2 (by omega) (by omega) (by simp at hml; omega) (A : Int) ((A : Int) + (bs : Int)) ((A : Int) + 2 * (bs : Int)) (by omega) (by omega) (by omega))
              have HNx := Lib.hid (show Half F bs (i + 1) (P ++ sortL F (X ++ Y) ++ Q) from half_next hf (by rw [l1]; exact HA.out) l2 (.inl l3))
              have HPm2 := Lib.hid (parts_perm (F := F) (P := P) (X := X ++ Y) (Q := Q) (by simpa using hpm))
              have HA2 := Lib.hid (show A + 2 * bs = (i + 1) * (2 * bs) by rw [Nat.add_mul, Nat.one_mul]; have := HA.out; omega)
              clear hp l1 l2 l3 hr hf hpm hml hb HPm HHf HR HMl HA
              have r4 : IntKind.i64.wrap ((A : Int) + 2 * (bs : Int) + 2 * (bs : Int)) = (A : Int) + 2 * (bs : Int) + 2 * (bs : Int) := by rw [IntKind.wrap_i64]; omega
              go_wp2_with fail
              refine HC.out.mono ?_
              rintro e W1 ⟨rfl, q1, q2⟩
              have HR1 := Lib.hid q1
              have HF1 := Lib.hid (HF.out.trans q2)
              clear q1 q2 HF
              go_wp2_with fail
              go_roundw
              case rel => exact ⟨A + 2 * bs, i + 1, _, by congr 1, by congr 1, HA2, by omega, HPm2, HNx, HR1, HF1⟩
              case measure => simp [intOf]; omega
            · by_cases hlt3 : (A : Int) + (bs : Int) < (n : Int)
              · have hp := four_parts M A bs n
                have l1 : (M.take A).length = A := by rw [List.length_take, HMl.out]; omega
                have l2 : ((M.drop A).take bs).length = bs := by rw [List.length_take, List.length_drop, HMl.out]; omega
                have l3 : ((M.drop (A + bs)).take n).length = n - (A + bs) := by rw [List.length_take, List.length_drop, HMl.out]; omega
                have l4 : M.drop (A + bs + n) = [] := List.drop_of_length_le (by rw [HMl.out]; omega)
                have l5 : (M.drop (A + bs)).take n = (M.drop (A + bs)).take bs := by rw [List.take_of_length_le (by rw [List.length_drop, HMl.out]; omega), List.take_of_length_le (by rw [List.length_drop, HMl.out]; omega)]
                have hr := HR.out
                have hf := HHf.out
                have hpm := HPm.out
                have hml := HMl.out
                have hb := half_blocks hf
                rw [← HA.out, ← l5] at hb
                rw [hp] at hr hf hpm hml
                rw [l4] at hr hf hpm hml
                clear l5
                generalize M.take A = P at *
                generalize (M.drop A).take bs = X at *
                generalize (M.drop (A + bs)).take n = Y at *
                have HC := Lib.hid (HSym.out (bs + n) P X Y [] wr (by omega) hr hb.1 hb.2 (by omega) (by omega) (by simp at hml; simp; omega) (A : Int) ((A : Int) + (bs : Int)) (n : Int) (by omega) (by omega) (by omega))
                have hnx : Half F bs (i + 1) (P ++ sortL F (X ++ Y) ++ []) := half_next hf (by rw [l1]; exact HA.out) l2 (.inr ⟨by omega, rfl⟩)
                have hbl : Blocks F (2 * bs) (P ++ sortL F (X ++ Y) ++ []) := half_ends hnx (by rw [Nat.add_mul, Nat.one_mul]; simp [sortL_length]; have := HA.out; omega)
                have HBl := Lib.hid hbl
                have HPm2 := Lib.hid (parts_perm (F := F) (P := P) (X := X ++ Y) (Q := []) (by simpa using hpm))
                clear hp l1 l2 l3 l4 hr hf hpm hml hb HPm HHf HR HMl HA hnx hbl
                go_wp2_with fail
                refine HC.out.mono ?_
                rintro e W1 ⟨rfl, q1, q2⟩
                have HR1 := Lib.hid q1
                have HF1 := Lib.hid (HF.out.trans q2)
                clear q1 q2 HF
                go_wp2_with fail
                go_roundw
                case rel => exact ⟨2 * bs, _, by congr 1; omega, by omega, by omega, HPm2, HBl, HR1, HF1⟩
                case measure => simp [intOf]; omega
              · have HBl := Lib.hid (half_done HHf.out (by rw [← HA.out, HMl.out]; omega))
                clear HHf HMl HA
                go_wp2_with fail
                go_roundw
                case rel => exact ⟨2 * bs, M, by congr 1; omega, by omega, by omega, HPm, HBl, HR, HF⟩
                case measure => simp [intOf]; omega
        · have hfin : M = sortL F L := sortL_eq (blocks_whole HBl.out (by rw [HMl.out]; omega)) HPm.out
          go_wp2_with fail
          go_end0
          exact ⟨rfl, by rw [← hfin]; exact HR.out, HF.out⟩
def SortedIn (v : Value) (X : Nat → Prop) (L : Lines) (w : World) (e : Ending) (w' : World) : Prop := e = .returned (.tuple #[]) ∧ KeptIn w' v X L ∧ Frame X w w'
theorem KeptIn.row_at {v : Value} {X : Nat → Prop} {L : Lines} (h : KeptIn w v X L) (hne : L ≠ []) : ∃ b off cap sz, v = .slice (some ⟨b, off, none⟩) L.length cap ∧ RowAt b off sz L w ∧ X b ∧ ∀ M w', M.length = L.length → RowAt b off sz M w' → KeptIn w' v X M := by
  cases h with
  | nil _ h => exact absurd rfl hne
  | row _ _ b off cap cs hX h hc hs hL =>
    refine ⟨b, off, cap, cs.size, rfl, ⟨by omega, cs, h, rfl, hL⟩, (hX b).2 rfl, fun M w' hM hr => ?_⟩
    obtain ⟨-, cs', k1, k2, k3⟩ := hr
    rw [← hM]
    exact .row X M b off cap cs' hX k1 (by omega) (by omega) k3
set_option maxRecDepth 100000 in
set_option maxHeartbeats 1000000 in
theorem sortStable_any (F : Bool) {v : Value} {X : Nat → Prop} {L : Lines} (h : KeptIn w v X L) (hne : L ≠ []) (hL : L.length ≤ 100000) :
    Calls Tryz.prog 134 #[v, cmpV F] w (SortedIn v X (sortL F L) w) := by
  obtain ⟨b, off, cap, sz, rfl, hr, hX, hback⟩ := h.row_at hne
  have HS := Lib.hid (stable_any F L hr cap hL)
  have HB := Lib.hid hback
  have HX := Lib.hid hX
  clear h hne hL hr hX hback
  unfold cmpV at HS ⊢
  obtain ⟨ov, hov⟩ : ∃ ov, ov = ordV F := ⟨_, rfl⟩
  rw [← hov] at HS ⊢
  clear hov
  go_enter Tryz.func134, Tryz.ntmps134
  go_wp2_with fail
  refine HS.out.mono ?_
  rintro e W1 ⟨rfl, q1, q2⟩
  have H1 := Lib.hid q1
  have H2 := Lib.hid q2
  clear q1 q2
  go_wp2_with fail
  go_end0
  exact ⟨rfl, HB.out _ _ (sortL_length F L) H1.out, H2.out.mono (fun k _ e => by have e' : k = b := e; rw [e']; exact HX.out)⟩
end

end Go.Proofs.YtpgigpajpcianaaGreatDoor

namespace Go.Proofs.YtpgigpajpcianaaGreatDoor
open Go.RowKit

open Classical in
noncomputable def relab (i : Nat) (X : Nat → Prop) (lab : Nat → Nat) : Nat → Nat := fun k => if X k then i else if lab k = i then 0 else lab k
theorem relab_self {i : Nat} (hi : i ≠ 0) {X : Nat → Prop} {lab : Nat → Nat} (k : Nat) : relab i X lab k = i ↔ X k := by
  unfold relab
  by_cases h : X k
  · rw [if_pos h]; simp [h]
  · rw [if_neg h]
    by_cases h2 : lab k = i
    · rw [if_pos h2]; simp [h]; exact fun e => hi e.symm
    · rw [if_neg h2]; simp [h, h2]
theorem relab_other {i j : Nat} (hj : j ≠ 0) (hij : j ≠ i) {X : Nat → Prop} {lab : Nat → Nat} (hX : ∀ k, X k → lab k = i ∨ lab k = 0) (k : Nat) : relab i X lab k = j ↔ lab k = j := by
  unfold relab
  by_cases h : X k
  · rw [if_pos h]
    rcases hX k h with e | e
    · rw [e]
    · rw [e]
      constructor
      · intro e2; exact absurd e2.symm hij
      · intro e2; exact absurd e2.symm hj
  · rw [if_neg h]
    by_cases h2 : lab k = i
    · rw [if_pos h2, h2]
      constructor
      · intro e; exact absurd e.symm hj
      · intro e; exact absurd e.symm hij
    · rw [if_neg h2]
theorem relab_ne {i : Nat} {X : Nat → Prop} {lab : Nat → Nat} {k : Nat} (h : relab i X lab k ≠ 0) : lab k ≠ 0 ∨ X k := by
  unfold relab at h
  by_cases hx : X k
  · exact .inr hx
  · rw [if_neg hx] at h
    by_cases h2 : lab k = i
    · rw [if_pos h2] at h; exact absurd rfl h
    · rw [if_neg h2] at h; exact .inl h
theorem KeptIn.congr {w : World} {v : Value} {X Y : Nat → Prop} {L : Lines} (h : KeptIn w v X L) (hXY : ∀ k, Y k ↔ X k) : KeptIn w v Y L := by
  have e : Y = X := funext fun k => propext (hXY k)
  rw [e]
  exact h
def spHead (g : Nat) (nd : Int) (pc : Value) : List Value := [.int .i64 nd, pc, .func (.func 60) #[.pointer (some ⟨g, 0, none⟩)] #[], .func (.func 61) #[.pointer (some ⟨g, 0, none⟩)] #[], .func (.func 62) #[.pointer (some ⟨g, 0, none⟩)] #[]]
structure Own78 where
  nd : Int
  pc : Value
  wv : Value
  ov : Bool
  dv : Value
  lv : Value
  rv : Value
  raw : Int
def spRow (F : Bool) (g : Nat) (f : Bool) (b : List UInt8) (o : Own78) : Array Value := rowA (spHead g o.nd o.pc) f b [o.wv, .bool o.ov, cmpV F, o.dv, o.lv, o.rv, .int .i64 o.raw]
structure RowAt78 (F : Bool) (g : Nat) (f : Bool) (b : List UInt8) (o : Own78) (w : World) : Prop where
  heap : w.heap[g]? = some (.cells (spRow F g f b o) 121 (0, 0))
  le : b.length ≤ 64
  fail : f = true → b = []
section
variable {F : Bool} {g : Nat} {f : Bool} {b : List UInt8} {o : Own78} {w w' : World}
theorem spRow_head {i : Nat} (hi : i < 5) : (spRow F g f b o)[i]? = (spHead g o.nd o.pc)[i]? := by
  unfold spRow rowA
  rw [List.getElem?_toArray, List.append_assoc, List.getElem?_append_left (by simpa [spHead] using hi)]
theorem spRow_tail (hb : b.length ≤ 64) {i : Nat} : (spRow F g f b o)[71 + i]? = ([o.wv, .bool o.ov, cmpV F, o.dv, o.lv, o.rv, .int .i64 o.raw] : List Value)[i]? := by
  unfold spRow rowA
  rw [List.getElem?_toArray, List.getElem?_append_right (by simp [spHead, length_splL hb])]
  congr 1
  simp [spHead, length_splL hb]
theorem RowAt78.h (h : RowAt78 F g f b o w) {i : Nat} {v : Value} (hi : i < 5) (hv : (spHead g o.nd o.pc)[i]? = some v) : w.cell? ⟨g, i, none⟩ = some v := by rw [cell_of_row _ _ _ _ _ _ h.heap, spRow_head hi, hv]
theorem RowAt78.t (h : RowAt78 F g f b o w) {i : Nat} {v : Value} (hv : ([o.wv, .bool o.ov, cmpV F, o.dv, o.lv, o.rv, .int .i64 o.raw] : List Value)[i]? = some v) : w.cell? ⟨g, 71 + i, none⟩ = some v := by rw [cell_of_row _ _ _ _ _ _ h.heap, spRow_tail h.le, hv]
theorem RowAt78.c0 (h : RowAt78 F g f b o w) : w.cell? ⟨g, 0, none⟩ = some (.int .i64 o.nd) := h.h (by decide) rfl
theorem RowAt78.c1 (h : RowAt78 F g f b o w) : w.cell? ⟨g, 1, none⟩ = some o.pc := h.h (by decide) rfl
theorem RowAt78.c2 (h : RowAt78 F g f b o w) : w.cell? ⟨g, 2, none⟩ = some (.func (.func 60) #[.pointer (some ⟨g, 0, none⟩)] #[]) := h.h (by decide) rfl
theorem RowAt78.c3 (h : RowAt78 F g f b o w) : w.cell? ⟨g, 3, none⟩ = some (.func (.func 61) #[.pointer (some ⟨g, 0, none⟩)] #[]) := h.h (by decide) rfl
theorem RowAt78.c4 (h : RowAt78 F g f b o w) : w.cell? ⟨g, 4, none⟩ = some (.func (.func 62) #[.pointer (some ⟨g, 0, none⟩)] #[]) := h.h (by decide) rfl
theorem RowAt78.c73 (h : RowAt78 F g f b o w) : w.cell? ⟨g, 73, none⟩ = some (cmpV F) := h.t (i := 2) rfl
theorem RowAt78.c74 (h : RowAt78 F g f b o w) : w.cell? ⟨g, 74, none⟩ = some o.dv := h.t (i := 3) rfl
theorem RowAt78.c75 (h : RowAt78 F g f b o w) : w.cell? ⟨g, 75, none⟩ = some o.lv := h.t (i := 4) rfl
theorem RowAt78.c76 (h : RowAt78 F g f b o w) : w.cell? ⟨g, 76, none⟩ = some o.rv := h.t (i := 5) rfl
theorem RowAt78.c77 (h : RowAt78 F g f b o w) : w.cell? ⟨g, 77, none⟩ = some (.int .i64 o.raw) := h.t (i := 6) rfl
theorem RowAt78.froz (h : RowAt78 F g f b o w) (i : Nat) : w.frozen? ⟨g, i, none⟩ = false := by simp [World.frozen?, h.heap]
theorem RowAt78.lt (h : RowAt78 F g f b o w) : g < w.heap.size := (Array.getElem?_eq_some_iff.1 h.heap).1
theorem RowAt78.frame {p : Nat → Prop} (h : RowAt78 F g f b o w) (hf : Frame p w w') (hp : ¬ p g) : RowAt78 F g f b o w' := ⟨hf.heap h.heap hp, h.le, h.fail⟩
theorem spRow_setHead {i : Nat} (hi : i < 5) (v : Value) (nd : Int) (pc : Value) (hv : (spHead g o.nd o.pc).set i v = spHead g nd pc) : (spRow F g f b o).setIfInBounds i v = spRow F g f b { o with nd := nd, pc := pc } := by
  unfold spRow rowA
  rw [List.setIfInBounds_toArray, List.append_assoc, List.append_assoc, List.set_append_left _ _ (by simp [spHead]; omega), hv]
theorem RowAt78.set0 (h : RowAt78 F g f b o w) (n : Int) : RowAt78 F g f b { o with nd := n } (w.setCell ⟨g, 0, none⟩ (.int .i64 n)) := ⟨by rw [setCell_row h.heap, spRow_setHead (by decide) _ n o.pc rfl], h.le, h.fail⟩
theorem RowAt78.set1 (h : RowAt78 F g f b o w) (v : Value) : RowAt78 F g f b { o with pc := v } (w.setCell ⟨g, 1, none⟩ v) := ⟨by rw [setCell_row h.heap, spRow_setHead (by decide) _ o.nd v rfl], h.le, h.fail⟩
theorem spRow_setTail (hb : b.length ≤ 64) {i n : Nat} (hn : n = 71 + i) (v : Value) (o' : Own78) (h0 : o'.nd = o.nd) (h1 : o'.pc = o.pc) (hv : ([o.wv, .bool o.ov, cmpV F, o.dv, o.lv, o.rv, .int .i64 o.raw] : List Value).set i v = [o'.wv, .bool o'.ov, cmpV F, o'.dv, o'.lv, o'.rv, .int .i64 o'.raw]) : (spRow F g f b o).setIfInBounds n v = spRow F g f b o' := by
  subst hn
  unfold spRow rowA
  rw [List.setIfInBounds_toArray, List.set_append_right _ _ (by simp [spHead, length_splL hb]), h0, h1]
  have e : 71 + i - (spHead g o.nd o.pc ++ splL f b).length = i := by simp [spHead, length_splL hb]
  rw [e, hv]
theorem RowAt78.set75 (h : RowAt78 F g f b o w) (v : Value) : RowAt78 F g f b { o with lv := v } (w.setCell ⟨g, 75, none⟩ v) := ⟨by rw [setCell_row h.heap, spRow_setTail (o := o) h.le (n := 75) (i := 4) rfl v { o with lv := v } rfl rfl rfl], h.le, h.fail⟩
theorem RowAt78.set76 (h : RowAt78 F g f b o w) (v : Value) : RowAt78 F g f b { o with rv := v } (w.setCell ⟨g, 76, none⟩ v) := ⟨by rw [setCell_row h.heap, spRow_setTail (o := o) h.le (n := 76) (i := 5) rfl v { o with rv := v } rfl rfl rfl], h.le, h.fail⟩
theorem RowAt78.set77 (h : RowAt78 F g f b o w) (n : Int) : RowAt78 F g f b { o with raw := n } (w.setCell ⟨g, 77, none⟩ (.int .i64 n)) := ⟨by rw [setCell_row h.heap, spRow_setTail (o := o) h.le (n := 77) (i := 6) rfl _ { o with raw := n } rfl rfl rfl], h.le, h.fail⟩
theorem RowAt78.queue (h : RowAt78 F g f b o w) {X : Nat → Prop} {L : Lines} (hk : KeptIn w o.wv X L) (ha : ¬ X g) : QRep g 5 121 (spHead g o.nd o.pc) [cmpV F, o.dv, o.lv, o.rv, .int .i64 o.raw] f b X L o.ov o.wv w :=
  ⟨⟨h.heap, rfl, h.le, h.fail⟩, hk, ha⟩
theorem RowAt78.of_queue {nd : Int} {pc dv lv rv : Value} {raw : Int} {X : Nat → Prop} {L : Lines} {ov : Bool} {wv : Value} (h : QRep g 5 121 (spHead g nd pc) [cmpV F, dv, lv, rv, .int .i64 raw] f b X L ov wv w) : RowAt78 F g f b ⟨nd, pc, wv, ov, dv, lv, rv, raw⟩ w := ⟨h.spl.heap, h.spl.le, h.spl.fail⟩
end

def mxV : Nat := 1
structure SpRep (F : Bool) (S : Script) (base g gd : Nat) (lab ownD : Nat → Nat) (f : Bool) (b : List UInt8) (x : SpD) (W : Lines) (Bs : List Nat) (o : Own78) (w : World) : Prop where
  row : RowAt78 F g f b o w
  wait : KeptIn w o.wv (fun k => lab k = 2) W
  lines : KeptIn w o.lv (fun k => lab k = 3) x.run
  runs : w.ownsRow base 141 1 o.rv Bs.length (Bs.map ptrV)
  rlab : ∀ k, o.rv.ownBlock = some k → lab k = 4
  dv : o.dv = ptrV gd
  disk : DiskAt base gd ownD S x.d w
  len : Bs.length = x.rs.length
  run : ∀ (j k : Nat) (r : Rn), Bs[j]? = some k → x.rs[j]? = some r → RunAt k r w
  blab : ∀ k ∈ Bs, lab k = 5
  dlab : ∀ k, ownD k ≠ 0 → lab k = 6
  glab : lab g = 1
  bnd : ∀ k, lab k ≠ 0 → base ≤ k ∧ k < w.heap.size
  low : mxV < base
  max : MaxAt w
  nodup : Bs.Nodup
section
variable {F : Bool} {S : Script} {base g gd : Nat} {lab ownD : Nat → Nat} {f : Bool} {b : List UInt8} {x : SpD} {W : Lines} {Bs : List Nat} {o : Own78} {w w' : World}
theorem SpRep.own0 (h : SpRep F S base g gd lab ownD f b x W Bs o w) {k : Nat} (hk : lab k ≠ 6) : ownD k = 0 := by
  cases hz : ownD k with
  | zero => rfl
  | succ m => exact absurd (h.dlab k (by rw [hz]; exact Nat.succ_ne_zero _)) hk
theorem SpRep.mlab (h : SpRep F S base g gd lab ownD f b x W Bs o w) : lab mxV = 0 := by
  cases hz : lab mxV with
  | zero => rfl
  | succ m => have := (h.bnd mxV (by rw [hz]; exact Nat.succ_ne_zero _)).1; have := h.low; omega
theorem SpRep.runsAt (h : SpRep F S base g gd lab ownD f b x W Bs o w) : RunsAt F S base g gd ownD x.d Bs x.rs w where
  c73 := h.row.c73
  c74 := by rw [← h.dv]; exact h.row.c74
  disk := h.disk
  len := h.len
  run := h.run
  apart k hk := by
    have h5 := h.blab k hk
    refine ⟨h.own0 (by rw [h5]; decide), fun e => ?_, fun e => ?_⟩
    · rw [e, h.glab] at h5
      cases h5
    · have := h.mlab
      rw [show mxV = 1 from rfl, ← e, h5] at this
      cases this
  ag := h.own0 (by rw [h.glab]; decide)
  am := h.own0 (by rw [show 1 = mxV from rfl, h.mlab]; decide)
  max := h.max
  nodup := h.nodup
theorem SpRep.ptrs (h : SpRep F S base g gd lab ownD f b x W Bs o w) : PtrsIn (fun k => lab k = 4) w o.rv Bs := by
  have h' := h.runs
  rcases h.runs.2 with ⟨e, h0⟩ | ⟨q, cap, cur, e, hb, hh, hn, -, hs, ht⟩
  · have : Bs = [] := List.eq_nil_of_length_eq_zero (by simpa using h0)
    subst this
    exact ⟨none, 0, e, Nat.le_refl _, fun j k hj => by simp at hj⟩
  · refine ⟨some ⟨q, 0, none⟩, cap, e, by omega, fun j k hj => ⟨q, 0, rfl, h.rlab q (by rw [e]; rfl), ?_⟩⟩
    rw [e] at h'
    have := World.ownsRow.cells h' (g := q) rfl j (ptrV k) (by simp [hj])
    rwa [Addr.add_mid] at this
theorem SpRep.frame {p : Nat → Prop} (h : SpRep F S base g gd lab ownD f b x W Bs o w) (hf : Frame p w w') (hp : ∀ k, p k → lab k = 0 ∧ k ≠ mxV) : SpRep F S base g gd lab ownD f b x W Bs o w' where
  row := h.row.frame hf (fun e => by have := (hp _ e).1; rw [h.glab] at this; cases this)
  wait := h.wait.frame hf (fun k hk e => by have := (hp _ e).1; rw [hk] at this; cases this)
  lines := h.lines.frame hf (fun k hk e => by have := (hp _ e).1; rw [hk] at this; cases this)
  runs := hf.owns h.runs (fun k hk e => by have := (hp _ e).1; rw [h.rlab k hk] at this; cases this)
  rlab := h.rlab
  dv := h.dv
  disk := h.disk.frame hf (fun k e => by cases hz : ownD k with | zero => rfl | succ m => have := h.dlab k (by rw [hz]; exact Nat.succ_ne_zero _); rw [(hp k e).1] at this; cases this)
  len := h.len
  run j k r h1 h2 := (h.run j k r h1 h2).frame hf (fun e => by have := (hp _ e).1; rw [h.blab k (List.mem_of_getElem? h1)] at this; cases this)
  blab := h.blab
  dlab := h.dlab
  glab := h.glab
  bnd k hk := ⟨(h.bnd k hk).1, Nat.lt_of_lt_of_le (h.bnd k hk).2 hf.size⟩
  low := h.low
  max := h.max.frame hf (fun e => (hp _ e).2 rfl)
  nodup := h.nodup
theorem SpRep.below (h : SpRep F S base g gd lab ownD f b x W Bs o w) (hb : Below w.heap.size w w') : SpRep F S base g gd lab ownD f b x W Bs o w' := h.frame (Below.toFrame hb fun _ => False) (fun _ e => e.elim)
theorem SpRep.own (h : SpRep F S base g gd lab ownD f b x W Bs o w) (hf : Frame (· = g) w w') {f' : Bool} {b' : List UInt8} {o' : Own78} (hr : RowAt78 F g f' b' o' w') (h1 : o'.wv = o.wv) (h2 : o'.lv = o.lv) (h3 : o'.rv = o.rv) (h4 : o'.dv = o.dv) : SpRep F S base g gd lab ownD f' b' x W Bs o' w' where
  row := hr
  wait := by rw [h1]; exact h.wait.frame hf (fun k hk e => by have e' : k = g := e; rw [e', h.glab] at hk; cases hk)
  lines := by rw [h2]; exact h.lines.frame hf (fun k hk e => by have e' : k = g := e; rw [e', h.glab] at hk; cases hk)
  runs := by rw [h3]; exact hf.owns h.runs (fun k hk e => by have e' : k = g := e; have := h.rlab k hk; rw [e', h.glab] at this; cases this)
  rlab := by rw [h3]; exact h.rlab
  dv := by rw [h4]; exact h.dv
  disk := h.disk.frame hf (fun k e => by have e' : k = g := e; rw [e']; exact h.own0 (by rw [h.glab]; decide))
  len := h.len
  run j k r k1 k2 := (h.run j k r k1 k2).frame hf (fun e => by have e' : k = g := e; have := h.blab k (List.mem_of_getElem? k1); rw [e', h.glab] at this; cases this)
  blab := h.blab
  dlab := h.dlab
  glab := h.glab
  bnd k hk := ⟨(h.bnd k hk).1, Nat.lt_of_lt_of_le (h.bnd k hk).2 hf.size⟩
  low := h.low
  max := h.max.frame hf (fun e => by have e' : mxV = g := e; have := h.mlab; rw [e', h.glab] at this; cases this)
  nodup := h.nodup
end

end Go.Proofs.YtpgigpajpcianaaGreatDoor

namespace Go.Proofs.YtpgigpajpcianaaGreatDoor
open Go.RowKit

def zeroQ : List Value := splL false [] ++ [.slice none 0 0, .bool false]
theorem length_zeroQ : zeroQ.length = 68 := by simp [zeroQ, length_splL (show ([] : List UInt8).length ≤ 64 from Nat.zero_le _)]
theorem Tryz.built_queue : Tryz.prog.built 117 [] = some zeroQ.toArray := by kernel_rfl
theorem Tryz.size_queue : (Tryz.prog.info? 117).map (·.size) = some 68 := by kernel_rfl
def deadO (o : Own78) : Own78 := ⟨-1, o.pc, .slice none 0 0, false, o.dv, .slice none 0 0, .slice none 0 0, o.raw⟩
def deadLab (g : Nat) (ownD : Nat → Nat) : Nat → Nat := fun k => if k = g then 1 else if ownD k ≠ 0 then 6 else 0
section
variable {F : Bool} {S : Script} {base g gd : Nat} {lab ownD : Nat → Nat} {f : Bool} {b : List UInt8} {x : SpD} {W : Lines} {Bs : List Nat} {o : Own78} {w w' : World}
theorem RowAt78.zero (h : RowAt78 F g f b o w) : RowAt78 F g false [] { o with wv := .slice none 0 0, ov := false } (w.setCells g 5 zeroQ) := by
  refine ⟨?_, Nat.zero_le _, fun h => by cases h⟩
  have := heap_setCells zeroQ 5 w g (spHead g o.nd o.pc) (splL f b ++ [o.wv, .bool o.ov]) [cmpV F, o.dv, o.lv, o.rv, .int .i64 o.raw] 121 (0, 0) (by rw [h.heap]; simp [spRow, rowA]) rfl (by rw [length_zeroQ]; simp [length_splL h.le])
  rw [this]
  simp [spRow, rowA, zeroQ]
theorem SpRep.dead (h : SpRep F S base g gd lab ownD f b x W Bs o w) (hf : Frame (· = g) w w') (hr : RowAt78 F g false [] (deadO o) w') : SpRep F S base g gd (deadLab g ownD) ownD false [] (x0 x.d) [] [] (deadO o) w' where
  row := hr
  wait := .nil _ (fun k e => by unfold deadLab at e; split at e; cases e; split at e <;> cases e)
  lines := .nil _ (fun k e => by unfold deadLab at e; split at e; cases e; split at e <;> cases e)
  runs := World.ownsRow_nil _ _ _ _
  rlab k hk := by cases hk
  dv := h.dv
  disk := h.disk.frame hf (fun k e => by have e' : k = g := e; rw [e']; exact h.own0 (by rw [h.glab]; decide))
  len := rfl
  run j k r h1 := by simp at h1
  blab k hk := by cases hk
  dlab k hk := by
    unfold deadLab
    rw [if_neg (fun e => by rw [e, h.own0 (by rw [h.glab]; decide)] at hk; exact hk rfl), if_pos hk]
  glab := by unfold deadLab; rw [if_pos rfl]
  bnd k hk := by
    unfold deadLab at hk
    by_cases e : k = g
    · have := h.bnd k (by rw [e, h.glab]; decide)
      exact ⟨this.1, Nat.lt_of_lt_of_le this.2 hf.size⟩
    · rw [if_neg e] at hk
      by_cases e2 : ownD k ≠ 0
      · have := h.bnd k (by rw [h.dlab k e2]; decide)
        exact ⟨this.1, Nat.lt_of_lt_of_le this.2 hf.size⟩
      · rw [if_neg e2] at hk
        exact absurd rfl hk
  low := h.low
  max := h.max.frame hf (fun e => by have e' : mxV = g := e; have := h.mlab; rw [e', h.glab] at this; cases this)
  nodup := List.nodup_nil
theorem spGiveUp_enters : Enters 62 := enters_of Tryz.func62 (by kernel_rfl) (by kernel_rfl)
set_option maxRecDepth 100000 in
set_option maxHeartbeats 4000000 in
theorem spGiveUp_any (h : RowAt78 F g f b o w) :
    Calls Tryz.prog 62 #[.pointer (some ⟨g, 0, none⟩)] w fun e w' => e = .returned (.tuple #[]) ∧ RowAt78 F g false [] { o with wv := .slice none 0 0, ov := false, lv := .slice none 0 0, rv := .slice none 0 0 } w' ∧ Frame (· = g) w w' := by
  have hz := h.zero
  have hfz : Frame (· = g) w (w.setCells g 5 zeroQ) := Frame.cells g 5 zeroQ
  have hth : w.there g 5 68 := there_of_row h.heap 5 68 (by simp [spRow, rowA, spHead, length_splL h.le])
  have HZ := Lib.hid hz
  have HFz := Lib.hid hfz
  have HTh := Lib.hid hth
  have hsz := length_zeroQ
  have hone : ∀ v ∈ zeroQ, v.oneCell' = true := fun v hv => by
    unfold zeroQ at hv
    rcases List.mem_append.1 hv with h3 | h3
    · exact one_splL _ _ _ h3
    · simp only [List.mem_cons, List.not_mem_nil, or_false] at h3
      rcases h3 with h3 | h3 <;> rw [h3] <;> rfl
  have hbq := Tryz.built_queue
  generalize zeroQ = Z at hz hfz HZ HFz hsz hone hbq
  have HOne := Lib.hid hone
  have HSz := Lib.hid hsz
  clear h hz hfz hth hone hsz
  go_enter Tryz.func62, Tryz.ntmps62
  go_wp2_with (first | (with_reducible refine wpList_build0 rfl 117 rfl Z.toArray hbq ?_) | (refine wpList_store_mid rfl 117 (.tmp 5) (.tmp 3) rfl g 5 Z.toArray rfl rfl (by simpa [HSz.out] using HTh.out) (by rw [Tryz.size_queue]; simp [HSz.out]) (all_oneCell_toArray HOne.out) ?_; have hz := HZ.out; have z4 := hz.c75; have z5 := hz.c76; have k4 := hz.froz 75; have k5 := hz.froz 76; have z5b := (hz.set75 (.slice none 0 0)).c76; have k5b := (hz.set75 (.slice none 0 0)).froz 76))
  go_returns
  have h1 := (HZ.out.set75 (.slice none 0 0)).set76 (.slice none 0 0)
  refine ⟨rfl, by simpa using h1, ?_⟩
  have := (HFz.out.trans (Frame.cell _ ⟨g, 75, none⟩ (.slice none 0 0))).trans (Frame.cell _ ⟨g, 76, none⟩ (.slice none 0 0))
  simpa using this
set_option maxRecDepth 100000 in
set_option maxHeartbeats 4000000 in
theorem spStop_any (h : RowAt78 F g f b o w) :
    Calls Tryz.prog 71 #[.pointer (some ⟨g, 0, none⟩)] w fun e w' => e = .returned (.tuple #[]) ∧ RowAt78 F g false [] (deadO o) w' ∧ Frame (· = g) w w' := by
  have c0 := h.c0
  have z0 := h.froz 0
  have h1 := h.set0 (-1)
  have c4 := h1.c4
  have HG := Lib.hid (spGiveUp_any h1)
  have hent := spGiveUp_enters
  unfold Enters at hent
  clear h h1
  go_enter Tryz.func71, Tryz.ntmps71
  go_wp2_with fail
  refine (stop_any c0 z0).mono ?_
  rintro e w1 ⟨rfl, rfl⟩
  go_wp2_with fail
  refine HG.out.mono ?_
  rintro e w2 ⟨rfl, h2, hf2⟩
  have H2 := Lib.hid h2
  have HF2 := Lib.hid hf2
  clear h2 hf2
  go_wp2_with fail
  go_returns
  exact ⟨rfl, H2.out, (Frame.cell w ⟨g, 0, none⟩ _).trans HF2.out⟩
def FailO (o : Own78) (e : Int) (id : Int) : Own78 := deadO { o with raw := if e = 25 then id else o.raw }
set_option maxRecDepth 100000 in
set_option maxHeartbeats 4000000 in
theorem spFail_any (h : RowAt78 F g f b o w) (hd : DiskAt base gd ownD S x.d w) (hdv : o.dv = ptrV gd) (er : Int) :
    Calls Tryz.prog 84 #[.pointer (some ⟨g, 0, none⟩), .int .i64 er] w fun e w' => e = .returned (.int .i64 er) ∧ RowAt78 F g false [] (FailO o er x.d.id) w' ∧ Frame (· = g) w w' := by
  have c74 := h.c74
  rw [hdv] at c74
  unfold ptrV at c74
  by_cases h25 : er = 25
  · subst h25
    have HRaw := Lib.hid (raw_any hd)
    have c77 := h.c77
    have z77 := h.froz 77
    have h1 := h.set77 x.d.id
    have HS := Lib.hid (spStop_any h1)
    clear h hd hdv h1
    go_enter Tryz.func84, Tryz.ntmps84
    go_wp2_with fail
    refine HRaw.out.mono ?_
    rintro e w1 ⟨rfl, rfl⟩
    go_wp2_with fail
    refine HS.out.mono ?_
    rintro e w2 ⟨rfl, h2, hf2⟩
    have H2 := Lib.hid h2
    have HF2 := Lib.hid hf2
    clear h2 hf2
    go_wp2_with fail
    go_ret
    exact ⟨rfl, H2.out, (Frame.cell _ ⟨g, 77, none⟩ _).trans HF2.out⟩
  · have g1 : (er == 25) = false := by simpa using h25
    have HS := Lib.hid (spStop_any h)
    have HN := Lib.hid h25
    clear h hd hdv h25
    go_enter Tryz.func84, Tryz.ntmps84
    go_wp2_with fail
    refine HS.out.mono ?_
    rintro e w2 ⟨rfl, h2, hf2⟩
    have H2 := Lib.hid h2
    have HF2 := Lib.hid hf2
    clear h2 hf2
    go_wp2_with fail
    go_ret
    refine ⟨rfl, ?_, HF2.out⟩
    unfold FailO
    rw [if_neg HN.out]
    exact H2.out
end

end Go.Proofs.YtpgigpajpcianaaGreatDoor

namespace Go.Proofs.YtpgigpajpcianaaGreatDoor
open Go.RowKit

structure KeepO (o o' : Own78) : Prop where
  nd : o'.nd = o.nd
  pc : o'.pc = o.pc
  ov : o'.ov = o.ov
  raw : o'.raw = o.raw
theorem KeepO.refl (o : Own78) : KeepO o o := ⟨rfl, rfl, rfl, rfl⟩
theorem KeepO.trans {o o1 o2 : Own78} (h : KeepO o o1) (k : KeepO o1 o2) : KeepO o o2 := ⟨k.nd.trans h.nd, k.pc.trans h.pc, k.ov.trans h.ov, k.raw.trans h.raw⟩
structure Within (lab lab' : Nat → Nat) (w w' : World) : Prop where
  new : ∀ k, lab' k ≠ 0 → lab k ≠ 0 ∨ w.heap.size ≤ k
  fr : Frame (fun k => lab k ≠ 0) w w'
theorem Within.refl (lab : Nat → Nat) (w : World) : Within lab lab w w := ⟨fun _ h => .inl h, Frame.refl _ _⟩
theorem Within.trans {lab lab1 lab2 : Nat → Nat} {w w1 w2 : World} (h : Within lab lab1 w w1) (k : Within lab1 lab2 w1 w2) : Within lab lab2 w w2 :=
  ⟨fun i hi => by
    rcases k.new i hi with e | e
    · exact h.new i e
    · exact .inr (Nat.le_trans h.fr.size e), h.fr.then k.fr (fun i hi e => by
    rcases h.new i e with e | e
    · exact e
    · omega)⟩
theorem Within.drew {lab lab1 : Nat → Nat} {w w1 : World} (h : Within lab lab1 w w1) : Within lab lab1 w w1.drew := ⟨h.new, h.fr.drew⟩
section
variable {F : Bool} {S : Script} {base g gd : Nat} {lab ownD : Nat → Nat} {f : Bool} {b : List UInt8} {x : SpD} {W : Lines} {Bs : List Nat} {o : Own78} {w w' : World}
theorem SpRep.lab0 (h : SpRep F S base g gd lab ownD f b x W Bs o w) {k : Nat} (hk : w.heap.size ≤ k) : lab k = 0 := by
  cases hz : lab k with
  | zero => rfl
  | succ m => have := (h.bnd k (by rw [hz]; exact Nat.succ_ne_zero _)).2; omega
theorem SpRep.disks (h : SpRep F S base g gd lab ownD f b x W Bs o w) {d' : DSt} (hl : DiskLeft base gd ownD S d' w w') : ∃ lab' own', SpRep F S base g gd lab' own' f b ⟨d', x.run, x.rs⟩ W Bs o w' ∧ Within lab lab' w w' := by
  obtain ⟨own', k1, k2, k3⟩ := hl
  have hX : ∀ k, own' k ≠ 0 → lab k = 6 ∨ lab k = 0 := fun k hk => by
    by_cases hlt : k < w.heap.size
    · rw [k2 k hlt] at hk; exact .inl (h.dlab k hk)
    · exact .inr (h.lab0 (by omega))
  have ho : ∀ {j : Nat}, j ≠ 0 → j ≠ 6 → ∀ k, relab 6 (fun k => own' k ≠ 0) lab k = j ↔ lab k = j := fun h0 h6 k => relab_other h0 h6 hX k
  have hfr : ∀ {j : Nat}, j ≠ 6 → ∀ k, lab k = j → ¬ (ownD k ≠ 0) := fun h6 k hk e => by rw [h.dlab k e] at hk; exact h6 hk.symm
  refine ⟨relab 6 (fun k => own' k ≠ 0) lab, own', ⟨h.row.frame k3 (hfr (by decide) _ h.glab), (h.wait.frame k3 (fun k hk => hfr (by decide) k hk)).congr (fun k => ho (by decide) (by decide) k), (h.lines.frame k3 (fun k hk => hfr (by decide) k hk)).congr (fun k => ho (by decide) (by decide) k),
    k3.owns h.runs (fun k hk => hfr (by decide) k (h.rlab k hk)), fun k hk => (ho (by decide) (by decide) k).2 (h.rlab k hk), h.dv, k1, h.len, fun j k r h1 h2 => (h.run j k r h1 h2).frame k3 (hfr (by decide) k (h.blab k (List.mem_of_getElem? h1))), fun k hk => (ho (by decide) (by decide) k).2 (h.blab k hk),
    fun k hk => (relab_self (by decide) k).2 hk, (ho (by decide) (by decide) g).2 h.glab, fun k hk => ?_, h.low, h.max.frame k3 (fun e => e (h.own0 (by rw [show 1 = mxV from rfl, h.mlab]; decide))), h.nodup⟩, fun k hk => ?_, k3.mono (fun k _ e => by rw [h.dlab k e]; decide)⟩
  · rcases relab_ne hk with e | e
    · exact ⟨(h.bnd k e).1, Nat.lt_of_lt_of_le (h.bnd k e).2 k3.size⟩
    · exact k1.bnd k e
  · rcases relab_ne hk with e | e
    · exact .inl e
    · rcases hX k e with e2 | e2
      · exact .inl (by rw [e2]; decide)
      · by_cases hlt : k < w.heap.size
        · rw [k2 k hlt] at e
          exact .inl (by rw [h.dlab k e]; decide)
        · exact .inr (by omega)
theorem SpRep.resorted (h : SpRep F S base g gd lab ownD f b x W Bs o w) {L : Lines} (hf : Frame (fun k => lab k = 3) w w') (hk : KeptIn w' o.lv (fun k => lab k = 3) L) : SpRep F S base g gd lab ownD f b ⟨x.d, L, x.rs⟩ W Bs o w' ∧ Within lab lab w w' :=
  have hfr : ∀ {j : Nat}, j ≠ 3 → ∀ k, lab k = j → ¬ (lab k = 3) := fun h3 k hk e => by rw [e] at hk; exact h3 hk.symm
  ⟨⟨h.row.frame hf (hfr (by decide) _ h.glab), h.wait.frame hf (fun k hk => hfr (by decide) k hk), hk, hf.owns h.runs (fun k hk => hfr (by decide) k (h.rlab k hk)), h.rlab, h.dv, h.disk.frame hf (fun k e => h.own0 (by rw [e]; decide)), h.len, fun j k r h1 h2 => (h.run j k r h1 h2).frame hf (hfr (by decide) k (h.blab k (List.mem_of_getElem? h1))),
    h.blab, h.dlab, h.glab, fun k hk => ⟨(h.bnd k hk).1, Nat.lt_of_lt_of_le (h.bnd k hk).2 hf.size⟩, h.low, h.max.frame hf (fun e => by have := h.mlab; have e' : lab mxV = 3 := e; rw [e'] at this; cases this), h.nodup⟩, fun _ e => .inl e, hf.mono (fun k _ e => by rw [e]; decide)⟩
theorem SpRep.relined (h : SpRep F S base g gd lab ownD f b x W Bs o w) {L : Lines} {X : Nat → Prop} {lv : Value} {w1 : World} (hX : ∀ k, X k → lab k = 3 ∨ w.heap.size ≤ k) (hf : Frame (fun k => lab k = 3) w w1) (hk : KeptIn w1 lv X L) :
    ∃ lab', SpRep F S base g gd lab' ownD f b ⟨x.d, L, x.rs⟩ W Bs { o with lv := lv } (w1.setCell ⟨g, 75, none⟩ lv) ∧ Within lab lab' w (w1.setCell ⟨g, 75, none⟩ lv) := by
  have hX2 : ∀ k, X k → lab k = 3 ∨ lab k = 0 := fun k hk => (hX k hk).imp_right (fun e => h.lab0 e)
  have ho : ∀ {j : Nat}, j ≠ 0 → j ≠ 3 → ∀ k, relab 3 X lab k = j ↔ lab k = j := fun h0 h3 k => relab_other h0 h3 hX2 k
  have hc := Frame.cell w1 ⟨g, 75, none⟩ lv
  have hf2 : Frame (fun k => lab k = 3 ∨ k = g) w (w1.setCell ⟨g, 75, none⟩ lv) := (hf.mono (fun _ _ e => .inl e)).trans (hc.mono (fun _ _ e => .inr e))
  have hfr : ∀ {j : Nat}, j ≠ 3 → j ≠ 1 → ∀ k, lab k = j → ¬ (lab k = 3 ∨ k = g) := fun h3 h1 k hk e => by
    rcases e with e | e
    · rw [e] at hk; exact h3 hk.symm
    · rw [e, h.glab] at hk; exact h1 hk.symm
  have hXg : ¬ X g := fun e => by
    rcases hX2 g e with e | e <;> rw [h.glab] at e <;> cases e
  refine ⟨relab 3 X lab, ⟨(h.row.frame hf (fun e => by rw [h.glab] at e; cases e)).set75 lv, (h.wait.frame hf2 (fun k hk => hfr (by decide) (by decide) k hk)).congr (fun k => ho (by decide) (by decide) k), (hk.frame hc (fun k hk e => by have e' : k = g := e; rw [e'] at hk; exact hXg hk)).congr (fun k => relab_self (by decide) k),
    hf2.owns h.runs (fun k hk => hfr (by decide) (by decide) k (h.rlab k hk)), fun k hk => (ho (by decide) (by decide) k).2 (h.rlab k hk), h.dv, h.disk.frame hf2 (fun k e => by rcases e with e | e; exact h.own0 (by rw [e]; decide); exact h.own0 (by rw [e, h.glab]; decide)), h.len, fun j k r h1 h2 => (h.run j k r h1 h2).frame hf2 (hfr (by decide) (by decide) k (h.blab k (List.mem_of_getElem? h1))),
    fun k hk => (ho (by decide) (by decide) k).2 (h.blab k hk), fun k hk => (ho (by decide) (by decide) k).2 (h.dlab k hk), (ho (by decide) (by decide) g).2 h.glab, fun k hk0 => ?_, h.low, h.max.frame hf2 (fun e => ?_), h.nodup⟩, fun k hk0 => ?_, hf2.mono (fun k _ e => by rcases e with e | e; rw [e]; decide; rw [e, h.glab]; decide)⟩
  · rcases relab_ne hk0 with e | e
    · exact ⟨(h.bnd k e).1, Nat.lt_of_lt_of_le (h.bnd k e).2 hf2.size⟩
    · refine ⟨?_, ?_⟩
      · rcases hX k e with e2 | e2
        · exact (h.bnd k (by rw [e2]; decide)).1
        · have := (h.bnd g (by rw [h.glab]; decide)); omega
      · have := hk.old k e
        rw [show (w1.setCell ⟨g, 75, none⟩ lv).heap.size = w1.heap.size by simp [World.setCell]]
        exact this
  · rcases e with e | e
    · have := h.mlab; have e' : lab mxV = 3 := e; rw [e'] at this; cases this
    · have := h.mlab; have e' : mxV = g := e; rw [e', h.glab] at this; cases this
  · rcases relab_ne hk0 with e | e
    · exact .inl e
    · exact (hX k e).imp_left (fun e => by rw [e]; decide)
theorem SpRep.reruns (h : SpRep F S base g gd lab ownD f b x W Bs o w) {rv : Value} {Bs' : List Nat} {rs' : List Rn} {w1 : World} (hf : Frame (fun k => lab k = 4) w w1) (ho' : w1.ownsRow base 141 1 rv Bs'.length (Bs'.map ptrV)) (hrv : ∀ k, rv.ownBlock = some k → lab k = 4 ∨ w.heap.size ≤ k)
    (hlen : Bs'.length = rs'.length) (hrun : ∀ (j k : Nat) (r : Rn), Bs'[j]? = some k → rs'[j]? = some r → RunAt k r w1) (hb : ∀ k ∈ Bs', lab k = 5 ∨ (w.heap.size ≤ k ∧ rv.ownBlock ≠ some k)) (hnd : Bs'.Nodup) :
    ∃ lab', SpRep F S base g gd lab' ownD f b ⟨x.d, x.run, rs'⟩ W Bs' { o with rv := rv } (w1.setCell ⟨g, 76, none⟩ rv) ∧ Within lab lab' w (w1.setCell ⟨g, 76, none⟩ rv) := by
  have hX4 : ∀ k, rv.ownBlock = some k → lab k = 4 ∨ lab k = 0 := fun k hk => (hrv k hk).imp_right (fun e => h.lab0 e)
  have h4 : ∀ {j : Nat}, j ≠ 0 → j ≠ 4 → ∀ k, relab 4 (fun k => rv.ownBlock = some k) lab k = j ↔ lab k = j := fun h0 h3 k => relab_other h0 h3 hX4 k
  have hX5 : ∀ k, k ∈ Bs' → relab 4 (fun k => rv.ownBlock = some k) lab k = 5 ∨ relab 4 (fun k => rv.ownBlock = some k) lab k = 0 := fun k hk => by
    rcases hb k hk with e | ⟨e, e2⟩
    · exact .inl ((h4 (by decide) (by decide) k).2 e)
    · refine .inr ?_
      unfold relab
      rw [if_neg e2, h.lab0 e]
      decide
  have ho : ∀ {j : Nat}, j ≠ 0 → j ≠ 4 → j ≠ 5 → ∀ k, relab 5 (· ∈ Bs') (relab 4 (fun k => rv.ownBlock = some k) lab) k = j ↔ lab k = j := fun h0 h3 h5 k => (relab_other h0 h5 hX5 k).trans (h4 h0 h3 k)
  have hc := Frame.cell w1 ⟨g, 76, none⟩ rv
  have hf2 : Frame (fun k => lab k = 4 ∨ k = g) w (w1.setCell ⟨g, 76, none⟩ rv) := (hf.mono (fun _ _ e => .inl e)).trans (hc.mono (fun _ _ e => .inr e))
  have hfr : ∀ {j : Nat}, j ≠ 4 → j ≠ 1 → ∀ k, lab k = j → ¬ (lab k = 4 ∨ k = g) := fun h3 h1 k hk e => by
    rcases e with e | e
    · rw [e] at hk; exact h3 hk.symm
    · rw [e, h.glab] at hk; exact h1 hk.symm
  have hBg : ∀ k ∈ Bs', k ≠ g := fun k hk e => by
    rcases hb k hk with e2 | ⟨e2, -⟩
    · rw [e, h.glab] at e2; cases e2
    · have := (h.bnd g (by rw [h.glab]; decide)).2; omega
  refine ⟨relab 5 (· ∈ Bs') (relab 4 (fun k => rv.ownBlock = some k) lab), ⟨(h.row.frame hf (fun e => by rw [h.glab] at e; cases e)).set76 rv, (h.wait.frame hf2 (fun k hk => hfr (by decide) (by decide) k hk)).congr (fun k => ho (by decide) (by decide) (by decide) k), (h.lines.frame hf2 (fun k hk => hfr (by decide) (by decide) k hk)).congr (fun k => ho (by decide) (by decide) (by decide) k),
    hc.owns ho' (fun k hk e => by have e' : k = g := e; rcases hX4 k hk with e2 | e2 <;> rw [e', h.glab] at e2 <;> cases e2), fun k hk => ?_, h.dv, h.disk.frame hf2 (fun k e => by rcases e with e | e; exact h.own0 (by rw [e]; decide); exact h.own0 (by rw [e, h.glab]; decide)), hlen, fun j k r h1 h2 => (hrun j k r h1 h2).frame hc (fun e => hBg k (List.mem_of_getElem? h1) e),
    fun k hk => (relab_self (by decide) k).2 hk, fun k hk => (ho (by decide) (by decide) (by decide) k).2 (h.dlab k hk), (ho (by decide) (by decide) (by decide) g).2 h.glab, fun k hk0 => ?_, h.low, h.max.frame hf2 (fun e => ?_), hnd⟩, fun k hk0 => ?_, hf2.mono (fun k _ e => by rcases e with e | e; rw [e]; decide; rw [e, h.glab]; decide)⟩
  · refine (relab_other (by decide) (by decide) hX5 k).2 ((relab_self (by decide) k).2 hk)
  · have hsz : (w1.setCell ⟨g, 76, none⟩ rv).heap.size = w1.heap.size := by simp [World.setCell]
    have hgb := h.bnd g (by rw [h.glab]; decide)
    rcases relab_ne hk0 with e | e
    · rcases relab_ne e with e | e
      · exact ⟨(h.bnd k e).1, Nat.lt_of_lt_of_le (h.bnd k e).2 hf2.size⟩
      · have := ho'.lt k e
        exact ⟨this.1, by rw [hsz]; exact this.2⟩
    · obtain ⟨j, hj⟩ := List.mem_iff_getElem?.1 e
      have hjl : j < rs'.length := by rw [← hlen]; exact (List.getElem?_eq_some_iff.1 hj).1
      have hr := hrun j k _ hj (List.getElem?_eq_getElem hjl)
      refine ⟨?_, by rw [hsz]; exact hr.lt⟩
      rcases hb k e with e2 | ⟨e2, -⟩
      · exact (h.bnd k (by rw [e2]; decide)).1
      · omega
  · rcases e with e | e
    · have := h.mlab; have e' : lab mxV = 4 := e; rw [e'] at this; cases this
    · have := h.mlab; have e' : mxV = g := e; rw [e', h.glab] at this; cases this
  · rcases relab_ne hk0 with e | e
    · rcases relab_ne e with e | e
      · exact .inl e
      · exact (hrv k e).imp_left (fun e => by rw [e]; decide)
    · rcases hb k e with e2 | ⟨e2, -⟩
      · exact .inl (by rw [e2]; decide)
      · exact .inr e2
end

end Go.Proofs.YtpgigpajpcianaaGreatDoor

namespace Go.Proofs.YtpgigpajpcianaaGreatDoor
open Go.RowKit

def SpTurns (F : Bool) (S : Script) (base g gd : Nat) (lab : Nat → Nat) (f : Bool) (b : List UInt8) (o : Own78) (W : Lines) (x' : SpD) (v : Value) (w : World) (e : Ending) (w' : World) : Prop :=
  e = .returned v ∧ ∃ lab' ownD' Bs' o', SpRep F S base g gd lab' ownD' f b x' W Bs' o' w' ∧ Within lab lab' w w' ∧ KeepO o o'
section
variable {F : Bool} {S : Script} {base g gd : Nat} {lab ownD : Nat → Nat} {f : Bool} {b : List UInt8} {x : SpD} {W : Lines} {Bs : List Nat} {o : Own78} {w w' : World}
set_option maxRecDepth 100000 in
set_option maxHeartbeats 2000000 in
theorem spSort_any (h : SpRep F S base g gd lab ownD f b x W Bs o w) (hne : x.run ≠ []) (hl : x.run.length ≤ 100000) :
    Calls Tryz.prog 108 #[.pointer (some ⟨g, 0, none⟩)] w fun e w' => e = .returned (.tuple #[]) ∧ SpRep F S base g gd lab ownD f b ⟨x.d, sortL F x.run, x.rs⟩ W Bs o w' ∧ Within lab lab w w' := by
  have hd := h.below ((Below.refl _ _).drew)
  have HS := Lib.hid (sortStable_any F hd.lines hne hl)
  have HD := Lib.hid hd
  have HB := Lib.hid (show ∀ w2, Frame (fun k => lab k = 3) w.drew w2 → Within lab lab w.drew w2 → Within lab lab w w2 from fun w2 _ k => (Within.refl lab w).drew.trans k)
  have c75 := h.row.c75
  have c73 := h.row.c73
  obtain ⟨a, c, hlv⟩ := h.lines.slice
  have HLv := Lib.hid hlv
  rw [hlv] at c75 HS
  clear h hne hl hd hlv
  go_enter Tryz.func108, Tryz.ntmps108
  go_upto_region 0 with fail
  go_region_with (go_at_call 134; refine HS.out.mono ?_; rintro e w1 ⟨rfl, q1, q2⟩; have H1 := Lib.hid q1; have H2 := Lib.hid q2; clear q1 q2)
  all_goals
    go_wp2_with fail
    go_returns
    obtain ⟨k1, k2⟩ := HD.out.resorted H2.out (by rw [HLv.out]; exact H1.out)
    exact ⟨rfl, k1, HB.out _ H2.out k2⟩
set_option maxRecDepth 100000 in
set_option maxHeartbeats 2000000 in
theorem sizeOf_any {v : Value} {X : Nat → Prop} {L : Lines} (h : KeptIn w v X L) (hl : L.length ≤ 100000) (hs : ∀ l ∈ L, l.length ≤ 64) :
    Calls Tryz.prog 78 #[v] w fun e w' => e = .returned (.int .i64 (keptSum L)) ∧ w' = w := by
  obtain ⟨a, c, rfl, hc⟩ := h.at
  obtain ⟨a2, c2, hcv, hcl⟩ := h.cap
  injection hcv with e1 e2 e3
  subst e1 e3
  have HC := Lib.hid hc
  have HSm := Lib.hid hs
  have q1 : (L.length : Int) ≤ (c : Int) := by omega
  clear h hc hs e2
  go_enter Tryz.func78, Tryz.ntmps78
  go_wp2_with fail
  go_loopw [3, 8] (fun sv iv wr => ∃ i : Nat, iv = .int .i64 i ∧ i ≤ L.length ∧ sv = .int .i64 (keptSum (L.take i)) ∧ wr = w) (fun _ iv _ => L.length - (intOf iv).toNat)
  case atStart => exact ⟨0, rfl, Nat.zero_le _, by simp [keptSum], rfl⟩
  case round =>
    obtain ⟨i, rfl, hi, rfl, rfl⟩ := hrel
    by_cases hlt : i < L.length
    · obtain ⟨l, hl2⟩ : ∃ l, L[i]? = some l := ⟨_, List.getElem?_eq_getElem hlt⟩
      obtain ⟨gb, off, rfl, hcell⟩ := HC.out i l hl2
      obtain ⟨A, hA⟩ : ∃ A : ByteArray, strV l = .string A := ⟨_, rfl⟩
      rw [hA] at hcell
      have hsz := (strCells_eq hA).2
      have h64 := HSm.out l (List.mem_of_getElem? hl2)
      have hk := keptSum_take hl2
      have hk2 := keptSum_take_le L i
      have hk3 := keptSum_le HSm.out
      obtain ⟨K, hK⟩ : ∃ K, K = keptSum (L.take i) := ⟨_, rfl⟩
      rw [← hK] at hk hk2 ⊢
      have HK := Lib.hid hk
      have v1 : (i : Int) < (L.length : Int) := by omega
      have v2 : IntKind.i64.wrap ((K : Int) + (A.size : Int)) = (K : Int) + (A.size : Int) := by rw [IntKind.wrap_i64]; omega
      have HSz := Lib.hid hsz
      clear hl2 hA hsz h64 hk hk2 hk3 hK
      go_wp2_with fail
      go_roundw
      case rel => exact ⟨i + 1, by go_num, hlt, by rw [HK.out, ← HSz.out]; push_cast; rfl, trivial⟩
      case measure => simp [intOf]; omega
    · obtain rfl : i = L.length := by omega
      have v1 : ¬ ((L.length : Int) < (L.length : Int)) := by omega
      rw [List.take_length]
      go_wp2_with fail
      go_ret
      exact ⟨rfl, rfl⟩
end

end Go.Proofs.YtpgigpajpcianaaGreatDoor

namespace Go.Proofs.YtpgigpajpcianaaGreatDoor
open Go.RowKit

theorem Tryz.infoRp : (Tryz.prog.info? 141).map (fun i => (i.zero, i.size, i.bytes)) = some (some (.pointer none), 1, 8) := by kernel_rfl
theorem wpList_append_ptr {ops : Array Oper} {rest : List Oper} {o : Oper} {a : Act} {w : World} {Q : Exit → Act → World → Prop} (hgd : o.guard = none) (s x : Operand) (ho : o.op = .call { callee := .builtin .append, args := #[s, x], argTypes := #[119, 119] })
    {base : Nat} {v : Value} {Bs : List Nat} (k gy : Nat) (hs : a.eval s = v) (hr : w.ownsRow base 141 1 v Bs.length (Bs.map ptrV)) (hx : a.eval x = .slice (some ⟨gy, 0, none⟩) 1 1) (hsrc : w.cell? ⟨gy, 0, none⟩ = some (ptrV k)) (hlen : Bs.length ≤ 1000000) (hbase : base ≤ w.heap.size)
    (h : ∀ v' w', w'.ownsRow base 141 1 v' (Bs ++ [k]).length ((Bs ++ [k]).map ptrV) → Frame (fun j => v.ownBlock = some j) w w' → (v'.ownBlock = v.ownBlock ∨ v'.ownBlock = some w.heap.size) → wpList Tryz.prog ops Q rest (a.put o.dst v') w') : wpList Tryz.prog ops Q (o :: rest) a w := by
  obtain ⟨i0, hi, hz0, hz1, hz2⟩ := info_parts Tryz.infoRp
  refine wpList_append_own_at w hgd s x 119 ho base 141 i0 (.pointer none) 1 8 (by kernel_rfl) hi hz0 hz1 hz2 rfl (by decide) v Bs.length _ hs hr ⟨gy, 0, none⟩ 1 1 [ptrV k] hx rfl
    (fun j u hu => ?_) (fun u hu => by rw [List.mem_singleton.1 hu]; rfl) (by unfold maxLen; omega) (by omega) hbase ?_
  · match j, hu with
    | 0, hu =>
      simp at hu
      subst hu
      rw [Addr.add_mid]
      exact hsrc
    | j + 1, hu => simp at hu
  · intro v' w' ho' hg' _ hv'
    exact h v' w' (by simpa using ho') ((Frame.refl _ w).grown hg' (fun k _ e => e)) hv'
structure SpAt (S : Script) (no : Int) (L : Lines) (R : DSt × Int) (i : Nat) (d : DSt) : Prop where
  is : R = writeAll S no d (L.drop i)
  file : ∃ t, fileAt d.T no = some t ∧ t.length + weightL (L.drop i) ≤ 256
  n : d.n + (L.length - i) ≤ 16700
  T : d.T.length ≤ 64
  t : ∀ t ∈ d.T, t.1.length ≤ 256
theorem drop_cons_at {α : Type} {L : List α} {i : Nat} {l : α} (h : L[i]? = some l) : L.drop i = l :: L.drop (i + 1) := by
  obtain ⟨h1, h2⟩ := List.getElem?_eq_some_iff.1 h
  rw [List.drop_eq_getElem_cons h1, h2]
section
variable {S : Script} {no : Int} {L : Lines} {R : DSt × Int} {i : Nat} {d : DSt}
theorem SpAt.small (h : SpAt S no L R i d) : Small d := ⟨by have := h.n; omega, h.T, fun t ht => by have := h.t t ht; omega⟩
theorem SpAt.no64 (h : SpAt S no L R i d) : I64 no := by
  obtain ⟨t, h1, -⟩ := h.file
  have h3 := fileAt_range h1
  have h4 := h.T
  exact ⟨by omega, by omega⟩
theorem SpAt.step (h : SpAt S no L R i d) (hf : FineL L) {l : List UInt8} (hl : L[i]? = some l) : (writeE S d no (l ++ [10]) ≠ 0 → R = (writeS S d no (l ++ [10]), writeE S d no (l ++ [10]))) ∧ (writeE S d no (l ++ [10]) = 0 → SpAt S no L R (i + 1) (writeS S d no (l ++ [10]))) := by
  obtain ⟨t, h1, h2⟩ := h.file
  have hlf := hf l (List.mem_of_getElem? hl)
  obtain ⟨a1, a2, a3⟩ := write_on (S := S) h1 hlf.1
  have hd := drop_cons_at hl
  have hlt := (List.getElem?_eq_some_iff.1 hl).1
  have his := h.is
  rw [hd, writeAll_cons] at his
  rw [hd, weightL_cons] at h2
  refine ⟨fun h0 => by rw [his, if_pos h0], fun h0 => ?_⟩
  rw [if_neg (by simpa using h0)] at his
  have h0' : cntE S d = 0 := by rw [← a1]; exact h0
  have e3 := a3 h0'
  obtain ⟨c1, c2, c3, c4⟩ := fileAt_set_self h1 (t ++ (l ++ [10]))
  refine ⟨his, ⟨t ++ (l ++ [10]), by rw [e3]; exact c1, by simp; omega⟩, ?_, ?_, fun y hy => ?_⟩
  · rw [e3]
    show d.n + 1 + _ ≤ _
    have := h.n
    omega
  · rw [e3]
    show (d.T.set _ _).length ≤ _
    rw [List.length_set]
    exact h.T
  · rw [e3] at hy
    rcases List.mem_or_eq_of_mem_set (show y ∈ d.T.set (no - 1).toNat (t ++ (l ++ [10]), true) from hy) with hy | rfl
    · exact h.t y hy
    · show (t ++ (l ++ [10])).length ≤ _
      simp
      omega
theorem SpAt.done (h : SpAt S no L R L.length d) : R = (d, 0) := by
  have := h.is
  rw [List.drop_length] at this
  exact this
theorem spAt_start {F : Bool} {x : SpD} {Ms : List Lines} (h : RdOk F x Ms) (h0 : createE S x.d = 0) : SpAt S (createN S x.d) (sortL F x.run) (writeAll S (createN S x.d) (createS S x.d) (sortL F x.run)) 0 (createS S x.d) := by
  have hsw : weightL (sortL F x.run) = weightL x.run := weightL_perm (sortL_perm F x.run)
  have hsl : (sortL F x.run).length = x.run.length := sortL_length F x.run
  have hwl := weightL_length x.run
  have hwr := h.wr
  have hn := h.n
  have hT := h.T
  rcases create_is S x.d with ⟨c1, c2, c3, c4⟩ | ⟨c1, -⟩ | ⟨c1, -⟩
  · have hf0 : fileAt (createS S x.d).T (createN S x.d) = some [] := by rw [c2, c3]; exact fileAt_new _ _
    refine ⟨by rw [List.drop_zero], ⟨[], hf0, by rw [List.drop_zero, hsw]; simp; omega⟩, ?_, ?_, fun y hy => ?_⟩
    · rw [c2]
      show x.d.n + 1 + _ ≤ _
      omega
    · rw [c2]
      show (x.d.T ++ [([], true)]).length ≤ _
      rw [List.length_append]
      simp only [List.length_cons, List.length_nil]
      omega
    · rw [c2] at hy
      rcases List.mem_append.1 (show y ∈ x.d.T ++ [([], true)] from hy) with hy | hy
      · exact h.t y hy
      · rw [List.mem_singleton.1 hy]; exact Nat.zero_le _
  · rw [c1] at h0; cases h0
  · rw [c1] at h0; cases h0
end
section
variable {F : Bool} {S : Script} {base g gd : Nat} {lab ownD : Nat → Nat} {f : Bool} {b : List UInt8} {x : SpD} {W : Lines} {Bs : List Nat} {o : Own78} {w w' : World}
def SpillEnd (F : Bool) (S : Script) (base g gd : Nat) (lab : Nat → Nat) (f : Bool) (b : List UInt8) (o : Own78) (W : Lines) (q : SpD × Int) (w : World) (e : Ending) (w' : World) : Prop :=
  ∃ x', SpTurns F S base g gd lab f b o W x' (.int .i64 q.2) w e w' ∧ x'.d = q.1.d ∧ (q.2 = 0 → x' = q.1)
set_option maxRecDepth 100000 in
set_option maxHeartbeats 8000000 in
theorem spill_any {Ms : List Lines} (h : SpRep F S base g gd lab ownD f b x W Bs o w) (hok : RdOk F x Ms) (hne : x.run ≠ []) :
    Calls Tryz.prog 106 #[.pointer (some ⟨g, 0, none⟩)] w (SpillEnd F S base g gd lab f b o W (spillD S F x) w) := by
  have hwl := weightL_length x.run
  have HS := Lib.hid (spSort_any h hne (by have := hok.wr; omega))
  have HOk := Lib.hid hok
  obtain ⟨q, hq⟩ : ∃ q, q = spillD S F x := ⟨_, rfl⟩
  have HQ := Lib.hid (show q = if createE S x.d ≠ 0 then (⟨createS S x.d, x.run, x.rs⟩, createE S x.d)
    else if (writeAll S (createN S x.d) (createS S x.d) (sortL F x.run)).2 ≠ 0 then (⟨(writeAll S (createN S x.d) (createS S x.d) (sortL F x.run)).1, x.run, x.rs⟩, (writeAll S (createN S x.d) (createS S x.d) (sortL F x.run)).2)
    else (⟨(writeAll S (createN S x.d) (createS S x.d) (sortL F x.run)).1, [], x.rs ++ [fresh (createN S x.d)]⟩, 0) from hq)
  rw [← hq]
  clear h hne hwl hq hok
  go_enter Tryz.func106, Tryz.ntmps106
  go_wp2_with fail
  refine HS.out.mono ?_
  rintro e w1 ⟨rfl, k1, k2⟩
  have H1 := Lib.hid k1
  have HW1 := Lib.hid k2
  have c74 := k1.row.c74
  rw [k1.dv] at c74
  unfold ptrV at c74
  have HCre := Lib.hid (create_any k1.disk (HOk.out.smallD.small (by decide) (by decide)))
  have HSt := Lib.hid (fun h0 => spAt_start (S := S) HOk.out h0)
  obtain ⟨E, hE⟩ : ∃ E, E = createE S x.d := ⟨_, rfl⟩
  obtain ⟨no, hno⟩ : ∃ no, no = createN S x.d := ⟨_, rfl⟩
  obtain ⟨dC, hdC⟩ : ∃ dC, dC = createS S x.d := ⟨_, rfl⟩
  simp only [← hE, ← hno, ← hdC] at HCre HSt HQ
  clear k1 k2 HS hE hno hdC
  go_wp2_with fail
  refine HCre.out.mono ?_
  rintro e w2 ⟨rfl, hl⟩
  obtain ⟨lab2, own2, k1, k2⟩ := H1.out.disks hl
  have H2 := Lib.hid k1
  have HW2 := Lib.hid (HW1.out.trans k2)
  clear hl k1 k2 c74 HCre H1 HW1
  by_cases h0 : E = 0
  case neg =>
    have f1 : (E != 0) = true := by simpa using h0
    rw [if_pos h0] at HQ
    have HE0 := Lib.hid h0
    clear h0
    go_wp2_with fail
    go_ret
    rw [HQ.out]
    exact ⟨⟨dC, sortL F x.run, x.rs⟩, ⟨rfl, lab2, own2, Bs, o, H2.out, HW2.out, .refl o⟩, rfl, fun e => absurd e HE0.out⟩
  case pos =>
    have f1 : (E != 0) = false := by simpa using h0
    rw [if_neg (by simpa using h0)] at HQ
    have hst := HSt.out h0
    obtain ⟨R, hR⟩ : ∃ R, R = writeAll S no dC (sortL F x.run) := ⟨_, rfl⟩
    rw [← hR] at hst HQ
    have HSt0 := Lib.hid hst
    have HFine := Lib.hid (HOk.out.fine.perm (sortL_perm F x.run).symm)
    have hlen : (sortL F x.run).length ≤ 256 := by
      rw [sortL_length]
      have := HOk.out.wr
      have := weightL_length x.run
      omega
    have hrs : x.rs.length ≤ 64 := by have := HOk.out.T; have := HOk.out.T64; omega
    have HRs := Lib.hid hrs
    obtain ⟨L, hL⟩ : ∃ L, L = sortL F x.run := ⟨_, rfl⟩
    rw [← hL] at HSt0 HFine hlen H2
    obtain ⟨a, c, hlv, hcap⟩ := H2.out.lines.cap
    have HLv := Lib.hid hlv
    have HCap := Lib.hid hcap
    have c75 := H2.out.row.c75
    rw [hlv] at c75
    have HL := Lib.hid hlen
    have hcap' : (L.length : Int) ≤ (c : Int) := by simp at hcap; omega
    clear h0 hst hR hlen hrs hL hlv hcap HSt HOk
    go_wp2_with fail
    go_loopw [26] (fun iv wr => ∃ (i : Nat) (lab3 own3 : Nat → Nat) (di : DSt), iv = .int .i64 i ∧ i ≤ L.length ∧ RowKit.Hid (SpRep F S base g gd lab3 own3 f b ⟨di, L, x.rs⟩ W Bs o wr) ∧ RowKit.Hid (Within lab lab3 w wr) ∧ RowKit.Hid (SpAt S no L R i di)) (fun iv _ => L.length - (intOf iv).toNat)
    case atStart => exact ⟨0, lab2, own2, dC, rfl, Nat.zero_le _, H2, HW2, HSt0⟩
    case round =>
      obtain ⟨i, lab3, own3, di, rfl, hi, HRk, HWk, HAt⟩ := hrel
      clear H2 HW2 HSt0 c75
      by_cases hlt : i < L.length
      · obtain ⟨l, hl⟩ : ∃ l, L[i]? = some l := ⟨_, List.getElem?_eq_getElem hlt⟩
        obtain ⟨a', c', hlv', hcell⟩ := HRk.out.lines.at
        have hlv2 := HLv.out
        rw [hlv2] at hlv'
        injection hlv' with e1 e2 e3
        subst e1 e3
        obtain ⟨gb, off, rfl, n2⟩ := hcell i l hl
        obtain ⟨SL, hSL⟩ : ∃ SL : ByteArray, strV l = .string SL := ⟨_, rfl⟩
        rw [hSL] at n2
        have c74 := HRk.out.row.c74
        rw [HRk.out.dv] at c74
        unfold ptrV at c74
        have hlf := HFine.out l (List.mem_of_getElem? hl)
        have hstep := HAt.out.step HFine.out hl
        have HJn := Lib.hid (join_any (.slice (some ⟨wr.drew.heap.size, 0, none⟩) 1 1) [l] (wr.drew.alloc (.cells #[.string SL] 9)) (text_one wr.drew l SL hSL (0, 0)) (by simp) (by rw [joinL_one]; have := hlf.1; simp; omega))
        rw [joinL_one] at HJn
        have HWr := Lib.hid (fun (w2 : World) (hb : Below wr.heap.size wr w2) (x : Value) (b0 : Nat) (hb0 : wr.heap.size ≤ b0) (ho : w2.ownsRow b0 5 1 x (l ++ [10]).length (bytesL (l ++ [10]))) =>
          (write_any (HRk.out.disk.below hb) HAt.out.small HAt.out.no64 x (l ++ [10]) (isBytes_of_owns ho) (fun i hi => by
            cases hz : own3 i with
            | zero => rfl
            | succ m => have := (HRk.out.disk.bnd i (by rw [hz]; exact Nat.succ_ne_zero _)).2; omega)).mono fun e w3 hh => (⟨hh.1, hh.2.of_below hb⟩ : e = .returned (.int .i64 (writeE S di no (l ++ [10]))) ∧ DiskLeft base gd own3 S (writeS S di no (l ++ [10])) wr w3))
        obtain ⟨y, hy⟩ : ∃ y, y = l ++ [10] := ⟨_, rfl⟩
        rw [← hy] at HJn HWr hstep
        have HC74 := Lib.hid (fun (w2 : World) (hb : Below wr.heap.size wr w2) => (World.cell?_of_block (a := ⟨g, 74, none⟩) (w := wr) (hb.block g HRk.out.row.lt)).trans c74)
        have hb0 : Below wr.heap.size wr (wr.drew.alloc (.cells #[.string SL] 9)) := ((Below.refl _ _).drew).alloc (Nat.le_refl _) _
        have HB0 := Lib.hid hb0
        obtain ⟨EW, hEW⟩ : ∃ EW, EW = writeE S di no y := ⟨_, rfl⟩
        obtain ⟨dW, hdW⟩ : ∃ dW, dW = writeS S di no y := ⟨_, rfl⟩
        simp only [← hEW, ← hdW] at HWr hstep
        have HStep := Lib.hid hstep
        have HLt := Lib.hid hlt
        have q1 : (i : Int) < (L.length : Int) := by omega
        have q2 : IntKind.i64.wrap ((i : Int) + 1) = (i : Int) + 1 := by rw [IntKind.wrap_i64]; have := HL.out; omega
        clear hcell hlv2 e2 hl hSL hlf hstep hb0 hy hEW hdW hi
        go_upto_region 8 with fail
        go_cut [7] (fun x Wd => x = .int .i64 EW ∧ RowKit.Hid (DiskLeft base gd own3 S dW wr Wd))
        case first =>
          have HS3 := Lib.hid (fun (w3 : World) (hl : DiskLeft base gd own3 S dW wr w3) => (by
            obtain ⟨o3, -, -, e3⟩ := hl
            exact e3.cell? c74 (fun e => e (HRk.out.own0 (by rw [HRk.out.glab]; decide))) : w3.cell? ⟨g, 74, none⟩ = some (.pointer (some ⟨gd, 0, none⟩))))
          have hw : wr.drew.cell? ⟨g, 74, none⟩ = some (.pointer (some ⟨gd, 0, none⟩)) := c74
          clear n2 c74
          refine anyG_start (S := fun W => W.cell? ⟨g, 74, none⟩ = some (.pointer (some ⟨gd, 0, none⟩))) (by kernel_rfl) ?_
          generalize hWd : wr.drew = Wd at hw HJn HB0 ⊢
          clear hWd
          refine anyG_take (i := 0) 30 (.pointer (some ⟨g, 0, none⟩)) rfl rfl (by kernel_rfl) (by kernel_rfl) (by kernel_rfl) rfl (fun _ _ => by go_simp) hw ?_
          simp only [Act.put, List.setIfInBounds_toArray, List.set_cons_succ, List.set_cons_zero]
          refine anyG_take (i := 1) 31 (.pointer (some ⟨g, 0, none⟩)) rfl rfl (by kernel_rfl) (by kernel_rfl) (by kernel_rfl) rfl (fun _ _ => by go_simp) hw ?_
          simp only [Act.put, List.setIfInBounds_toArray, List.set_cons_succ, List.set_cons_zero]
          refine anyG_take (i := 2) 32 (.pointer (some ⟨g, 74, none⟩)) rfl rfl (by kernel_rfl) (by kernel_rfl) (by kernel_rfl) rfl (fun _ _ => by go_simp) hw ?_
          simp only [Act.put, List.setIfInBounds_toArray, List.set_cons_succ, List.set_cons_zero]
          refine anyG_take (i := 3) 33 (.pointer (some ⟨gd, 0, none⟩)) rfl rfl (by kernel_rfl) (by kernel_rfl) (by kernel_rfl) rfl (fun W h => by have z := h; go_simp) hw ?_
          simp only [Act.put, List.setIfInBounds_toArray, List.set_cons_succ, List.set_cons_zero]
          refine anyG_take (i := 4) 34 (.int .i64 no) rfl rfl (by kernel_rfl) (by kernel_rfl) (by kernel_rfl) rfl (fun _ _ => by go_simp) hw ?_
          simp only [Act.put, List.setIfInBounds_toArray, List.set_cons_succ, List.set_cons_zero]
          refine anyG_take (i := 5) 35 (.string SL) rfl rfl (by kernel_rfl) (by kernel_rfl) (by kernel_rfl) rfl (fun _ _ => by go_simp) hw ?_
          simp only [Act.put, List.setIfInBounds_toArray, List.set_cons_succ, List.set_cons_zero]
          refine anyG_step (i := 6) rfl (by kernel_rfl) rfl (fun K hK => ?_)
          go_simp
          refine hK.out _ _ (HC74.out _ HB0.out) ?_
          clear hK K
          try simp only [Act.put, List.setIfInBounds_toArray, List.set_cons_succ, List.set_cons_zero]
          refine anyG_step (i := 7) rfl (by kernel_rfl) rfl (fun K hK => ?_)
          go_simp
          refine HJn.out.mono ?_
          rintro e w5 ⟨xv, rfl, ho, hb⟩
          have HB := Lib.hid (HB0.out.trans (hb.mono HB0.out.size))
          have HO := Lib.hid ho
          obtain ⟨xa, xc, rfl⟩ := owns_slice ho
          clear ho hb
          refine hK.out _ _ (HC74.out _ HB.out) ?_
          clear hK K
          try simp only [Act.put, List.setIfInBounds_toArray, List.set_cons_succ, List.set_cons_zero]
          refine anyG_step (i := 8) rfl (by kernel_rfl) rfl (fun K hK => ?_)
          go_simp
          refine (HWr.out _ HB.out _ _ HB0.out.size HO.out).mono ?_
          rintro e w6 ⟨rfl, hleft⟩
          have HLf := Lib.hid hleft
          clear hleft
          refine hK.out _ _ (HS3.out _ HLf.out) ?_
          clear hK K
          try simp only [Act.put, List.setIfInBounds_toArray, List.set_cons_succ, List.set_cons_zero]
          refine anyG_take (i := 9) 7 (.int .i64 EW) rfl rfl (by kernel_rfl) (by kernel_rfl) (by kernel_rfl) rfl (fun _ _ => rfl) (HS3.out _ HLf.out) ?_
          simp only [Act.put, List.setIfInBounds_toArray, List.set_cons_succ, List.set_cons_zero]
          refine anyG_done (by kernel_rfl) ?_
          go_wp2_with fail
          go_meet
          case rel => exact ⟨rfl, HLf⟩
        case rest =>
        obtain ⟨rfl, HLf⟩ := hcut
        obtain ⟨lab4, own4, k1, k2⟩ := HRk.out.disks HLf.out
        have H4 := Lib.hid k1
        have HW4 := Lib.hid (HWk.out.trans k2)
        clear k1 k2 HLf HRk HWk c74 n2 HJn HWr HC74 HB0 HAt
        by_cases h0 : EW = 0
        case neg =>
          have f2 : (EW != 0) = true := by simpa using h0
          have hRn : R = (dW, EW) := HStep.out.1 h0
          rw [hRn, if_pos h0] at HQ
          have HE0 := Lib.hid h0
          clear h0 hRn
          go_wp2_with fail
          go_ret
          rw [HQ.out]
          exact ⟨⟨dW, L, x.rs⟩, ⟨rfl, lab4, own4, Bs, o, H4.out, HW4.out, .refl o⟩, rfl, fun e => absurd e HE0.out⟩
        case pos =>
          have f2 : (EW != 0) = false := by simpa using h0
          have HNx := Lib.hid (HStep.out.2 h0)
          clear h0 HStep
          go_wp2_with fail
          go_roundw
          case rel => exact ⟨i + 1, lab4, own4, dW, by go_num, HLt.out, H4, HW4, HNx⟩
          case measure => have := HLt.out; simp [intOf]; omega
      · obtain rfl : i = L.length := by omega
        have v1 : ¬ ((L.length : Int) < (L.length : Int)) := by omega
        rw [HAt.out.done, if_neg (by simp)] at HQ
        obtain ⟨lab5, k1, k2⟩ := HRk.out.relined (L := []) (X := fun _ => False) (lv := .slice none 0 0) (fun _ e => e.elim) (Frame.refl _ _) (.nil _ (fun _ e => e))
        have c75 := HRk.out.row.c75
        have z75 := HRk.out.row.froz 75
        have H5 := Lib.hid k1
        have HW5 := Lib.hid (HWk.out.trans k2)
        clear hlt hi k1 k2 HRk HWk HAt
        go_upto_region 13 with fail
        generalize wr.setCell ⟨g, 75, none⟩ (.slice none 0 0) = w5 at H5 HW5 ⊢
        have c76 := H5.out.row.c76
        have z76 := H5.out.row.froz 76
        have hg5 := H5.out.row.lt
        have hown := H5.out.runs
        have hbs := H5.out.bnd g (by rw [H5.out.glab]; decide)
        obtain ⟨ra, rc, hrv⟩ := owns_slice hown
        have HRv := Lib.hid hrv
        have HOwn := Lib.hid hown
        have HLen := Lib.hid H5.out.len
        have HBs := Lib.hid hbs
        rw [show ({ o with lv := .slice none 0 0 } : Own78).rv = o.rv from rfl] at hrv c76
        rw [hrv] at c76
        clear hown hrv hbs c75 z75
        go_upto_region 14 with (first | (with_reducible refine wpList_build1 rfl 143 0 (.tmp 51) rfl (.int .i64 no) rfl _ (Tryz.built_run no) ?_) | (at_builtin; refine wpList_append_ptr rfl _ _ rfl (base := base) (Bs := Bs) w5.heap.size (w5.heap.size + 1) rfl ?own rfl ?src ?len ?bas ?_))
        case own => exact Frame.owns ((Frame.refl (fun _ => False) w5).alloc _ |>.alloc _) (by rw [← HRv.out]; exact HOwn.out) (fun _ _ e => e)
        case src => rfl
        case len => have := HLen.out; have := HRs.out; simp at *; omega
        case bas => have := HBs.out; simp; omega
        intro v' w7 ho hf hv
        rw [← HRv.out] at hf hv
        have hA : Frame (fun _ => False) w5 (w5.alloc (.cells #[.int .i64 no, .int .i64 0, .string ByteArray.empty, .bool false] 143)) := (Frame.refl (fun _ => False) w5).alloc _
        have hN := (hA.trans ((Frame.refl (fun _ => False) _).alloc (.cells #[.pointer (some ⟨w5.heap.size, 0, none⟩)] 141)))
        have hF : Frame (fun k => lab5 k = 4) w5 w7 := (hN.mono (fun _ _ e => e.elim)).then hf (fun k _ e => H5.out.rlab k e)
        have hnew : RunAt w5.heap.size (fresh no) w7 := by
          have e1 := heap_alloc_last w5 (.cells #[.int .i64 no, .int .i64 0, .string ByteArray.empty, .bool false] 143)
          have e2 := ((Frame.refl (fun _ => False) (w5.alloc (.cells #[.int .i64 no, .int .i64 0, .string ByteArray.empty, .bool false] 143))).alloc (.cells #[.pointer (some ⟨w5.heap.size, 0, none⟩)] 141)).heap e1 (fun e => e)
          exact hf.heap e2 (fun e => by have := (H5.out.bnd _ (by rw [H5.out.rlab _ e]; decide)).2; omega)
        have row7 := H5.out.row.frame hF (by rw [H5.out.glab]; decide)
        have c76 := row7.c76
        have z76 := row7.froz 76
        rw [show ({ o with lv := .slice none 0 0 } : Own78).rv = o.rv from rfl, HRv.out] at c76
        obtain ⟨lab6, k1, k2⟩ := H5.out.reruns (Bs' := Bs ++ [w5.heap.size]) (rs' := x.rs ++ [fresh no]) hF (by simpa using ho) (fun k hk => by
          rcases hv with e | e
          · rw [e] at hk; exact .inl (H5.out.rlab k hk)
          · rw [e] at hk; injection hk with hk; exact .inr (by omega)) (by have := HLen.out; simp at *; omega) (fun j k r h1 h2 => by
          by_cases hj : j < Bs.length
          · rw [List.getElem?_append_left hj] at h1
            rw [List.getElem?_append_left (by have := HLen.out; simp at *; omega)] at h2
            exact (H5.out.run j k r h1 h2).frame hF (by rw [H5.out.blab k (List.mem_of_getElem? h1)]; decide)
          · rw [List.getElem?_append_right (by omega)] at h1
            rw [List.getElem?_append_right (by have := HLen.out; simp at *; omega)] at h2
            have e1 := List.mem_singleton.1 (List.mem_of_getElem? h1)
            have e2 := List.mem_singleton.1 (List.mem_of_getElem? h2)
            rw [e1, e2]
            exact hnew) (fun k hk => by
          rcases List.mem_append.1 hk with hk | hk
          · exact .inl (H5.out.blab k hk)
          · rw [List.mem_singleton.1 hk]
            refine .inr ⟨Nat.le_refl _, fun e => ?_⟩
            rcases hv with e2 | e2
            · rw [e2] at e
              have := (H5.out.bnd _ (by rw [H5.out.rlab _ e]; decide)).2
              omega
            · rw [e2] at e; injection e with e; omega) (by
          rw [List.nodup_append]
          refine ⟨H5.out.nodup, by simp, fun a ha b hb e => ?_⟩
          rw [List.mem_singleton.1 hb] at e
          have := (H5.out.bnd a (by rw [H5.out.blab a ha]; decide)).2
          omega)
        have H6 := Lib.hid k1
        have HW6 := Lib.hid (HW5.out.trans k2)
        obtain ⟨va, vc, hve⟩ := owns_slice ho
        subst hve
        clear k1 k2 hA hN hF hnew row7 hf hv ho
        go_wp2_with fail
        go_ret
        rw [HQ.out]
        exact ⟨_, ⟨rfl, lab6, _, _, _, H6.out, HW6.out, ⟨rfl, rfl, rfl, rfl⟩⟩, rfl, fun _ => rfl⟩
end

end Go.Proofs.YtpgigpajpcianaaGreatDoor

namespace Go.Proofs.YtpgigpajpcianaaGreatDoor
open Go.RowKit

theorem Frame.ofAlloc {p : Nat → Prop} {w w' : World} {o : Obj} (hf : Frame p (w.alloc o) w') : Frame p w w' := ((Frame.refl p w).alloc o).trans hf
theorem weightL_sum (L : Lines) : weightL L = keptSum L + L.length := by
  induction L with
  | nil => rfl
  | cons l L ih => rw [weightL_cons, ih]; simp [keptSum]; omega
section
variable {F : Bool} {S : Script} {base g gd : Nat} {lab ownD : Nat → Nat} {f : Bool} {b : List UInt8} {x : SpD} {W : Lines} {Bs : List Nat} {o : Own78} {w w' : World}
theorem SpRep.rewait (h : SpRep F S base g gd lab ownD f b x W Bs o w) {W' : Lines} {X : Nat → Prop} {f' : Bool} {b' : List UInt8} {o' : Own78} (hf : Frame (fun k => k = g ∨ lab k = 2) w w') (hr : RowAt78 F g f' b' o' w') (h2 : o'.lv = o.lv) (h3 : o'.rv = o.rv) (h4 : o'.dv = o.dv)
    (hk : KeptIn w' o'.wv X W') (hX : ∀ k, X k → lab k = 2 ∨ w.heap.size ≤ k) : ∃ lab', SpRep F S base g gd lab' ownD f' b' x W' Bs o' w' ∧ Within lab lab' w w' := by
  have hX2 : ∀ k, X k → lab k = 2 ∨ lab k = 0 := fun k hk => (hX k hk).imp_right (fun e => h.lab0 e)
  have ho : ∀ {j : Nat}, j ≠ 0 → j ≠ 2 → ∀ k, relab 2 X lab k = j ↔ lab k = j := fun h0 h3 k => relab_other h0 h3 hX2 k
  have hfr : ∀ {j : Nat}, j ≠ 2 → j ≠ 1 → ∀ k, lab k = j → ¬ (k = g ∨ lab k = 2) := fun h3 h1 k hk e => by
    rcases e with e | e
    · rw [e, h.glab] at hk; exact h1 hk.symm
    · rw [e] at hk; exact h3 hk.symm
  have hgb := h.bnd g (by rw [h.glab]; decide)
  refine ⟨relab 2 X lab, ⟨hr, hk.congr (fun k => relab_self (by decide) k), ?_, ?_, fun k hk => ?_, by rw [h4]; exact h.dv, h.disk.frame hf (fun k e => by rcases e with e | e; exact h.own0 (by rw [e, h.glab]; decide); exact h.own0 (by rw [e]; decide)), h.len, fun j k r h1 h2 => (h.run j k r h1 h2).frame hf (hfr (by decide) (by decide) k (h.blab k (List.mem_of_getElem? h1))),
    fun k hk => (ho (by decide) (by decide) k).2 (h.blab k hk), fun k hk => (ho (by decide) (by decide) k).2 (h.dlab k hk), (ho (by decide) (by decide) g).2 h.glab, fun k hk0 => ?_, h.low, h.max.frame hf (fun e => ?_), h.nodup⟩, fun k hk0 => ?_, hf.mono (fun k _ e => by rcases e with e | e; rw [e, h.glab]; decide; rw [e]; decide)⟩
  · rw [h2]
    exact (h.lines.frame hf (fun k hk => hfr (by decide) (by decide) k hk)).congr (fun k => ho (by decide) (by decide) k)
  · rw [h3]
    exact hf.owns h.runs (fun k hk => hfr (by decide) (by decide) k (h.rlab k hk))
  · rw [h3] at hk
    exact (ho (by decide) (by decide) k).2 (h.rlab k hk)
  · rcases relab_ne hk0 with e | e
    · exact ⟨(h.bnd k e).1, Nat.lt_of_lt_of_le (h.bnd k e).2 hf.size⟩
    · refine ⟨?_, hk.old k e⟩
      rcases hX k e with e2 | e2
      · exact (h.bnd k (by rw [e2]; decide)).1
      · omega
  · rcases e with e | e
    · have := h.mlab; rw [show mxV = g from e, h.glab] at this; cases this
    · have := h.mlab; have e' : lab mxV = 2 := e; rw [e'] at this; cases this
  · rcases relab_ne hk0 with e | e
    · exact .inl e
    · exact (hX k e).imp_left (fun e => by rw [e]; decide)
theorem SpRep.took {l : List UInt8} {r : Lines} (h : SpRep F S base g gd lab ownD f b x (l :: r) Bs o w) (hr : r.length ≤ 5000) :
    Calls Tryz.prog 82 #[.pointer (some ⟨g, 5, none⟩)] w fun e w' => e = .returned (.tuple #[strV l, .bool true]) ∧ ∃ lab' o', SpRep F S base g gd lab' ownD f b x r Bs o' w' ∧ Within lab lab' w w' ∧ KeepO o o' := by
  refine (qtake_any (h.row.queue h.wait (by rw [h.glab]; decide)) hr).mono ?_
  rintro e w1 ⟨X', wv', rfl, hq, hx, hf⟩
  obtain ⟨lab', k1, k2⟩ := h.rewait (X := X') (hf.mono (fun _ _ e => e)) (RowAt78.of_queue hq) rfl rfl rfl hq.kept hx
  exact ⟨rfl, lab', _, k1, k2, ⟨rfl, rfl, rfl, rfl⟩⟩
theorem SpRep.tookNone (h : SpRep F S base g gd lab ownD f b x [] Bs o w) : Calls Tryz.prog 82 #[.pointer (some ⟨g, 5, none⟩)] w (Says w (.tuple #[strV [], .bool false])) :=
  qtake_none (h.row.queue h.wait (by rw [h.glab]; decide))
theorem SpRep.overs (h : SpRep F S base g gd lab ownD f b x W Bs o w) : Calls Tryz.prog 85 #[.pointer (some ⟨g, 5, none⟩)] w (Says w (.bool (o.ov && W.isEmpty))) :=
  qover_any (h.row.queue h.wait (by rw [h.glab]; decide))
set_option maxRecDepth 100000 in
set_option maxHeartbeats 8000000 in
theorem spAdd_any {Ms : List Lines} (h : SpRep F S base g gd lab ownD f b x W Bs o w) (hok : RdOk F x Ms) (l : List UInt8) (hl : l.length ≤ 64) :
    Calls Tryz.prog 83 #[.pointer (some ⟨g, 0, none⟩), strV l] w (SpillEnd F S base g gd lab f b o W (takeD S F x l) w) := by
  have hwl := weightL_length x.run
  have hws := weightL_sum x.run
  have hwr := hok.wr
  have H0 := Lib.hid (h.below ((Below.refl _ _).drew))
  have HW0 := Lib.hid ((Within.refl lab w).drew)
  have HOk := Lib.hid hok
  have HSz := Lib.hid (sizeOf_any H0.out.lines (by omega) (fun l hl => (hok.fine l hl).1))
  have c75 := h.row.c75
  obtain ⟨la, lc, hlv, hcap⟩ := h.lines.cap
  rw [hlv] at c75 HSz
  obtain ⟨A, hA⟩ : ∃ A : ByteArray, strV l = .string A := ⟨_, rfl⟩
  have hsz := strV_size hA
  have HA := Lib.hid hA
  rw [hA]
  have v1 : IntKind.i64.wrap ((keptSum x.run : Int) + (x.run.length : Int)) = (weightL x.run : Int) := by rw [IntKind.wrap_i64]; omega
  have v2 : IntKind.i64.wrap ((weightL x.run : Int) + (A.size : Int)) = (weightL x.run : Int) + (A.size : Int) := by rw [IntKind.wrap_i64]; omega
  have v3 : IntKind.i64.wrap ((weightL x.run : Int) + (A.size : Int) + 1) = (weightL x.run : Int) + (A.size : Int) + 1 := by rw [IntKind.wrap_i64]; omega
  have HSize := Lib.hid hsz
  have HHl := Lib.hid hl
  have HWr := Lib.hid hwr
  have HWl := Lib.hid hwl
  obtain ⟨q, hq⟩ : ∃ q, q = takeD S F x l := ⟨_, rfl⟩
  have HQ := Lib.hid (show q = if 256 < weightL x.run + l.length + 1 then if (spillD S F x).2 ≠ 0 then spillD S F x else (⟨(spillD S F x).1.d, (spillD S F x).1.run ++ [l], (spillD S F x).1.rs⟩, 0) else (⟨x.d, x.run ++ [l], x.rs⟩, 0) from hq)
  rw [← hq]
  have q0 : (x.run.length : Int) ≤ (lc : Int) := by omega
  clear h hok hq hlv hcap hA hsz hl hwr hwl hws
  go_enter Tryz.func83, Tryz.ntmps83
  go_upto_region 1 with fail
  go_cut [5] (fun v W => v = .int .i64 (weightL x.run) ∧ W = w.drew)
  case first =>
    go_region_with (go_at_call 78; refine HSz.out.mono ?_; rintro e w1 ⟨rfl, rfl⟩)
    all_goals
      go_wp2_with fail
      go_meet
      case rel => exact ⟨rfl, rfl⟩
  case rest =>
  obtain ⟨rfl, rfl⟩ := hcut
  have HSp := Lib.hid (fun hne => spill_any H0.out HOk.out hne)
  have hlr : x.run.length ≤ 1000 := by have := HWr.out; have := HWl.out; omega
  generalize w.drew = w0 at H0 HW0 HSp HSz ⊢
  clear c75 q0 HSz
  by_cases hw : 256 < weightL x.run + l.length + 1
  · have g1 : (256 : Int) < (weightL x.run : Int) + (A.size : Int) + 1 := by rw [HSize.out]; omega
    rw [if_pos hw] at HQ
    have hne : x.run ≠ [] := fun e => by rw [e, weightL_nil] at hw; have := HHl.out; omega
    have HSp2 := Lib.hid (HSp.out hne)
    have hsp := spill_is (S := S) HOk.out hne
    have HS3 := Lib.hid hsp.2.2
    obtain ⟨Q, hQ⟩ : ∃ Q, Q = spillD S F x := ⟨_, rfl⟩
    rw [← hQ] at HSp2 HQ HS3
    clear hw HSp hne hsp hQ
    go_wp2_with fail
    refine HSp2.out.mono ?_
    rintro e w2 ⟨x', ⟨rfl, lab2, own2, Bs2, o2, k1, k2, k3⟩, k4, k5⟩
    have HX := Lib.hid k1
    have HWX := Lib.hid (HW0.out.trans k2)
    have HKX := Lib.hid k3
    have HX4 := Lib.hid k4
    have HX5 := Lib.hid k5
    clear k1 k2 k3 k4 k5 HSp2 H0 HW0
    obtain ⟨E, hE⟩ : ∃ E, E = Q.2 := ⟨_, rfl⟩
    rw [← hE] at HX5 HQ HS3 ⊢
    have HE := Lib.hid hE
    clear hE
    by_cases h0 : E = 0
    · have f1 : (E != 0) = false := by simpa using h0
      rw [if_neg (by simpa using h0)] at HQ
      have hx' := HX5.out h0
      have hr0 := (HS3.out h0).1
      rw [← hx'] at HQ hr0
      have HLX := Lib.hid (show x'.run.length ≤ 1000 by rw [hr0]; exact Nat.zero_le _)
      clear hx' hr0 h0 HX4 HX5 HS3
      go_upto_region 6 with fail
      obtain ⟨ka, kc, hlv, hcap⟩ := HX.out.lines.cap
      have c75 := HX.out.row.c75
      have hk0 := HX.out.lines.frame ((Frame.refl (fun _ => False) _).alloc (.cells #[.string A] 9)) (fun _ _ e => e)
      rw [hlv] at c75 hk0
      have HK0 := Lib.hid hk0
      have HLv := Lib.hid hlv
      clear hlv hk0
      go_upto_region 7 with (at_builtin; refine wpList_append_kept rfl _ _ rfl _ _ _ rfl HK0.out _ l rfl ?src ?len ?_)
      case src => first | exact HA.out.symm | (rw [cell_of_row _ _ _ _ _ _ (heap_alloc_last _ _), HA.out]; rfl)
      case len => have := HLX.out; omega
      intro v' w3 X' hk2 hf2 hx2
      obtain ⟨va, vc, hve⟩ := hk2.slice2
      subst hve
      have hF := Frame.ofAlloc hf2
      have row3 := HX.out.row.frame hF (by rw [HX.out.glab]; decide)
      have c75 := row3.c75
      have z75 := row3.froz 75
      rw [HLv.out] at c75
      obtain ⟨lab7, k1, k2⟩ := HX.out.relined (fun k hk => (hx2 k hk).imp_right (fun e => by (try rw [World.size_alloc] at e); omega)) hF hk2
      have H7 := Lib.hid k1
      have HW7 := Lib.hid (HWX.out.trans k2)
      clear k1 k2 hF hf2 hx2 hk2 row3
      go_wp2_with fail
      go_ret
      rw [HQ.out]
      exact ⟨_, ⟨rfl, lab7, _, _, _, H7.out, HW7.out, HKX.out.trans ⟨rfl, rfl, rfl, rfl⟩⟩, rfl, fun _ => rfl⟩
    · have f1 : (E != 0) = true := by simpa using h0
      rw [if_pos h0] at HQ
      have HE0 := Lib.hid h0
      clear h0
      go_wp2_with fail
      go_ret
      rw [HQ.out, HE.out]
      exact ⟨x', ⟨rfl, lab2, own2, Bs2, o2, HX.out, HWX.out, HKX.out⟩, HX4.out, fun e => absurd (HE.out.trans e) HE0.out⟩
  · have g1 : ¬ (256 : Int) < (weightL x.run : Int) + (A.size : Int) + 1 := by rw [HSize.out]; omega
    rw [if_neg hw] at HQ
    have HX := H0
    have HWX := HW0
    have HKX := Lib.hid (KeepO.refl o)
    have HLX := Lib.hid hlr
    clear hw HSp H0 HW0
    go_upto_region 6 with fail
    obtain ⟨ka, kc, hlv, hcap⟩ := HX.out.lines.cap
    have c75 := HX.out.row.c75
    have hk0 := HX.out.lines.frame ((Frame.refl (fun _ => False) _).alloc (.cells #[.string A] 9)) (fun _ _ e => e)
    rw [hlv] at c75 hk0
    have HK0 := Lib.hid hk0
    have HLv := Lib.hid hlv
    clear hlv hk0
    go_upto_region 7 with (at_builtin; refine wpList_append_kept rfl _ _ rfl _ _ _ rfl HK0.out _ l rfl ?src ?len ?_)
    case src => first | exact HA.out.symm | (rw [cell_of_row _ _ _ _ _ _ (heap_alloc_last _ _), HA.out]; rfl)
    case len => have := HLX.out; omega
    intro v' w3 X' hk2 hf2 hx2
    obtain ⟨va, vc, hve⟩ := hk2.slice2
    subst hve
    have hF := Frame.ofAlloc hf2
    have row3 := HX.out.row.frame hF (by rw [HX.out.glab]; decide)
    have c75 := row3.c75
    have z75 := row3.froz 75
    rw [HLv.out] at c75
    obtain ⟨lab7, k1, k2⟩ := HX.out.relined (fun k hk => (hx2 k hk).imp_right (fun e => by (try rw [World.size_alloc] at e); omega)) hF hk2
    have H7 := Lib.hid k1
    have HW7 := Lib.hid (HWX.out.trans k2)
    clear k1 k2 hF hf2 hx2 hk2 row3
    go_wp2_with fail
    go_ret
    rw [HQ.out]
    exact ⟨_, ⟨rfl, lab7, _, _, _, H7.out, HW7.out, HKX.out.trans ⟨rfl, rfl, rfl, rfl⟩⟩, rfl, fun _ => rfl⟩
end

end Go.Proofs.YtpgigpajpcianaaGreatDoor

namespace Go.Proofs.YtpgigpajpcianaaGreatDoor
open Go.RowKit

def pieceV (g : Nat) (kept : Bool) : Value := .func (.func (if kept then 109 else 112)) #[.pointer (some ⟨g, 0, none⟩)] #[]
structure SpSt (F : Bool) (S : Script) (base g gd : Nat) (lab ownD : Nat → Nat) (s : SpS) (W : Lines) (Bs : List Nat) (o : Own78) (w : World) : Prop where
  rep : SpRep F S base g gd lab ownD false s.b s.x W Bs o w
  nd : o.nd = s.need
  ov : o.ov = s.ov
  raw : o.raw = s.raw
  pc : s.need = -2 → o.pc = pieceV g s.kept
def SpGives (F : Bool) (S : Script) (base g gd : Nat) (lab : Nat → Nat) (q : SpS × Outs × Int) (w : World) (e : Ending) (w' : World) : Prop :=
  ∃ v lab' ownD' Bs' o', e = .returned (.tuple #[v, .int .i64 q.2.2]) ∧ OwnOuts w.heap.size w' v q.2.1 ∧ SpSt F S base g gd lab' ownD' q.1 [] Bs' o' w' ∧ Within lab lab' w w'
def SpBecomes (F : Bool) (S : Script) (base g gd : Nat) (lab : Nat → Nat) (s : SpS) (v : Value) (w : World) (e : Ending) (w' : World) : Prop :=
  e = .returned v ∧ ∃ lab' ownD' Bs' o', SpSt F S base g gd lab' ownD' s [] Bs' o' w' ∧ Within lab lab' w w'
section
variable {F : Bool} {S : Script} {base g gd : Nat} {lab ownD : Nat → Nat} {f : Bool} {b : List UInt8} {x : SpD} {W : Lines} {Bs : List Nat} {o : Own78} {w w' : World} {s : SpS}
theorem SpRep.deadW (h : SpRep F S base g gd lab ownD f b x W Bs o w) (hf : Frame (· = g) w w') : Within lab (deadLab g ownD) w w' := by
  refine ⟨fun k hk => .inl ?_, hf.mono (fun k _ e => by rw [e, h.glab]; decide)⟩
  unfold deadLab at hk
  by_cases e : k = g
  · rw [e, h.glab]; decide
  · rw [if_neg e] at hk
    by_cases e2 : ownD k ≠ 0
    · rw [h.dlab k e2]; decide
    · rw [if_neg e2] at hk; exact absurd rfl hk
theorem SpRep.stops (h : SpRep F S base g gd lab ownD f b x W Bs o w) : Calls Tryz.prog 71 #[.pointer (some ⟨g, 0, none⟩)] w (SpBecomes F S base g gd lab (deadS x.d o.raw) (.tuple #[]) w) := by
  refine (spStop_any h.row).mono ?_
  rintro e w1 ⟨rfl, h1, hf⟩
  exact ⟨rfl, _, ownD, [], deadO o, ⟨h.dead hf h1, rfl, rfl, rfl, fun e => by cases e⟩, h.deadW hf⟩
theorem SpRep.fails (h : SpRep F S base g gd lab ownD f b x W Bs o w) (er : Int) : Calls Tryz.prog 84 #[.pointer (some ⟨g, 0, none⟩), .int .i64 er] w (SpBecomes F S base g gd lab (deadS x.d (if er = 25 then x.d.id else o.raw)) (.int .i64 er) w) := by
  refine (spFail_any h.row h.disk h.dv er).mono ?_
  rintro e w1 ⟨rfl, h1, hf⟩
  have h2 : SpRep F S base g gd lab ownD f b x W Bs { o with raw := if er = 25 then x.d.id else o.raw } (w.setCell ⟨g, 77, none⟩ (.int .i64 (if er = 25 then x.d.id else o.raw))) := h.own (Frame.cell w ⟨g, 77, none⟩ _) (h.row.set77 _) rfl rfl rfl rfl
  have hf2 : Frame (· = g) (w.setCell ⟨g, 77, none⟩ (.int .i64 (if er = 25 then x.d.id else o.raw))) w1 := ⟨hf.os, hf.tape, hf.output, by simpa [World.setCell] using hf.size, fun k hk hp => by
    rw [hf.block k (by simpa [World.setCell] using hk) hp]
    exact ((Frame.cell w ⟨g, 77, none⟩ (.int .i64 (if er = 25 then x.d.id else o.raw))).block k (by simpa [World.setCell] using hk) hp).symm⟩
  exact ⟨rfl, _, ownD, [], FailO o er x.d.id, ⟨h2.dead hf2 h1, rfl, rfl, rfl, fun e => by cases e⟩, h.deadW hf⟩
theorem SpSt.next {lab1 : Nat → Nat} {w1 : World} {v : Value} {e : Ending} {w2 : World} (hw : Within lab lab1 w w1) (h : SpBecomes F S base g gd lab1 s v w1 e w2) : SpBecomes F S base g gd lab s v w e w2 := by
  obtain ⟨h1, lab', ownD', Bs', o', h2, h3⟩ := h
  exact ⟨h1, lab', ownD', Bs', o', h2, hw.trans h3⟩
set_option maxRecDepth 100000 in
set_option maxHeartbeats 4000000 in
theorem beginKept_none (h : SpRep F S base g gd lab ownD f b x W Bs o w) (hx : x.run = []) :
    Calls Tryz.prog 86 #[.pointer (some ⟨g, 0, none⟩)] w (SpBecomes F S base g gd lab (deadS x.d o.raw) (.tuple #[]) w) := by
  have c75 := h.row.c75
  obtain ⟨la, lc, hlv, hcap⟩ := h.lines.cap
  rw [hlv, hx] at c75
  simp only [List.length_nil] at c75
  have HS := Lib.hid h.stops
  clear h hx hlv hcap
  go_enter Tryz.func86, Tryz.ntmps86
  go_wp2_with fail
  refine HS.out.mono ?_
  rintro e w1 hb
  have hb1 := hb.1
  subst hb1
  have HB := Lib.hid hb
  clear hb c75
  go_wp2_with fail
  go_returns
  exact HB.out
set_option maxRecDepth 100000 in
set_option maxHeartbeats 4000000 in
theorem beginKept_some (h : SpRep F S base g gd lab ownD false b x [] Bs o w) (hx : x.run ≠ []) (hl : x.run.length ≤ 1000) :
    Calls Tryz.prog 86 #[.pointer (some ⟨g, 0, none⟩)] w (SpBecomes F S base g gd lab ⟨-2, b, o.ov, true, ⟨x.d, sortL F x.run, x.rs⟩, o.raw⟩ (.tuple #[]) w) := by
  have c75 := h.row.c75
  obtain ⟨la, lc, hlv, hcap⟩ := h.lines.cap
  rw [hlv] at c75
  have HS := Lib.hid (spSort_any h hx (by omega))
  have hpos := List.length_pos_iff.2 hx
  have q1 : ((x.run.length : Int) == 0) = false := by simp; omega
  clear h hlv hcap hpos hx hl
  go_enter Tryz.func86, Tryz.ntmps86
  go_wp2_with fail
  refine HS.out.mono ?_
  rintro e w1 ⟨rfl, k1, k2⟩
  have H1 := Lib.hid k1
  have HW1 := Lib.hid k2
  have c1 := k1.row.c1
  have z1 := k1.row.froz 1
  have hr2 := k1.row.set1 (pieceV g true)
  have HR2 := Lib.hid hr2
  have HT := Lib.hid (tellPieces_any hr2.c0 (hr2.froz 0))
  clear k1 k2 hr2 HS c75 q1
  unfold pieceV at HT
  simp only [if_true] at HT
  go_wp2_with fail
  refine HT.out.mono ?_
  rintro e w3 ⟨rfl, rfl⟩
  go_wp2_with fail
  go_returns
  have hr3 := HR2.out.set0 (-2)
  have hf3 := (Frame.cell w1 ⟨g, 1, none⟩ (pieceV g true)).trans (Frame.cell (w1.setCell ⟨g, 1, none⟩ (pieceV g true)) ⟨g, 0, none⟩ (.int .i64 (-2)))
  refine ⟨rfl, lab, ownD, Bs, _, ⟨H1.out.own hf3 hr3 rfl rfl rfl rfl, rfl, rfl, rfl, fun _ => rfl⟩, HW1.out.trans ⟨fun _ e => .inl e, hf3.mono (fun k _ e => by rw [show k = g from e, H1.out.glab]; decide)⟩⟩
end

end Go.Proofs.YtpgigpajpcianaaGreatDoor

namespace Go.Proofs.YtpgigpajpcianaaGreatDoor
open Go.RowKit

section
variable {F : Bool} {S : Script} {base g gd : Nat} {lab ownD : Nat → Nat} {f : Bool} {b : List UInt8} {x : SpD} {W : Lines} {Bs : List Nat} {o : Own78} {w w' : World} {s : SpS}
theorem Within.below (hb : Below w.heap.size w w') : Within lab lab w w' := ⟨fun _ e => .inl e, Below.toFrame hb _⟩
theorem outs_within {lab' : Nat → Nat} {w1 : World} {v : Value} {L : Outs} (ho : OwnOuts w.heap.size w1 v L) (h : SpRep F S base g gd lab ownD f b x W Bs o w) (hw : Within lab lab' w1 w') : OwnOuts w.heap.size w' v L := ho.frame hw.fr (fun k h1 _ e => by have := (h.bnd k e).2; omega)
set_option maxRecDepth 100000 in
set_option maxHeartbeats 8000000 in
theorem tellKept_any (h : SpSt F S base g gd lab ownD s [] Bs o w) (hk : s.kept = true) {l : List UInt8} {r : Lines} (hrun : s.x.run = l :: r) (hl : l.length ≤ 64) (hr : r.length ≤ 1000) :
    Calls Tryz.prog 109 #[.pointer (some ⟨g, 0, none⟩)] w (SpGives F S base g gd lab (moreSp S F s) w) := by
  obtain ⟨q, hq⟩ : ∃ q, q = moreSp S F s := ⟨_, rfl⟩
  have HQ := Lib.hid (show q = (if r = [] then deadS s.x.d s.raw else ⟨s.need, s.b, s.ov, s.kept, ⟨s.x.d, r, s.x.rs⟩, s.raw⟩, [(0, l ++ [10])], 0) by rw [hq]; unfold moreSp; rw [if_pos hk, hrun])
  rw [← hq]
  have hlines := h.rep.lines
  rw [hrun] at hlines
  obtain ⟨kb, off, cap, hlv, hcap, hX, hc, hz, -⟩ := hlines.head
  have c75 := h.rep.row.c75
  rw [hlv] at c75
  obtain ⟨A, hA⟩ : ∃ A : ByteArray, strV l = .string A := ⟨_, rfl⟩
  rw [hA] at hc
  have hne : kb ≠ g := fun e => by rw [e, h.rep.glab] at hX; cases hX
  have H := Lib.hid h
  have HX := Lib.hid hX
  have HA := Lib.hid hA
  have HL := Lib.hid hl
  have HRun := Lib.hid hrun
  have HLv := Lib.hid hlv
  have HR := Lib.hid hr
  have q1 : (((r.length + 1 : Nat) : Int) == 0) = false := by simp; omega
  have q1b : (0 : Int) < ((r.length + 1 : Nat) : Int) := by omega
  have q2 : (1 : Int) ≤ ((r.length + 1 : Nat) : Int) := by omega
  have q3 : ((r.length + 1 : Nat) : Int) ≤ (cap : Int) := by omega
  have q4 : (1 : Int) ≤ (cap : Int) := by omega
  obtain ⟨n, hn⟩ : ∃ n, n = r.length + 1 := ⟨_, rfl⟩
  rw [← hn] at q1 q1b q2 q3 c75
  have HN := Lib.hid hn
  clear h hk hq hlines hcap hX hA hl hrun hlv hr hn
  go_enter Tryz.func109, Tryz.ntmps109
  go_wp2_with fail
  refine (tellOut_any 0 _ l _ (text_new w l A HA.out (0, 0)) HL.out).mono ?_
  rintro e w1 ⟨v, rfl, ho, hb⟩
  have hb1 : Below w.heap.size w w1 := ((Below.refl w.heap.size w).alloc (Nat.le_refl _) _).trans (hb.mono (by simp))
  have HB := Lib.hid hb1
  have HO := Lib.hid (ho.mono (base' := w.heap.size) (by simp))
  have h1 := H.out.rep.below hb1
  have HR1 := Lib.hid h1
  have hl1 := h1.lines
  rw [HRun.out] at hl1
  obtain ⟨kb', off', cap', hlv', -, -, -, hz1, hnext⟩ := hl1.head
  rw [HLv.out] at hlv'
  injection hlv' with e1 e2 e3
  injection e1 with e1
  injection e1 with e1 e4
  subst e1 e3 e4
  have HNext := Lib.hid hnext
  have c75 := h1.row.c75
  have z75 := h1.row.froz 75
  have hc1 := (Below.toFrame hb1 (fun _ => False)).cell? hc (fun e => e)
  rw [HLv.out, ← HN.out] at c75
  have c75' : ∀ u, (w1.setCell ⟨kb, off, none⟩ u).cell? ⟨g, 75, none⟩ = some (.slice (some ⟨kb, off, none⟩) n cap) := fun u => (Frame.cell w1 ⟨kb, off, none⟩ u).cell? c75 (fun e => hne (by simpa using e.symm))
  obtain ⟨va, vc, rfl⟩ := ho.slice
  clear ho hb hb1 h1 hl1 e2 hnext hz hc
  go_upto_region 4 with fail
  obtain ⟨na, hna⟩ : ∃ na, na = (if cap = 1 then some ⟨kb, off, none⟩ else some ⟨kb, off + 1, none⟩ : Option Addr) := ⟨_, rfl⟩
  have hn1 : n - 1 = r.length := by have := HN.out; omega
  have hk4 := HNext.out _ (Frame.refl _ _)
  rw [← hna] at hk4
  rw [← hna, hn1, show (ByteArray.mk #[]) = ByteArray.empty from rfl]
  obtain ⟨lab4, k1, k2⟩ := HR1.out.relined (fun k e => .inl e) ((Frame.cell w1 ⟨kb, off, none⟩ (.string ByteArray.empty)).mono (fun k _ e => by rw [show k = kb from e]; exact HX.out)) hk4
  have H4 := Lib.hid k1
  have HW4 := Lib.hid k2
  have HRaw := Lib.hid H.out.raw
  clear k1 k2 hk4 hna hn1 c75 c75' hz1 hc1 z75 q1 q1b q2 q3 q4
  generalize (w1.setCell ⟨kb, off, none⟩ (.string ByteArray.empty)).setCell ⟨g, 75, none⟩ (.slice na r.length (cap - 1)) = w4 at H4 HW4 ⊢
  have c75 : w4.cell? ⟨g, 75, none⟩ = some (.slice na r.length (cap - 1)) := H4.out.row.c75
  by_cases h0 : r = []
  · subst h0
    rw [if_pos rfl] at HQ
    simp only [List.length_nil] at c75
    have HS := Lib.hid H4.out.stops
    go_wp2_with fail
    refine HS.out.mono ?_
    rintro e w5 ⟨rfl, lab5, own5, Bs5, o5, k1, k2⟩
    have H5 := Lib.hid k1
    have HW5 := Lib.hid k2
    clear k1 k2 HS
    go_wp2_with fail
    go_ret2
    rw [HQ.out, ← HRaw.out]
    exact ⟨_, lab5, own5, Bs5, o5, rfl, outs_within HO.out H.out.rep (HW4.out.trans HW5.out), H5.out, (Within.below HB.out).trans (HW4.out.trans HW5.out)⟩
  · rw [if_neg h0] at HQ
    have hpos := List.length_pos_iff.2 h0
    have q1 : ((r.length : Int) == 0) = false := by simp; omega
    clear h0 hpos
    go_wp2_with fail
    go_ret2
    rw [HQ.out]
    exact ⟨_, lab4, _, _, _, rfl, outs_within HO.out H.out.rep HW4.out, ⟨H4.out, H.out.nd, H.out.ov, H.out.raw, H.out.pc⟩, (Within.below HB.out).trans HW4.out⟩
end

end Go.Proofs.YtpgigpajpcianaaGreatDoor

namespace Go.Proofs.YtpgigpajpcianaaGreatDoor
open Go.RowKit

section
variable {F : Bool} {S : Script} {base g gd : Nat} {lab ownD : Nat → Nat} {f : Bool} {b : List UInt8} {x : SpD} {W : Lines} {Bs : List Nat} {o : Own78} {w w' : World} {s : SpS}
theorem SpRep.ran (h : SpRep F S base g gd lab ownD f b x W Bs o w) {d' : DSt} {rs' : List Rn} (hl : RunsLeft F S base g gd ownD d' Bs rs' w w') : ∃ lab' own', SpRep F S base g gd lab' own' f b ⟨d', x.run, rs'⟩ W Bs o w' ∧ Within lab lab' w w' := by
  obtain ⟨own', k1, k2, k3⟩ := hl
  have hX : ∀ k, own' k ≠ 0 → lab k = 6 ∨ lab k = 0 := fun k hk => by
    by_cases hlt : k < w.heap.size
    · rw [k2 k hlt] at hk; exact .inl (h.dlab k hk)
    · exact .inr (h.lab0 (by omega))
  have ho : ∀ {j : Nat}, j ≠ 0 → j ≠ 6 → ∀ k, relab 6 (fun k => own' k ≠ 0) lab k = j ↔ lab k = j := fun h0 h6 k => relab_other h0 h6 hX k
  have hfr : ∀ {j : Nat}, j ≠ 6 → j ≠ 5 → ∀ k, lab k = j → ¬ (ownD k ≠ 0 ∨ k ∈ Bs) := fun h6 h5 k hk e => by
    rcases e with e | e
    · rw [h.dlab k e] at hk; exact h6 hk.symm
    · rw [h.blab k e] at hk; exact h5 hk.symm
  refine ⟨relab 6 (fun k => own' k ≠ 0) lab, own', ⟨h.row.frame k3 (hfr (by decide) (by decide) _ h.glab), (h.wait.frame k3 (fun k hk => hfr (by decide) (by decide) k hk)).congr (fun k => ho (by decide) (by decide) k), (h.lines.frame k3 (fun k hk => hfr (by decide) (by decide) k hk)).congr (fun k => ho (by decide) (by decide) k),
    k3.owns h.runs (fun k hk => hfr (by decide) (by decide) k (h.rlab k hk)), fun k hk => (ho (by decide) (by decide) k).2 (h.rlab k hk), h.dv, k1.disk, k1.len, k1.run, fun k hk => (ho (by decide) (by decide) k).2 (h.blab k hk),
    fun k hk => (relab_self (by decide) k).2 hk, (ho (by decide) (by decide) g).2 h.glab, fun k hk => ?_, h.low, k1.max, h.nodup⟩, fun k hk => ?_, k3.mono (fun k _ e => by rcases e with e | e; rw [h.dlab k e]; decide; rw [h.blab k e]; decide)⟩
  · rcases relab_ne hk with e | e
    · exact ⟨(h.bnd k e).1, Nat.lt_of_lt_of_le (h.bnd k e).2 k3.size⟩
    · exact k1.disk.bnd k e
  · rcases relab_ne hk with e | e
    · exact .inl e
    · rcases hX k e with e2 | e2
      · exact .inl (by rw [e2]; decide)
      · by_cases hlt : k < w.heap.size
        · rw [k2 k hlt] at e
          exact .inl (by rw [h.dlab k e]; decide)
        · exact .inr (by omega)
theorem SpRep.ptrsAway (h : SpRep F S base g gd lab ownD f b x W Bs o w) : ∀ k, lab k = 4 → ownD k = 0 ∧ k ∉ Bs := fun k hk => ⟨h.own0 (by rw [hk]; decide), fun e => by rw [h.blab k e] at hk; cases hk⟩
structure TellOk (d : DSt) (rs : List Rn) : Prop where
  small : Small d
  n : d.n + rs.length + 2 ≤ 1000000
  each : ∀ r ∈ rs, I64 r.no ∧ r.at' ≤ 1000000 ∧ r.next.length ≤ 64
  len : rs.length ≤ 1000
set_option maxRecDepth 100000 in
set_option maxHeartbeats 16000000 in
theorem tellLeast_any (h : SpSt F S base g gd lab ownD s [] Bs o w) (hk : s.kept = false) {k : Nat} {l : List UInt8} (hlo : leastOf F s.x.rs = some (k, l)) (hok : TellOk s.x.d s.x.rs) :
    Calls Tryz.prog 112 #[.pointer (some ⟨g, 0, none⟩)] w (SpGives F S base g gd lab (moreSp S F s) w) := by
  obtain ⟨q, hq⟩ : ∃ q, q = moreSp S F s := ⟨_, rfl⟩
  have hq2 : moreSp S F s = tellD S F s k l := by unfold moreSp; rw [if_neg (by rw [hk]; decide), hlo]
  rw [hq2] at hq
  rw [hq2, ← hq]
  have H := Lib.hid h
  have hR := h.rep.runsAt
  have hlen := h.rep.len
  obtain ⟨r, r1, r2, r3, -⟩ := least_some hlo
  have hkb : k < Bs.length := by rw [hlen]; exact (List.getElem?_eq_some_iff.1 r1).1
  obtain ⟨kb, hkb⟩ : ∃ kb, Bs[k]? = some kb := ⟨_, List.getElem?_eq_getElem hkb⟩
  have hlv : leastV Bs (leastOf F s.x.rs) = .pointer (some ⟨kb, 0, none⟩) := by rw [hlo]; show ptrV (Bs.getD k 0) = _; rw [List.getD_eq_getElem?_getD, hkb]; rfl
  have hbl : Bs.length ≤ 1000 := by rw [hlen]; exact hok.len
  have HLe := Lib.hid (least_any hR _ h.rep.ptrs hbl)
  rw [hlv] at HLe
  obtain ⟨ra, rc, hrv⟩ : ∃ a c, o.rv = .slice a Bs.length c := owns_slice h.rep.runs
  have c76 := h.rep.row.c76
  rw [hrv] at c76 HLe
  have hrk := hok.each r (List.mem_of_getElem? r1)
  have hl64 : l.length ≤ 64 := by rw [← r3]; exact hrk.2.2
  have hrA : readAt S s.x.d s.x.rs k = ((readR S s.x.d r).1, s.x.rs.set k (readR S s.x.d r).2.1, (readR S s.x.d r).2.2) := by unfold readAt; rw [r1]
  obtain ⟨A, hA⟩ : ∃ A : ByteArray, strV l = .string A := ⟨_, rfl⟩
  have hrunk := hR.run k kb r hkb r1
  have n2 := hrunk.c2
  rw [r3, hA] at n2
  have HA := Lib.hid hA
  have HHk := Lib.hid hk
  have HOk := Lib.hid hok
  have HRk := Lib.hid hrk
  have HL := Lib.hid hl64
  have HR1 := Lib.hid r1
  have HKb := Lib.hid hkb
  have HBl := Lib.hid hbl
  have HRv := Lib.hid hrv
  have HRaw := Lib.hid h.raw
  obtain ⟨dR, hdR⟩ : ∃ dR, dR = (readR S s.x.d r).1 := ⟨_, rfl⟩
  obtain ⟨rs', hrs'⟩ : ∃ rs', rs' = s.x.rs.set k (readR S s.x.d r).2.1 := ⟨_, rfl⟩
  obtain ⟨E, hE⟩ : ∃ E, E = (readR S s.x.d r).2.2 := ⟨_, rfl⟩
  have hrd := readR_d S s.x.d r
  have HQ := Lib.hid (show q = if E ≠ 0 then (failS s dR E, [(0, l ++ [10])], E)
    else if (leastOf F rs').isSome then (⟨s.need, s.b, s.ov, s.kept, ⟨dR, s.x.run, rs'⟩, s.raw⟩, [(0, l ++ [10])], 0)
    else if (removeAll S dR rs').2 ≠ 0 then (failS s (removeAll S dR rs').1 (removeAll S dR rs').2, [(0, l ++ [10])], (removeAll S dR rs').2)
    else (deadS (removeAll S dR rs').1 s.raw, [(0, l ++ [10])], 0) by rw [hq, hdR, hrs', hE]; unfold tellD; rw [hrA])
  have hokR : Small dR ∧ dR.n + rs'.length ≤ 1000000 ∧ (∀ r ∈ rs', I64 r.no) ∧ rs'.length ≤ 1000 := by
    have h1 := hok.n
    have h2 := hok.len
    rw [hdR, hrs', List.length_set]
    refine ⟨hok.small.of hrd.1 (by omega), by omega, fun r' hr' => ?_, h2⟩
    rcases List.mem_or_eq_of_mem_set hr' with e | e
    · exact (hok.each r' e).1
    · rw [e, hrd.2.2]; exact hrk.1
  have HOkR := Lib.hid hokR
  have HNx0 := Lib.hid (fun (w2 : World) (h2 : RunsAt F S base g gd ownD s.x.d Bs s.x.rs w2) => readNext_any h2 hok.small hkb r1 hrk.1 hrk.2.1)
  simp only [← hdR, ← hrs', ← hE] at HNx0
  clear h hk hq hq2 hlo hok hR hlen r1 r2 r3 hkb hlv hbl hrk hrv hl64 hrA hA hrunk hdR hrs' hE hrd hokR
  unfold ptrV at HLe HNx0
  go_enter Tryz.func112, Tryz.ntmps112
  go_wp2_with fail
  refine HLe.out.mono ?_
  rintro e w1 ⟨rfl, n1, rfl⟩
  have hb0 : Below w.heap.size w (w.drewN n1) := ⟨rfl, rfl, rfl, Nat.le_refl _, fun _ _ => rfl⟩
  have n2' : (w.drewN n1).cell? ⟨kb, 2, none⟩ = some (.string A) := n2
  have HB0 := Lib.hid hb0
  clear HLe hb0 n2
  generalize w.drewN n1 = w1 at n2' HB0 ⊢
  go_wp2_with fail
  refine (tellOut_any 0 _ l _ (text_new w1 l A HA.out (0, 0)) HL.out).mono ?_
  rintro e w2 ⟨v, rfl, ho, hb⟩
  have hb2 : Below w.heap.size w w2 := HB0.out.trans ((((Below.refl w1.heap.size w1).alloc (Nat.le_refl _) _).trans (hb.mono (by simp))).mono HB0.out.size)
  have HB := Lib.hid hb2
  have HO := Lib.hid (ho.mono (base' := w.heap.size) (by have := HB0.out.size; simp; omega))
  have HRep2 := Lib.hid (H.out.rep.below hb2)
  have HNx := Lib.hid (HNx0.out w2 HRep2.out.runsAt)
  obtain ⟨va, vc, rfl⟩ := ho.slice
  clear ho hb hb2 HNx0 n2' HB0
  go_wp2_with fail
  refine HNx.out.mono ?_
  rintro e w3 ⟨rfl, hl⟩
  obtain ⟨lab3, own3, k1, k2⟩ := HRep2.out.ran hl
  have H3 := Lib.hid k1
  have HW3 := Lib.hid k2
  clear hl k1 k2 HNx HRep2 c76
  by_cases h0 : E = 0
  case neg =>
    have f1 : (E != 0) = true := by simpa using h0
    rw [if_pos h0] at HQ
    have HF := Lib.hid (H3.out.fails E)
    clear h0
    go_wp2_with fail
    refine HF.out.mono ?_
    rintro e w4 ⟨rfl, lab4, own4, Bs4, o4, k1, k2⟩
    have H4 := Lib.hid k1
    have HW4 := Lib.hid (HW3.out.trans k2)
    clear k1 k2 HF
    go_wp2_with fail
    go_ret2
    rw [HQ.out]
    unfold failS
    rw [← HRaw.out]
    exact ⟨_, lab4, own4, Bs4, o4, rfl, outs_within HO.out H.out.rep HW4.out, H4.out, (Within.below HB.out).trans HW4.out⟩
  case pos =>
    have f1 : (E != 0) = false := by simpa using h0
    rw [if_neg (by simpa using h0)] at HQ
    have c76 := H3.out.row.c76
    rw [HRv.out] at c76
    have HV3 := H3.out.ptrs
    rw [HRv.out] at HV3
    have HLe := Lib.hid (least_any H3.out.runsAt _ HV3 HBl.out)
    have HV := Lib.hid HV3
    clear h0 HV3
    cases hls : leastOf F rs' with
    | some p =>
      obtain ⟨k', l'⟩ := p
      rw [hls] at HLe HQ
      simp only [Option.isSome_some, if_true] at HQ
      unfold leastV ptrV at HLe
      clear hls
      go_wp2_with fail
      refine HLe.out.mono ?_
      rintro e w4 ⟨rfl, n4, rfl⟩
      have H4 := Lib.hid (H3.out.below ⟨rfl, rfl, rfl, Nat.le_refl _, fun _ _ => rfl⟩ : SpRep F S base g gd lab3 own3 false s.b ⟨dR, s.x.run, rs'⟩ [] Bs o (w3.drewN n4))
      have HW4 := Lib.hid (HW3.out.trans (Within.below ⟨rfl, rfl, rfl, Nat.le_refl _, fun _ _ => rfl⟩) : Within lab lab3 w2 (w3.drewN n4))
      clear HLe
      generalize w3.drewN n4 = w4 at H4 HW4 ⊢
      go_wp2_with fail
      go_ret2
      rw [HQ.out]
      exact ⟨_, lab3, own3, Bs, o, rfl, outs_within HO.out H.out.rep HW4.out, ⟨H4.out, H.out.nd, H.out.ov, H.out.raw, H.out.pc⟩, (Within.below HB.out).trans HW4.out⟩
    | none =>
      rw [hls] at HLe HQ
      rw [if_neg (by simp)] at HQ
      unfold leastV ptrV at HLe
      clear hls
      go_wp2_with fail
      refine HLe.out.mono ?_
      rintro e w4 ⟨rfl, n4, rfl⟩
      have hb4 : Below w3.heap.size w3 (w3.drewN n4) := ⟨rfl, rfl, rfl, Nat.le_refl _, fun _ _ => rfl⟩
      have H4 := Lib.hid (H3.out.below hb4)
      have HW4 := Lib.hid (HW3.out.trans (Within.below hb4))
      have HRm := Lib.hid (remove_runs H4.out.runsAt HOkR.out.1 HOkR.out.2.1 HOkR.out.2.2.1 _ (by have := H4.out.ptrs; rw [HRv.out] at this; exact this) H4.out.ptrsAway HBl.out)
      have c76' : (w3.drewN n4).cell? ⟨g, 76, none⟩ = some (.slice ra Bs.length rc) := c76
      obtain ⟨E3, hE3⟩ : ∃ E3, E3 = (removeAll S dR rs').2 := ⟨_, rfl⟩
      rw [← hE3] at HRm HQ
      clear HLe hb4 c76 H3 HW3 hE3
      generalize w3.drewN n4 = w4 at H4 HW4 HRm c76' ⊢
      unfold ptrV at HRm
      go_wp2_with fail
      refine HRm.out.mono ?_
      rintro e w5 ⟨rfl, hl⟩
      obtain ⟨lab5, own5, k1, k2⟩ := H4.out.ran hl
      have H5 := Lib.hid k1
      have HW5 := Lib.hid (HW4.out.trans k2)
      clear hl k1 k2 HRm H4 HW4 c76'
      by_cases h0 : E3 = 0
      · have f2 : (E3 != 0) = false := by simpa using h0
        rw [if_neg (by simpa using h0)] at HQ
        have HF := Lib.hid H5.out.stops
        clear h0
        go_wp2_with fail
        refine HF.out.mono ?_
        rintro e w6 ⟨rfl, lab6, own6, Bs6, o6, k1, k2⟩
        have H6 := Lib.hid k1
        have HW6 := Lib.hid (HW5.out.trans k2)
        clear k1 k2 HF
        go_wp2_with fail
        go_ret2
        rw [HQ.out, ← HRaw.out]
        exact ⟨_, lab6, own6, Bs6, o6, rfl, outs_within HO.out H.out.rep HW6.out, H6.out, (Within.below HB.out).trans HW6.out⟩
      · have f2 : (E3 != 0) = true := by simpa using h0
        rw [if_pos h0] at HQ
        have HF := Lib.hid (H5.out.fails E3)
        clear h0
        go_wp2_with fail
        refine HF.out.mono ?_
        rintro e w6 ⟨rfl, lab6, own6, Bs6, o6, k1, k2⟩
        have H6 := Lib.hid k1
        have HW6 := Lib.hid (HW5.out.trans k2)
        clear k1 k2 HF
        go_wp2_with fail
        go_ret2
        rw [HQ.out]
        unfold failS
        rw [← HRaw.out]
        exact ⟨_, lab6, own6, Bs6, o6, rfl, outs_within HO.out H.out.rep HW6.out, H6.out, (Within.below HB.out).trans HW6.out⟩
end

end Go.Proofs.YtpgigpajpcianaaGreatDoor

namespace Go.Proofs.YtpgigpajpcianaaGreatDoor
open Go.RowKit

section
variable {F : Bool} {S : Script} {base g gd : Nat} {lab ownD : Nat → Nat} {Bs : List Nat} {o : Own78} {w : World} {s : SpS}
theorem nextSum_take {rs : List Rn} {k : Nat} {r : Rn} (h : rs[k]? = some r) : nextSum (rs.take (k + 1)) = nextSum (rs.take k) + r.next.length := by
  unfold nextSum
  rw [List.take_add_one, h]
  simp
theorem nextSum_le : ∀ {rs : List Rn}, (∀ r ∈ rs, r.next.length ≤ 64) → nextSum rs ≤ 64 * rs.length
  | [], _ => Nat.le_refl _
  | r :: rs, h => by
    have h1 := nextSum_le (rs := rs) (fun r hr => h r (List.mem_cons_of_mem _ hr))
    have h2 := h r List.mem_cons_self
    unfold nextSum at h1 ⊢
    simp only [List.map_cons, List.sum_cons, List.length_cons]
    omega
theorem nextSum_take_le (rs : List Rn) (k : Nat) : nextSum (rs.take k) ≤ nextSum rs := by
  conv => rhs; rw [← List.take_append_drop k rs]
  unfold nextSum
  rw [List.map_append, List.sum_append]
  omega
set_option maxRecDepth 100000 in
set_option maxHeartbeats 8000000 in
theorem spHeld_any (h : SpSt F S base g gd lab ownD s [] Bs o w) (hl : s.x.run.length ≤ 1000) (hs : ∀ l ∈ s.x.run, l.length ≤ 64) (hrl : s.x.rs.length ≤ 1000) (hn : ∀ r ∈ s.x.rs, r.next.length ≤ 64) :
    Calls Tryz.prog 53 #[.pointer (some ⟨g, 0, none⟩)] w (SaysN w (.int .i64 ((heldSp s : Nat) : Int))) := by
  have hrep : ∀ m, SpRep F S base g gd lab ownD false s.b s.x [] Bs o (w.drewN m) := fun m => h.rep.below ⟨rfl, rfl, rfl, Nat.le_refl _, fun _ _ => rfl⟩
  have hks := keptSum_le hs
  have hns := nextSum_le hn
  have hb := h.rep.row.le
  have hq0 : ∀ m, Calls Tryz.prog 77 #[.pointer (some ⟨g, 5, none⟩)] (w.drewN m) (fun e w' => e = .returned (.int .i64 (s.b.length : Int)) ∧ w' = w.drewN m) := fun m => by
    have := qheld_any ((hrep m).row.queue (hrep m).wait (by rw [h.rep.glab]; decide)) (by simp) (by simp [keptSum])
    refine this.mono fun _ _ h => ⟨by simpa [keptSum] using h.1, h.2.symm⟩
  have hq1 : ∀ m, Calls Tryz.prog 78 #[o.lv] (w.drewN m) (fun e w' => e = .returned (.int .i64 (keptSum s.x.run)) ∧ w' = w.drewN m) := fun m => sizeOf_any (hrep m).lines (by omega) hs
  obtain ⟨la, lc, hlv, hcap⟩ := h.rep.lines.cap
  obtain ⟨ra, rc, hrv⟩ : ∃ a c, o.rv = .slice a Bs.length c := owns_slice h.rep.runs
  have c75 := h.rep.row.c75
  have hb0 : ∀ m, (w.drewN m).cell? ⟨g, 75, none⟩ = some o.lv := fun m => (hrep m).row.c75
  have hlen := h.rep.len
  have hptr := h.rep.ptrs
  obtain ⟨pa, pc, hpv, hpl, hpc⟩ := hptr
  rw [hrv] at hpv
  injection hpv with e1 e2 e3
  subst e1 e3
  have hrun := h.rep.run
  have HPc := Lib.hid hpc
  have HRun := Lib.hid hrun
  have c76 := h.rep.row.c76
  rw [hrv] at c76
  rw [hlv] at c75 hq1
  have hheld : heldSp s = s.b.length + keptSum s.x.run + nextSum s.x.rs := rfl
  rw [hheld]
  obtain ⟨B, hB⟩ : ∃ B, B = s.b.length := ⟨_, rfl⟩
  obtain ⟨K, hK⟩ : ∃ K, K = keptSum s.x.run := ⟨_, rfl⟩
  rw [← hB] at hq0 hb
  rw [← hK] at hq1 hks
  rw [← hB, ← hK]
  have v1 : IntKind.i64.wrap ((B : Int) + (K : Int)) = ((B + K : Nat) : Int) := by rw [IntKind.wrap_i64]; omega
  have HQ0 := Lib.hid hq0
  have HQ1 := Lib.hid hq1
  have HLen := Lib.hid hlen
  have HNs := Lib.hid hns
  have HRl := Lib.hid hrl
  have HBK := Lib.hid (show B + K ≤ 70000 by omega)
  clear h hl hs hrl hn hrep hks hns hb hq0 hq1 hlv hcap hrv hb0 hlen hrun hpc hheld hB hK e2
  go_enter Tryz.func53, Tryz.ntmps53
  go_wp2_with fail
  go_quiet (first
    | (go_at_call 77; exact Calls.quiet_of_same (HQ0.out _))
    | (go_at_call 78; exact Calls.quiet_of_same (HQ1.out _)))
  have HPc2 := Lib.hid (show ∀ (j k : Nat), Bs[j]? = some k → ∃ gb off, ra = some ⟨gb, off, none⟩ ∧ lab gb = 4 ∧ (w.drewN nq).cell? ⟨gb, off + j, none⟩ = some (ptrV k) from HPc.out)
  have HRun2 := Lib.hid (show ∀ (j k : Nat) (r : Rn), Bs[j]? = some k → s.x.rs[j]? = some r → RunAt k r (w.drewN nq) from HRun.out)
  have c76' : (w.drewN nq).cell? ⟨g, 76, none⟩ = some (.slice ra Bs.length rc) := c76
  have HB := Lib.hid (show Below w.heap.size w (w.drewN nq) from ⟨rfl, rfl, rfl, Nat.le_refl _, fun _ _ => rfl⟩)
  obtain ⟨BK, hBK⟩ : ∃ BK, BK = B + K := ⟨_, rfl⟩
  have HBK2 := HBK
  rw [← hBK] at HBK2
  have hBKi : (B : Int) + (K : Int) = (BK : Int) := by omega
  have hp : (B + K + nextSum s.x.rs : Nat) = BK + nextSum s.x.rs := by omega
  try rw [hBKi]
  obtain ⟨n, hn⟩ : ∃ n, n = Bs.length := ⟨_, rfl⟩
  rw [← hn] at c76' hpl
  have HN := Lib.hid hn
  have HBKi := Lib.hid hBKi
  have hn1000 : n ≤ 1000 := by rw [hn, HLen.out]; exact HRl.out
  have hpl' : (n : Int) ≤ (rc : Int) := by omega
  clear c75 c76 HQ0 HQ1 HPc HRun v1 hBK hBKi HBK hpl hn hp
  generalize w.drewN nq = w1 at HPc2 HRun2 c76' HB ⊢
  go_wp2_with fail
  go_loopw [3, 21] (fun sv iv wr => ∃ i : Nat, iv = .int .i64 i ∧ i ≤ n ∧ sv = .int .i64 ((BK + nextSum (s.x.rs.take i) : Nat) : Int) ∧ wr = w1) (fun _ iv _ => n - (intOf iv).toNat)
  case atStart => exact ⟨0, rfl, Nat.zero_le _, by simp [nextSum], rfl⟩
  case round =>
    obtain ⟨i, rfl, hi, rfl, rfl⟩ := hrel
    by_cases hlt : i < n
    · obtain ⟨kb, hkb⟩ : ∃ kb, Bs[i]? = some kb := ⟨_, List.getElem?_eq_getElem (by rw [← HN.out]; exact hlt)⟩
      obtain ⟨r, hr⟩ : ∃ r, s.x.rs[i]? = some r := ⟨_, List.getElem?_eq_getElem (by rw [← HLen.out, ← HN.out]; exact hlt)⟩
      obtain ⟨gb, off, rfl, -, hc⟩ := HPc2.out i kb hkb
      have n2 := (HRun2.out i kb r hkb hr).c2
      obtain ⟨A, hA⟩ : ∃ A : ByteArray, strV r.next = .string A := ⟨_, rfl⟩
      rw [hA] at n2
      have hsz := strV_size hA
      have ht := nextSum_take hr
      have ht2 := nextSum_take_le s.x.rs (i + 1)
      obtain ⟨Q, hQ⟩ : ∃ Q, Q = BK + nextSum (s.x.rs.take i) := ⟨_, rfl⟩
      have hQ2 : BK + nextSum (s.x.rs.take (i + 1)) = Q + A.size := by rw [ht, hsz]; omega
      have hQ3 : Q + A.size ≤ 200000 := by have := HNs.out; have := HRl.out; have := HBK2.out; omega
      rw [← hQ]
      have HQ2 := Lib.hid hQ2
      unfold ptrV at hc
      have v1 : (i : Int) < (n : Int) := by omega
      have v2 : IntKind.i64.wrap ((Q : Int) + (A.size : Int)) = ((Q + A.size : Nat) : Int) := by rw [IntKind.wrap_i64]; omega
      clear hkb hr hA hsz ht ht2 hQ hQ2
      go_wp2_with fail
      go_roundw
      case rel => exact ⟨i + 1, by go_num, by omega, by rw [HQ2.out]; go_num, trivial⟩
      case measure => simp [intOf]; omega
    · obtain rfl : i = n := by omega
      have v1 : ¬ ((i : Int) < (i : Int)) := by omega
      have htk : s.x.rs.take i = s.x.rs := List.take_of_length_le (by have := HN.out; have := HLen.out; omega)
      rw [htk]
      have HBK3 := HBK2
      go_wp2_with fail
      go_ret
      exact ⟨by rw [← HBKi.out]; go_num, HB.out⟩
end

end Go.Proofs.YtpgigpajpcianaaGreatDoor

namespace Go.Proofs.YtpgigpajpcianaaGreatDoor
open Go.RowKit

def BeginEnd (F : Bool) (S : Script) (base g gd : Nat) (lab : Nat → Nat) (b : List UInt8) (o : Own78) (W : Lines) (q : SpD × Int) (w : World) (e : Ending) (w' : World) : Prop :=
  e = .returned (.int .i64 q.2) ∧ ∃ x' lab' ownD' Bs' o', SpRep F S base g gd lab' ownD' false b x' W Bs' o' w' ∧ Within lab lab' w w' ∧ o'.ov = o.ov ∧ o'.raw = o.raw ∧ x'.d = q.1.d ∧ (q.2 = 0 → x' = q.1 ∧ o'.nd = -2 ∧ o'.pc = pieceV g false)
def BeginDoes (F : Bool) (S : Script) (base g gd : Nat) : Prop := ∀ (lab ownD : Nat → Nat) (b : List UInt8) (x : SpD) (W : Lines) (Bs : List Nat) (o : Own78) (w : World) (Ms : List Lines), SpRep F S base g gd lab ownD false b x W Bs o w → RdOk F x Ms → x.rs ≠ [] →
  Calls Tryz.prog 87 #[.pointer (some ⟨g, 0, none⟩)] w (BeginEnd F S base g gd lab b o W (beginD S F x) w)
def takesOut (S : Script) (F : Bool) (s : SpS) (W : Lines) : SpS × Outs × Int :=
  if (takesD S F s.x W).2 ≠ 0 then (failS s (takesD S F s.x W).1.d (takesD S F s.x W).2, [], (takesD S F s.x W).2)
  else if s.ov = true then begins S F s (takesD S F s.x W).1 else (⟨s.need, s.b, s.ov, s.kept, (takesD S F s.x W).1, s.raw⟩, [], 0)
structure TakeAt (F : Bool) (S : Script) (base g gd : Nat) (lab : Nat → Nat) (b : List UInt8) (o : Own78) (R : SpD × Int) (w : World) (gh : Nat) (tv ov : Value) (wr : World) : Prop where
  is : ∃ xi Wr lab' own' Bs' o' Ms, SpRep F S base g gd lab' own' false b xi Wr Bs' o' wr ∧ Within lab lab' w wr ∧ KeepO o o' ∧ RdOk F xi Ms ∧ Wr.length ≤ 5000 ∧ ((∃ l, FineL (l :: Wr) ∧ tv = strV l ∧ ov = .bool true ∧ R = takesD S F xi (l :: Wr) ∧ gh = Wr.length + 1) ∨ (Wr = [] ∧ tv = strV [] ∧ ov = .bool false ∧ R = (xi, 0) ∧ gh = 0))
section
variable {F : Bool} {S : Script} {base g gd : Nat} {lab ownD : Nat → Nat} {W : Lines} {Bs : List Nat} {o : Own78} {w w' : World} {s : SpS}
set_option maxRecDepth 100000 in
set_option maxHeartbeats 16000000 in
theorem takeLines_any {Ms : List Lines} (HBM : BeginDoes F S base g gd) (h : SpSt F S base g gd lab ownD s W Bs o w) (hok : RdOk F s.x Ms) (hf : FineL W) (hW : W.length ≤ 5000) (hn : s.need ≠ -2) (hov : s.ov = true → s.b = []) :
    Calls Tryz.prog 61 #[.pointer (some ⟨g, 0, none⟩)] w (SpGives F S base g gd lab (takesOut S F s W) w) := by
  obtain ⟨R, hR⟩ : ∃ R, R = takesD S F s.x W := ⟨_, rfl⟩
  obtain ⟨q, hq⟩ : ∃ q, q = takesOut S F s W := ⟨_, rfl⟩
  have HQ := Lib.hid (show q = if R.2 ≠ 0 then (failS s R.1.d R.2, [], R.2) else if s.ov = true then begins S F s R.1 else (⟨s.need, s.b, s.ov, s.kept, R.1, s.raw⟩, [], 0) by rw [hq, hR]; rfl)
  rw [← hq]
  have HBMk := Lib.hid HBM
  have HNd := Lib.hid h.nd
  have HOv := Lib.hid h.ov
  have HRaw := Lib.hid h.raw
  have HN2 := Lib.hid hn
  have HOvB := Lib.hid hov
  have HT := Lib.hid (show ∀ (lab1 own1 : Nat → Nat) (x1 : SpD) (Bs1 : List Nat) (o1 : Own78) (Ms1 : List Lines) (W1 : Lines) (w1 : World), SpRep F S base g gd lab1 own1 false s.b x1 W1 Bs1 o1 w1 → Within lab lab1 w w1 → KeepO o o1 → RdOk F x1 Ms1 → FineL W1 → W1.length ≤ 5000 → R = takesD S F x1 W1 →
      Calls Tryz.prog 82 #[.pointer (some ⟨g, 5, none⟩)] w1 fun e w' => ∃ tv ov gh, e = .returned (.tuple #[tv, ov]) ∧ (∃ bb, ov = .bool bb) ∧ gh ≤ W1.length ∧ TakeAt F S base g gd lab s.b o R w gh tv ov w' from by
    intro lab1 own1 x1 Bs1 o1 Ms1 W1 w1 h1 h2 h3 h4 h5 h6 h7
    cases W1 with
    | nil =>
      refine h1.tookNone.mono ?_
      rintro e w2 ⟨rfl, rfl⟩
      exact ⟨_, _, 0, rfl, ⟨_, rfl⟩, Nat.le_refl _, x1, [], lab1, own1, Bs1, o1, Ms1, h1, h2, h3, h4, Nat.zero_le _, .inr ⟨rfl, rfl, rfl, h7, rfl⟩⟩
    | cons l r =>
      refine (h1.took (by simp at h6; omega)).mono ?_
      rintro e w2 ⟨rfl, lab2, o2, k1, k2, k3⟩
      exact ⟨_, _, r.length + 1, rfl, ⟨_, rfl⟩, by simp, x1, r, lab2, own1, Bs1, o2, Ms1, k1, h2.trans k2, h3.trans k3, h4, by simp at h6; omega, .inl ⟨l, h5, rfl, rfl, h7, rfl⟩⟩)
  have HT0 := Lib.hid (HT.out lab ownD s.x Bs o Ms W w h.rep (.refl _ _) (.refl _) hok hf hW hR)
  clear HBM h hok hf hW hn hov hR hq
  go_enter Tryz.func61, Tryz.ntmps61
  go_wp2_with fail
  refine HT0.out.mono ?_
  rintro e w1 ⟨tv, ov, gh, rfl, ⟨bb, rfl⟩, -, hta⟩
  have HTA := Lib.hid hta
  clear hta HT0
  go_wp2_with fail
  go_loopg [4, 5] gh (fun gh tv ov wr => (∃ bb, ov = .bool bb) ∧ RowKit.Hid (TakeAt F S base g gd lab s.b o R w gh tv ov wr))
  case atStart => exact ⟨⟨bb, rfl⟩, HTA⟩
  case round =>
    clear HTA
    obtain ⟨⟨bb, rfl⟩, HAt⟩ := hrel
    obtain ⟨xi, Wr, lab2, own2, Bs2, o2, Ms2, h1, h2, h3, h4, h5, h6⟩ := HAt.out.is
    clear HAt
    rcases h6 with ⟨l, hf, rfl, hb, hR, hgh⟩ | ⟨rfl, rfl, hb, hR, -⟩
    · cases hb
      have hl := hf l List.mem_cons_self
      have hti := take_is (S := S) h4 hl.1 hl.2
      have HAdd := Lib.hid (spAdd_any (S := S) h1 h4 l hl.1)
      have HTi := Lib.hid hti.2.2
      rw [takesD_cons] at hR
      obtain ⟨T, hT⟩ : ∃ T, T = takeD S F xi l := ⟨_, rfl⟩
      rw [← hT] at HAdd HTi hR
      obtain ⟨E, hE⟩ : ∃ E, E = T.2 := ⟨_, rfl⟩
      have HR := Lib.hid hR
      have HW2 := Lib.hid h2
      have HK2 := Lib.hid h3
      have HFt := Lib.hid hf.tail
      have H5 := Lib.hid h5
      have HGh := Lib.hid hgh
      have HE := Lib.hid hE
      clear h1 h2 h3 h4 h5 hf hl hti hR hT hE hgh
      go_wp2_with fail
      refine HAdd.out.mono ?_
      rintro e w3 ⟨x', ⟨rfl, lab3, own3, Bs3, o3, k1, k2, k3⟩, k4, k5⟩
      have H3 := Lib.hid k1
      have HW3 := Lib.hid (HW2.out.trans k2)
      have HK3 := Lib.hid (HK2.out.trans k3)
      have HX4 := Lib.hid k4
      have HX5 := Lib.hid k5
      clear k1 k2 k3 k4 k5 HAdd HW2 HK2
      rw [← HE.out]
      by_cases h0 : E = 0
      · have f1 : (E != 0) = false := by simpa using h0
        have hE0 : T.2 = 0 := by rw [← HE.out]; exact h0
        obtain ⟨Ms3, hok3, -⟩ := HTi.out hE0
        have hx' := HX5.out hE0
        have hR := HR.out
        rw [if_neg (by rw [hE0]; simp), ← hx'] at hR
        rw [← hx'] at hok3
        have HT3 := Lib.hid (HT.out lab3 own3 x' Bs3 o3 Ms3 Wr w3 H3.out HW3.out HK3.out hok3 HFt.out H5.out hR)
        have HGk := Lib.hid (show Wr.length < gk by rw [HGh.out]; omega)
        clear h0 hE0 hok3 hx' hR HTi HX4 HX5 HR
        go_wp2_with fail
        refine HT3.out.mono ?_
        rintro e w4 ⟨tv4, ov4, gh4, rfl, ⟨b4, rfl⟩, hle, hta⟩
        have HTA := Lib.hid hta
        have HLe := Lib.hid hle
        clear hta hle HT3
        go_wp2_with fail
        go_roundg gh4
        case measure => have := HLe.out; have := HGk.out; omega
        case rel => exact ⟨⟨b4, rfl⟩, HTA⟩
      · have f1 : (E != 0) = true := by simpa using h0
        have hRT : R = T := by rw [HR.out, if_pos (by rw [← HE.out]; exact h0)]
        rw [hRT, ← HE.out, if_pos h0] at HQ
        have HF := Lib.hid (H3.out.fails E)
        clear h0 hRT
        go_wp2_with fail
        refine HF.out.mono ?_
        rintro e w4 ⟨rfl, lab4, own4, Bs4, o4, k1, k2⟩
        have H4 := Lib.hid k1
        have HW4 := Lib.hid (HW3.out.trans k2)
        clear k1 k2 HF
        go_wp2_with fail
        go_ret2
        rw [HQ.out]
        refine ⟨_, lab4, own4, Bs4, o4, rfl, OwnOuts.nil _ _, ?_, HW4.out⟩
        have h4 := H4.out
        rw [HX4.out, HK3.out.raw, HRaw.out] at h4
        exact h4
    · cases hb
      rw [hR] at HQ
      rw [if_neg (by simp)] at HQ
      have H1 := Lib.hid h1
      have HW1 := Lib.hid h2
      have HK1 := Lib.hid h3
      have HOk1 := Lib.hid h4
      have HO := Lib.hid h1.overs
      have hovs : o2.ov = s.ov := h3.ov.trans HOv.out
      obtain ⟨OV, hOV⟩ : ∃ OV, OV = s.ov := ⟨_, rfl⟩
      rw [hovs, ← hOV] at HO
      simp only [List.isEmpty_nil, Bool.and_true] at HO
      have HOV := Lib.hid hOV
      have HOvs := Lib.hid hovs
      clear h1 h2 h3 h4 h5 hR hOV hovs
      go_wp2_with fail
      refine HO.out.mono ?_
      rintro e w3 ⟨rfl, rfl⟩
      rename World => w3
      cases OV with
      | false =>
        rw [← HOV.out, if_neg (by simp)] at HQ
        go_wp2_with fail
        go_ret2
        rw [HQ.out]
        exact ⟨_, lab2, own2, Bs2, o2, rfl, OwnOuts.nil _ _, ⟨H1.out, HK1.out.nd.trans HNd.out, HOvs.out.trans HOV.out.symm, HK1.out.raw.trans HRaw.out, fun e => absurd e HN2.out⟩, HW1.out⟩
      | true =>
        rw [← HOV.out, if_pos rfl] at HQ
        have hb0 := HOvB.out HOV.out.symm
        have HB0 := Lib.hid hb0
        have c76 := H1.out.row.c76
        obtain ⟨ra, rc, hrv⟩ : ∃ a c, o2.rv = .slice a Bs2.length c := owns_slice H1.out.runs
        rw [hrv, H1.out.len] at c76
        clear hb0 hrv
        by_cases hrs : xi.rs = []
        · have g1 : ((xi.rs.length : Int) == 0) = true := by rw [hrs]; rfl
          have HRs := Lib.hid hrs
          by_cases hrun : xi.run = []
          · have HK := Lib.hid (beginKept_none H1.out hrun)
            have hq2 : q = (deadS xi.d s.raw, [], 0) := by rw [HQ.out]; unfold begins; rw [if_pos hrs, if_pos hrun]
            have HQ2 := Lib.hid hq2
            clear hrs hrun hq2 HQ
            go_wp2_with fail
            refine HK.out.mono ?_
            rintro e w4 ⟨rfl, lab4, own4, Bs4, o4, k1, k2⟩
            have H4 := Lib.hid k1
            have HW4 := Lib.hid (HW1.out.trans k2)
            clear k1 k2 HK
            go_wp2_with fail
            go_ret2
            rw [HQ2.out]
            refine ⟨_, lab4, own4, Bs4, o4, rfl, OwnOuts.nil _ _, ?_, HW4.out⟩
            have h4 := H4.out
            rw [HK1.out.raw, HRaw.out] at h4
            exact h4
          · have HK := Lib.hid (beginKept_some H1.out hrun (by have := weightL_length xi.run; have := HOk1.out.wr; omega))
            have hq2 : q = (⟨-2, [], true, true, ⟨xi.d, sortL F xi.run, []⟩, s.raw⟩, [], 0) := by rw [HQ.out]; unfold begins; rw [if_pos hrs, if_neg hrun]
            have HQ2 := Lib.hid hq2
            clear hrs hrun hq2 HQ
            go_wp2_with fail
            refine HK.out.mono ?_
            rintro e w4 ⟨rfl, lab4, own4, Bs4, o4, k1, k2⟩
            have H4 := Lib.hid k1
            have HW4 := Lib.hid (HW1.out.trans k2)
            clear k1 k2 HK
            go_wp2_with fail
            go_ret2
            rw [HQ2.out]
            refine ⟨_, lab4, own4, Bs4, o4, rfl, OwnOuts.nil _ _, ?_, HW4.out⟩
            have h4 := H4.out
            rw [HK1.out.raw, HRaw.out, HOvs.out, ← HOV.out, HB0.out, HRs.out] at h4
            exact h4
        · have hpos := List.length_pos_iff.2 hrs
          have g1 : ((xi.rs.length : Int) == 0) = false := by simp; omega
          have HBM := Lib.hid (HBMk.out _ _ _ _ _ _ _ _ _ H1.out HOk1.out hrs)
          have hq1 := HQ.out
          unfold begins at hq1
          rw [if_neg hrs] at hq1
          obtain ⟨T, hT⟩ : ∃ T, T = beginD S F xi := ⟨_, rfl⟩
          rw [← hT] at hq1 HBM
          obtain ⟨E, hE⟩ : ∃ E, E = T.2 := ⟨_, rfl⟩
          rw [← hE] at hq1
          have HQ1 := Lib.hid hq1
          have HE := Lib.hid hE
          clear hpos hrs hq1 hT hE HQ
          go_wp2_with fail
          refine HBM.out.mono ?_
          rintro e w4 ⟨rfl, x', lab4, own4, Bs4, o4, k1, k2, k3, k4, k5, k6⟩
          have H4 := Lib.hid k1
          have HW4 := Lib.hid (HW1.out.trans k2)
          have HX3 := Lib.hid k3
          have HX4 := Lib.hid k4
          have HX5 := Lib.hid k5
          have HX6 := Lib.hid k6
          clear k1 k2 k3 k4 k5 k6 HBM
          rw [← HE.out]
          by_cases h0 : E = 0
          · have f1 : (E != 0) = false := by simpa using h0
            obtain ⟨m1, m2, m3⟩ := HX6.out (HE.out.symm.trans h0)
            have hq2 := HQ1.out
            rw [if_neg (by rw [h0]; simp), ← m1] at hq2
            have HQ2 := Lib.hid hq2
            have HM2 := Lib.hid m2
            have HM3 := Lib.hid m3
            clear h0 m1 m2 m3 hq2
            go_wp2_with fail
            go_ret2
            rw [HQ2.out]
            have h4 := H4.out
            rw [HB0.out] at h4
            exact ⟨_, lab4, own4, Bs4, o4, rfl, OwnOuts.nil _ _, ⟨h4, HM2.out, HX3.out.trans (HOvs.out.trans HOV.out.symm), HX4.out.trans (HK1.out.raw.trans HRaw.out), fun _ => HM3.out⟩, HW4.out⟩
          · have f1 : (E != 0) = true := by simpa using h0
            have hq2 := HQ1.out
            rw [if_pos h0] at hq2
            have HQ2 := Lib.hid hq2
            have HF := Lib.hid (H4.out.fails E)
            clear h0 hq2
            go_wp2_with fail
            refine HF.out.mono ?_
            rintro e w5 ⟨rfl, lab5, own5, Bs5, o5, k1, k2⟩
            have H5 := Lib.hid k1
            have HW5 := Lib.hid (HW4.out.trans k2)
            clear k1 k2 HF
            go_wp2_with fail
            go_ret2
            rw [HQ2.out]
            refine ⟨_, lab5, own5, Bs5, o5, rfl, OwnOuts.nil _ _, ?_, HW5.out⟩
            have h5 := H5.out
            rw [HX5.out, HX4.out, HK1.out.raw, HRaw.out] at h5
            exact h5
end

end Go.Proofs.YtpgigpajpcianaaGreatDoor

namespace Go.Proofs.YtpgigpajpcianaaGreatDoor
open Go.RowKit

def PassEnd (F : Bool) (S : Script) (base g gd : Nat) (lab : Nat → Nat) (b : List UInt8) (o : Own78) (W : Lines) (run : Lines) (q : DSt × List Rn × Int) (w : World) (e : Ending) (w' : World) : Prop :=
  e = .returned (.int .i64 q.2.2) ∧ ∃ x' lab' ownD' Bs' o', SpRep F S base g gd lab' ownD' false b x' W Bs' o' w' ∧ Within lab lab' w w' ∧ KeepO o o' ∧ x'.d = q.1 ∧ (q.2.2 = 0 → x' = ⟨q.1, run, q.2.1⟩)
structure PassOk (F : Bool) (d : DSt) (rs : List Rn) (Ms : List Lines) : Prop where
  ok : RunsOk F d rs Ms
  only : Only d (rs.map (·.no))
  n : d.n ≤ 160000
  T : d.T.length ≤ 64
  t : ∀ t ∈ d.T, t.1.length ≤ 17000
  w : wsum Ms ≤ 17000
  len : rs.length ≤ 64
def PassDoes (F : Bool) (S : Script) (base g gd : Nat) : Prop := ∀ (lab ownD : Nat → Nat) (b : List UInt8) (x : SpD) (W : Lines) (Bs : List Nat) (o : Own78) (w : World) (Ms : List Lines), SpRep F S base g gd lab ownD false b x W Bs o w → PassOk F x.d x.rs Ms → x.rs ≠ [] →
  Calls Tryz.prog 111 #[.pointer (some ⟨g, 0, none⟩)] w (PassEnd F S base g gd lab b o W x.run (passGo S F x.d (chunks3 x.rs)) w)
theorem wsum_each : ∀ {Ms : List Lines}, (∀ M ∈ Ms, weightL M ≤ 256) → wsum Ms ≤ 256 * Ms.length
  | [], _ => Nat.le_refl _
  | M :: Ms, h => by
    have h1 := wsum_each (Ms := Ms) (fun M hM => h M (List.mem_cons_of_mem _ hM))
    have h2 := h M List.mem_cons_self
    unfold wsum at h1 ⊢
    simp only [List.map_cons, List.sum_cons, List.length_cons]
    omega
structure BegAt (F : Bool) (S : Script) (base g gd : Nat) (lab : Nat → Nat) (b : List UInt8) (o : Own78) (W : Lines) (P : DSt × List Rn × Int) (w : World) (f : Nat) (wr : World) : Prop where
  is : ∃ xi lab' own' Bs' o' Ms, SpRep F S base g gd lab' own' false b xi W Bs' o' wr ∧ Within lab lab' w wr ∧ KeepO o o' ∧ xi.run = [] ∧ PassOk F xi.d xi.rs Ms ∧ xi.d.n + f * 33000 ≤ 152000 ∧ wsum Ms ≤ 16400 ∧ xi.rs.length ≤ 3 ^ (f + 1) ∧ xi.rs ≠ [] ∧ P = passesGo S F f xi.d xi.rs
section
variable {F : Bool} {S : Script} {base g gd : Nat} {lab ownD : Nat → Nat} {b : List UInt8} {x : SpD} {W : Lines} {Bs : List Nat} {o : Own78} {w w' : World}
set_option maxRecDepth 100000 in
set_option maxHeartbeats 16000000 in
theorem beginMerge_any (HP : PassDoes F S base g gd) : BeginDoes F S base g gd := by
  intro lab ownD b x W Bs o w Ms h hok hrs
  have hne := hok.some hrs
  have HSp := Lib.hid (spill_any (S := S) h hok hne)
  have hsi := spill_is (S := S) hok hne
  have HSi := Lib.hid hsi
  have HPk := Lib.hid HP
  have HLen0 := Lib.hid hok.ok.len
  obtain ⟨T, hT⟩ : ∃ T, T = spillD S F x := ⟨_, rfl⟩
  obtain ⟨q, hq⟩ : ∃ q, q = beginD S F x := ⟨_, rfl⟩
  have hq1 := hq
  unfold beginD at hq1
  rw [← hT] at hq1 HSp HSi
  rw [← hq]
  obtain ⟨P, hP⟩ : ∃ P, P = passesGo S F 4 T.1.d T.1.rs := ⟨_, rfl⟩
  rw [← hP] at hq1
  obtain ⟨E, hE⟩ : ∃ E, E = T.2 := ⟨_, rfl⟩
  rw [← hE] at hq1
  have HQ := Lib.hid hq1
  have HP := Lib.hid hP
  have HE := Lib.hid hE
  clear h hok hrs hne hsi hT hq hq1 hP hE
  go_enter Tryz.func87, Tryz.ntmps87
  go_wp2_with fail
  refine HSp.out.mono ?_
  rintro e w1 ⟨x', ⟨rfl, lab1, own1, Bs1, o1, k1, k2, k3⟩, k4, k5⟩
  have H1 := Lib.hid k1
  have HW1 := Lib.hid k2
  have HK1 := Lib.hid k3
  have HX4 := Lib.hid k4
  have HX5 := Lib.hid k5
  clear k1 k2 k3 k4 k5 HSp
  rw [← HE.out]
  by_cases h0 : E = 0
  case neg =>
    have f1 : (E != 0) = true := by simpa using h0
    have hq2 := HQ.out
    rw [if_pos h0] at hq2
    have HQ2 := Lib.hid hq2
    have HE0 := Lib.hid h0
    clear h0 hq2
    go_wp2_with fail
    go_ret
    rw [HQ2.out]
    exact ⟨by rw [← HE.out]; rfl, x', lab1, own1, Bs1, o1, H1.out, HW1.out, HK1.out.ov, HK1.out.raw, HX4.out, fun e => absurd (HE.out.trans e) HE0.out⟩
  case pos =>
    have f1 : (E != 0) = false := by simpa using h0
    have hq2 := HQ.out
    rw [if_neg (by rw [h0]; simp)] at hq2
    have HQ2 := Lib.hid hq2
    have hE0 : T.2 = 0 := by rw [← HE.out]; exact h0
    have hx' := HX5.out hE0
    obtain ⟨s1, -, s3⟩ := HSi.out
    obtain ⟨t1, t2, t3, t4, t5, t6, t7⟩ := s3 hE0
    have hT64 := s1.T
    have hAt : BegAt F S base g gd lab b o W P w 4 w1 := by
      have hw := wsum_each t7
      have hml : (Ms ++ [sortL F x.run]).length ≤ 64 := by have := t3.len; omega
      refine ⟨x', lab1, own1, Bs1, o1, _, H1.out, HW1.out, HK1.out, by rw [hx']; exact t1, by rw [hx']; exact ⟨t3, t4, by have := s1.n; omega, hT64, fun t ht => by have := s1.t t ht; omega, by omega, by omega⟩, by rw [hx']; have := s1.n; omega, by omega, by rw [hx']; exact Nat.le_trans (show T.1.rs.length ≤ 243 by omega) (by decide), by rw [hx', t2]; simp, by rw [hx']; exact HP.out⟩
    have HAt := Lib.hid hAt
    clear h0 hq2 hE0 hx' s1 s3 t1 t2 t3 t4 t5 t6 t7 hT64 hAt HSi HX4 HX5 HP H1 HW1 HK1 HQ
    go_wp2_with fail
    go_loopg [4] 4 (fun gh v wr => RowKit.Hid (BegAt F S base g gd lab b o W P w gh wr))
    case atStart => exact HAt
    case round =>
      clear HAt
      obtain ⟨xi, lab2, own2, Bs2, o2, Ms2, h1, h2, h3, h4, h5, h6, h7, h8, h9, hR⟩ := hrel.out.is
      clear hrel
      have c76 := h1.row.c76
      obtain ⟨ra, rc, hrv⟩ : ∃ a c, o2.rv = .slice a Bs2.length c := owns_slice h1.runs
      rw [hrv] at c76
      have hlen := h1.len
      by_cases h3r : xi.rs.length ≤ 3
      · have g1 : ¬ (3 : Int) < (Bs2.length : Int) := by omega
        have hPz : P = (xi.d, xi.rs, 0) := by
          rw [hR]
          cases gk with
          | zero => rfl
          | succ f => rw [passesGo_succ, if_pos h3r]
        rw [hPz, if_neg (by simp)] at HQ2
        simp only at HQ2
        have c1 := h1.row.c1
        have z1 := h1.row.froz 1
        have hr2 := h1.row.set1 (pieceV g false)
        have HT := Lib.hid (tellPieces_any hr2.c0 (hr2.froz 0))
        have hr3 := hr2.set0 (-2)
        have hf3 : Frame (· = g) wr ((wr.setCell ⟨g, 1, none⟩ (pieceV g false)).setCell ⟨g, 0, none⟩ (.int .i64 (-2))) := (Frame.cell wr ⟨g, 1, none⟩ (pieceV g false)).trans (Frame.cell (wr.setCell ⟨g, 1, none⟩ (pieceV g false)) ⟨g, 0, none⟩ (.int .i64 (-2)))
        have H3 := Lib.hid (h1.own hf3 hr3 rfl rfl rfl rfl)
        have HW3 := Lib.hid (h2.trans (⟨fun _ e => .inl e, hf3.mono (fun k _ e => by rw [show k = g from e, h1.glab]; decide)⟩ : Within lab2 lab2 _ _))
        have HK := Lib.hid h3
        have HOk := Lib.hid h5
        have HRun := Lib.hid h4
        have HRv := Lib.hid hrv
        have HLen := Lib.hid hlen
        clear hrv h1 h2 h3 h4 h5 h6 h7 h8 h9 hR hPz h3r hr2 hr3 hf3 hlen
        unfold pieceV at HT H3 HW3
        simp only [Bool.false_eq_true, if_false] at HT H3 HW3
        go_wp2_with fail
        refine HT.out.mono ?_
        rintro e w3 ⟨rfl, rfl⟩
        clear HT c1 z1 c76
        generalize (wr.setCell ⟨g, 1, none⟩ _).setCell ⟨g, 0, none⟩ (.int .i64 (-2)) = w3 at H3 HW3 ⊢
        have c76 : w3.cell? ⟨g, 76, none⟩ = some (.slice ra Bs2.length rc) := by have := H3.out.row.c76; rw [show ∀ a b c d e f g, (Own78.mk a b c d e f o2.rv g).rv = o2.rv from fun _ _ _ _ _ _ _ => rfl] at this; exact this.trans (by rw [HRv.out])
        have hrr : ∀ r ∈ xi.rs, I64 r.no ∧ r.at' ≤ 1000000 := fun r hr => by
          obtain ⟨M, -, hfr, hf, -⟩ := HOk.out.ok.mem hr
          have h3 := fileAt_range hf
          have h4 := HOk.out.T
          exact ⟨⟨by omega, by omega⟩, by rw [hfr]; exact Nat.zero_le _⟩
        have hsm : Small xi.d := ⟨by have := HOk.out.n; omega, HOk.out.T, fun t ht => by have := HOk.out.t t ht; omega⟩
        have HFi := Lib.hid (readFirst_any H3.out.runsAt hsm (by have := HOk.out.n; have := HOk.out.len; omega) hrr _ (by have := H3.out.ptrs; exact this) H3.out.ptrsAway (by rw [HLen.out]; have := HOk.out.len; omega))
        simp only [HRv.out] at HFi
        obtain ⟨RA, hRA⟩ : ∃ RA, RA = readAll S xi.d xi.rs := ⟨_, rfl⟩
        rw [← hRA] at HFi HQ2
        clear hrr hsm hRA
        unfold ptrV at HFi
        go_wp2_with fail
        refine HFi.out.mono ?_
        rintro e w4 ⟨rfl, hl⟩
        obtain ⟨lab4, own4, k1, k2⟩ := H3.out.ran hl
        have H4 := Lib.hid k1
        have HW4 := Lib.hid (HW3.out.trans k2)
        clear hl k1 k2 HFi c76
        go_wp2_with fail
        go_ret
        rw [HQ2.out]
        refine ⟨rfl, _, lab4, own4, Bs2, _, H4.out, HW4.out, HK.out.ov, HK.out.raw, rfl, fun _ => ⟨?_, rfl, rfl⟩⟩
        rw [HRun.out]
      · have g1 : (3 : Int) < (Bs2.length : Int) := by omega
        obtain ⟨f, rfl⟩ : ∃ f, gk = f + 1 := by
          cases gk with
          | zero => exact absurd (by simpa using h8) h3r
          | succ f => exact ⟨f, rfl⟩
        rw [passesGo_succ, if_neg h3r] at hR
        have HPs := Lib.hid (HPk.out _ _ _ _ _ _ _ _ _ h1 h5 h9)
        have hl17 : lsum Ms2 ≤ fuelM := by have := lsum_le_wsum Ms2; show _ ≤ 1000000; omega
        have hpi := pass_is (S := S) h5.ok h5.only h5.T hl17
        have hcl := chunks3_len xi.rs.length xi.rs (Nat.le_refl _)
        have hlw := lsum_le_wsum Ms2
        have hstep : (passGo S F xi.d (chunks3 xi.rs)).2.2 = 0 → ∃ Ws, PassOk F (passGo S F xi.d (chunks3 xi.rs)).1 (passGo S F xi.d (chunks3 xi.rs)).2.1 Ws ∧ (passGo S F xi.d (chunks3 xi.rs)).1.n + f * 33000 ≤ 152000 ∧ wsum Ws ≤ 16400 ∧ (passGo S F xi.d (chunks3 xi.rs)).2.1.length ≤ 3 ^ (f + 1) ∧ (passGo S F xi.d (chunks3 xi.rs)).2.1 ≠ [] := fun e0 => by
          obtain ⟨Ws, n1, n2, n3, n4, n5⟩ := hpi.ok e0
          simp only [List.nil_append] at n1 n5
          have hn := hpi.n
          have hll := h5.len
          have hww := wsum_perm n4
          have hmul : (f + 1) * 33000 = f * 33000 + 33000 := Nat.succ_mul _ _
          have hpow : 3 ^ (f + 1 + 1) = 3 * 3 ^ (f + 1) := by rw [Nat.pow_succ]; omega
          refine ⟨Ws, ⟨n1, n5, by omega, hpi.T, hpi.B 17000 h5.t h5.w, by omega, by omega⟩, by omega, by omega, by omega, fun e => ?_⟩
          rw [e] at n2
          simp at n2
          omega
        obtain ⟨Q, hQ⟩ : ∃ Q, Q = passGo S F xi.d (chunks3 xi.rs) := ⟨_, rfl⟩
        rw [← hQ] at hR HPs hstep
        obtain ⟨E2, hE2⟩ : ∃ E2, E2 = Q.2.2 := ⟨_, rfl⟩
        have HR := Lib.hid hR
        have HStep := Lib.hid hstep
        have HE2 := Lib.hid hE2
        have HW2 := Lib.hid h2
        have HK2 := Lib.hid h3
        have HRun := Lib.hid h4
        clear h1 h2 h3 h4 h5 h6 h7 h8 h9 hR h3r hl17 hpi hcl hlw hstep hQ hE2 hrv hlen
        go_wp2_with fail
        refine HPs.out.mono ?_
        rintro e w3 ⟨rfl, x3, lab3, own3, Bs3, o3, k1, k2, k3, k4, k5⟩
        have H3 := Lib.hid k1
        have HW3 := Lib.hid (HW2.out.trans k2)
        have HK3 := Lib.hid (HK2.out.trans k3)
        have HX4 := Lib.hid k4
        have HX5 := Lib.hid k5
        clear k1 k2 k3 k4 k5 HPs HW2 HK2 c76
        rw [← HE2.out]
        by_cases h0 : E2 = 0
        · have f2 : (E2 != 0) = false := by simpa using h0
          have hE0 : Q.2.2 = 0 := by rw [← HE2.out]; exact h0
          obtain ⟨Ws, n1, n2, n3, n4, n5⟩ := HStep.out hE0
          have hx3 := HX5.out hE0
          have hR := HR.out
          rw [if_neg (by rw [hE0]; simp)] at hR
          have hAt : BegAt F S base g gd lab b o W P w f w3 := ⟨x3, lab3, own3, Bs3, o3, Ws, H3.out, HW3.out, HK3.out, by rw [hx3]; exact HRun.out, by rw [hx3]; exact n1, by rw [hx3]; exact n2, n3, by rw [hx3]; exact n4, by rw [hx3]; exact n5, by rw [hx3]; exact hR⟩
          have HAt := Lib.hid hAt
          clear h0 hE0 n1 n2 n3 n4 n5 hx3 hR hAt
          go_wp2_with fail
          go_roundg f
          case measure => omega
          case rel => exact HAt
        · have f2 : (E2 != 0) = true := by simpa using h0
          have hR := HR.out
          rw [if_pos (by rw [← HE2.out]; exact h0)] at hR
          rw [hR, if_pos (by rw [← HE2.out]; exact h0)] at HQ2
          have HE0 := Lib.hid h0
          clear h0 hR
          go_wp2_with fail
          go_ret
          rw [HQ2.out]
          exact ⟨by rw [HE2.out]; rfl, x3, lab3, own3, Bs3, o3, H3.out, HW3.out, HK3.out.ov, HK3.out.raw, HX4.out, fun e => absurd (HE2.out.trans e) HE0.out⟩
end

end Go.Proofs.YtpgigpajpcianaaGreatDoor
