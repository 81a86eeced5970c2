/- The document's digits of a number. -/
import Derived.Lib.ItoaLen
import Derived.Test.YtmmhpjhmobhdiaaDoorRows
import Derived.Test.YtmmhpjhmobhdiaaDoorDdefs
import Derived.Test.YtmmhpjhmobhdiaaDoorGheavy
import Derived.Test.YtmmhpjhmobhdiaaDoorRA
import Derived.Test.YtmmhpjhmobhdiaaDoorPA
import Derived.Outline
import Derived.Deep.RegionWith
namespace Go.Proofs.YtmmhpjhmobhdiaaDoor
open Go.RowKit

theorem byte_wrap {n : Nat} (h : n < 10) : IntKind.u8.wrap (48 + (n : Int)) = 48 + (n : Int) := by
  unfold IntKind.wrap
  simp only [show IntKind.u8.bits = 8 from rfl, show IntKind.u8.signed = false from rfl, Bool.false_and, Bool.false_eq_true, if_false]
  omega
theorem one_digit {n : Nat} (h : n < 10) : ((UInt8.ofNat (48 + n)).toNat : Int) = 48 + (n : Int) := by
  have : (UInt8.ofNat (48 + n)).toNat = 48 + n := by simp [UInt8.toNat_ofNat']; omega
  rw [this]
  omega

/-- A byte that was made a row is a text of one byte. -/
theorem digit_text {n : Nat} (h : n < 10) (W : World) : IsBytes (fun _ => True) (W.alloc (.cells #[.int .u8 (48 + (n : Int))] 5)) (.slice (some ⟨W.heap.size, 0, none⟩) 1 1) [UInt8.ofNat (48 + n)] := by
  refine ⟨_, 1, rfl, Nat.le_refl _, fun j c hj => ⟨_, _, rfl, trivial, ?_⟩⟩
  match j, hj with
  | 0, hj =>
    simp only [List.getElem?_cons_zero, Option.some.injEq] at hj
    subst hj
    rw [one_digit h, Nat.zero_add, cell_of_row _ _ _ _ _ _ (heap_alloc_last W _)]
    rfl
  | j + 1, hj => simp at hj

set_option maxRecDepth 100000 in
set_option maxHeartbeats 4000000 in
theorem digits_any : ∀ (n : Nat) (w : World), n ≤ 2000000000 → Calls Tryd.prog 37 #[.int .i64 n] w fun e w' => e = .returned (strV (Lib.decDigits n)) ∧ Below w.heap.size w w' := by
  intro n
  induction n using Nat.strongRecOn with
  | _ n ih =>
    intro w hn
    by_cases h10 : n < 10
    · have q1 : (n : Int) < 10 := by omega
      have q2 := byte_wrap h10
      have HD := Lib.hid (show Lib.decDigits n = [UInt8.ofNat (48 + n)] by rw [Lib.decDigits, dif_pos h10])
      have kc := conv_any (digit_text h10 w)
      obtain ⟨T, hT⟩ : ∃ S : ByteArray, strV [UInt8.ofNat (48 + n)] = .string S := ⟨_, rfl⟩
      rw [hT] at kc
      have HT := Lib.hid hT
      clear ih hT
      go_enter Tryd.func37, Tryd.ntmps37
      go_wp2
      go_ret
      exact ⟨by rw [HD.out, HT.out]; rfl, (Below.refl _ _).alloc (Nat.le_refl _) _⟩
    · have q1 : ¬ (n : Int) < 10 := by omega
      have hm : n % 10 < 10 := Nat.mod_lt _ (by decide)
      have HM := Lib.hid hm
      have q2 := byte_wrap hm
      have q3 : (n : Int).tdiv 10 = ((n / 10 : Nat) : Int) := by rw [Int.tdiv_eq_ediv_of_nonneg (by omega)]; omega
      have q4 : (n : Int).tmod 10 = ((n % 10 : Nat) : Int) := by rw [Int.tmod_eq_emod_of_nonneg (by omega)]; omega
      have hil := Lib.itoa_length_le ((n / 10 : Nat) : Int) (by omega) (by omega)
      rw [Lib.itoa_nonneg] at hil
      have hih := fun (W : World) => ih (n / 10) (by omega) W (by omega)
      obtain ⟨d, hd⟩ : ∃ d, d = Lib.decDigits (n / 10) := ⟨_, rfl⟩
      have HD := Lib.hid (show Lib.decDigits n = d ++ [UInt8.ofNat (48 + n % 10)] by rw [Lib.decDigits, dif_neg h10, hd])
      rw [← hd] at hil hih
      obtain ⟨S, hS⟩ : ∃ S : ByteArray, strV d = .string S := ⟨_, rfl⟩
      obtain ⟨T, hT⟩ : ∃ S : ByteArray, strV [UInt8.ofNat (48 + n % 10)] = .string S := ⟨_, rfl⟩
      have z1 := strV_size hS
      have z2 := strV_size hT
      simp only [List.length_cons, List.length_nil] at z2
      have a1 := add_fits (S := S) (T := T) (by omega) (by omega)
      have HST := Lib.hid (strV_add hS hT)
      rw [hS] at hih
      have HIh := Lib.hid hih
      have HT := Lib.hid hT
      obtain ⟨m, hmm⟩ : ∃ m, m = n % 10 := ⟨_, rfl⟩
      obtain ⟨qn, hq⟩ : ∃ qn, qn = n / 10 := ⟨_, rfl⟩
      rw [← hmm] at q2 q4 HM HST HD HT
      rw [← hq] at q3 HIh
      have hw : Below w.heap.size w w := Below.refl _ _
      have q5 : IntKind.i64.wrap (qn : Int) = qn := by rw [IntKind.wrap_i64]; omega
      have q6 : IntKind.i64.wrap (48 + (m : Int)) = 48 + (m : Int) := by rw [IntKind.wrap_i64]; omega
      clear ih hn h10 hm hil hih hd hS hT z1 z2 hmm hq
      go_enter Tryd.func37, Tryd.ntmps37
      go_upto_region 3 with fail
      have hw := hw.drew
      refine anyG_start (S := Below w.heap.size w) (by kernel_rfl) ?_
      generalize w.drew = W0 at hw ⊢
      refine anyG_take (i := 0) 10 (.int .i64 n) rfl rfl (by kernel_rfl) (by kernel_rfl) (by kernel_rfl) rfl (fun _ _ => by go_simp) hw ?_
      try simp only [Act.put, List.setIfInBounds_toArray, List.set_cons_succ, List.set_cons_zero]
      refine anyG_take (i := 1) 11 (.int .i64 qn) rfl rfl (by kernel_rfl) (by kernel_rfl) (by kernel_rfl) rfl (fun _ _ => by go_simp) hw ?_
      try simp only [Act.put, List.setIfInBounds_toArray, List.set_cons_succ, List.set_cons_zero]
      refine anyG_take (i := 3) 13 (.int .i64 n) rfl rfl (by kernel_rfl) (by kernel_rfl) (by kernel_rfl) rfl (fun _ _ => by go_simp) hw ?_
      try simp only [Act.put, List.setIfInBounds_toArray, List.set_cons_succ, List.set_cons_zero]
      refine anyG_take (i := 4) 14 (.int .i64 m) rfl rfl (by kernel_rfl) (by kernel_rfl) (by kernel_rfl) rfl (fun _ _ => by go_simp) hw ?_
      try simp only [Act.put, List.setIfInBounds_toArray, List.set_cons_succ, List.set_cons_zero]
      refine anyG_take (i := 5) 15 (.int .i64 (48 + (m : Int))) rfl rfl (by kernel_rfl) (by kernel_rfl) (by kernel_rfl) rfl (fun _ _ => by go_simp) hw ?_
      try simp only [Act.put, List.setIfInBounds_toArray, List.set_cons_succ, List.set_cons_zero]
      refine anyG_take (i := 6) 16 (.int .u8 (48 + (m : Int))) rfl rfl (by kernel_rfl) (by kernel_rfl) (by kernel_rfl) rfl (fun _ _ => by go_simp) hw ?_
      try simp only [Act.put, List.setIfInBounds_toArray, List.set_cons_succ, List.set_cons_zero]
      refine anyG_two (i := 2) (j := 7) rfl rfl (by kernel_rfl) rfl rfl (fun K hK => ?_) (fun K hK => ?_)
      · go_simp
        refine (HIh.out W0).mono ?_
        rintro e W1 ⟨rfl, hb1⟩
        have hw1 := hw.trans (hb1.mono hw.size)
        refine hK.out _ _ hw1 ?_
        clear hK K
        try simp only [Act.put, List.setIfInBounds_toArray, List.set_cons_succ, List.set_cons_zero]
        refine anyG_step (i := 7) rfl (by kernel_rfl) rfl (fun K hK => ?_)
        go_simp
        refine hK.out _ _ (hw1.alloc hw1.size _) ?_
        clear hK K
        try simp only [Act.put, List.setIfInBounds_toArray, List.set_cons_succ, List.set_cons_zero]
        have kc := conv_any (digit_text HM.out W1)
        rw [HT.out] at kc
        refine anyG_step (i := 8) rfl (by kernel_rfl) rfl (fun K hK => ?_)
        go_simp
        refine hK.out _ _ (hw1.alloc hw1.size _) ?_
        clear hK K kc
        try simp only [Act.put, List.setIfInBounds_toArray, List.set_cons_succ, List.set_cons_zero]
        refine anyG_step (i := 9) rfl (by kernel_rfl) rfl (fun K hK => ?_)
        go_simp
        refine hK.out _ _ (hw1.alloc hw1.size _) ?_
        clear hK K
        try simp only [Act.put, List.setIfInBounds_toArray, List.set_cons_succ, List.set_cons_zero]
        refine anyG_step (i := 10) rfl (by kernel_rfl) rfl (fun K hK => ?_)
        go_simp
        refine hK.out _ _ (hw1.alloc hw1.size _) ?_
        clear hK K
        try simp only [Act.put, List.setIfInBounds_toArray, List.set_cons_succ, List.set_cons_zero]
        refine anyG_done (by kernel_rfl) ?_
        go_wp2_with fail
        go_ret
        exact ⟨by rw [HD.out, HST.out]; rfl, hw1.alloc hw1.size _⟩
      · go_simp
        refine hK.out _ _ (hw.alloc hw.size _) ?_
        clear hK K
        try simp only [Act.put, List.setIfInBounds_toArray, List.set_cons_succ, List.set_cons_zero]
        have hbt := digit_text HM.out W0
        have kc := conv_any hbt
        rw [HT.out] at kc
        have hw1 := hw.alloc hw.size (.cells #[.int .u8 (48 + (m : Int))] 5)
        generalize W0.alloc (.cells #[.int .u8 (48 + (m : Int))] 5) = W1 at hbt kc hw1 ⊢
        refine anyG_two (i := 2) (j := 8) rfl rfl (by kernel_rfl) rfl rfl (fun K hK => ?_) (fun K hK => ?_)
        · go_simp
          refine (HIh.out W1).mono ?_
          rintro e W2 ⟨rfl, hb1⟩
          have hw2 := hw1.trans (hb1.mono hw1.size)
          have kc2 := conv_any (hbt.below hb1)
          rw [HT.out] at kc2
          refine hK.out _ _ hw2 ?_
          clear hK K kc
          try simp only [Act.put, List.setIfInBounds_toArray, List.set_cons_succ, List.set_cons_zero]
          refine anyG_step (i := 8) rfl (by kernel_rfl) rfl (fun K hK => ?_)
          go_simp
          refine hK.out _ _ hw2 ?_
          clear hK K kc2
          try simp only [Act.put, List.setIfInBounds_toArray, List.set_cons_succ, List.set_cons_zero]
          refine anyG_step (i := 9) rfl (by kernel_rfl) rfl (fun K hK => ?_)
          go_simp
          refine hK.out _ _ hw2 ?_
          clear hK K
          try simp only [Act.put, List.setIfInBounds_toArray, List.set_cons_succ, List.set_cons_zero]
          refine anyG_step (i := 10) rfl (by kernel_rfl) rfl (fun K hK => ?_)
          go_simp
          refine hK.out _ _ hw2 ?_
          clear hK K
          try simp only [Act.put, List.setIfInBounds_toArray, List.set_cons_succ, List.set_cons_zero]
          refine anyG_done (by kernel_rfl) ?_
          go_wp2_with fail
          go_ret
          exact ⟨by rw [HD.out, HST.out]; rfl, hw2⟩
        · go_simp
          refine hK.out _ _ hw1 ?_
          clear hK K kc
          try simp only [Act.put, List.setIfInBounds_toArray, List.set_cons_succ, List.set_cons_zero]
          refine anyG_step (i := 2) rfl (by kernel_rfl) rfl (fun K hK => ?_)
          go_simp
          refine (HIh.out W1).mono ?_
          rintro e W2 ⟨rfl, hb1⟩
          have hw2 := hw1.trans (hb1.mono hw1.size)
          refine hK.out _ _ hw2 ?_
          clear hK K
          try simp only [Act.put, List.setIfInBounds_toArray, List.set_cons_succ, List.set_cons_zero]
          refine anyG_step (i := 9) rfl (by kernel_rfl) rfl (fun K hK => ?_)
          go_simp
          refine hK.out _ _ hw2 ?_
          clear hK K
          try simp only [Act.put, List.setIfInBounds_toArray, List.set_cons_succ, List.set_cons_zero]
          refine anyG_step (i := 10) rfl (by kernel_rfl) rfl (fun K hK => ?_)
          go_simp
          refine hK.out _ _ hw2 ?_
          clear hK K
          try simp only [Act.put, List.setIfInBounds_toArray, List.set_cons_succ, List.set_cons_zero]
          refine anyG_done (by kernel_rfl) ?_
          go_wp2_with fail
          go_ret
          exact ⟨by rw [HD.out, HST.out]; rfl, hw2⟩

end Go.Proofs.YtmmhpjhmobhdiaaDoor
