/- The document's digits of a number. -/
import Derived.Lib.ItoaLen
import Derived.Test.YtmmhpjhmobhdiaaDoorRows
import Derived.Test.YtmmhpjhmobhdiaaDoorDdefs
import Derived.Test.YtmmhpjhmobhdiaaDoorGheavy
import Derived.Test.YtmmhpjhmobhdiaaDoorRA
import Derived.Test.YtmmhpjhmobhdiaaDoorPA
import Derived.Outline
import Derived.Deep.RegionWith
import Derived.Test.YtmmhpjhmobhdiaaDoorDenote
import Derived.Test.YtmmhpjhmobhdiaaDoorUniqPlain
import Derived.Deep.RegionHeld3
import Derived.Test.YtmmhpjhmobhdiaaDoorUniqFace
namespace Go.Proofs.YtmmhpjhmobhdiaaDoor
open Go.RowKit

theorem byte_wrap {n : Nat} (h : n < 10) : IntKind.u8.wrap (48 + (n : Int)) = 48 + (n : Int) := by
  unfold IntKind.wrap
  simp only [show IntKind.u8.bits = 8 from rfl, show IntKind.u8.signed = false from rfl, Bool.false_and, Bool.false_eq_true, if_false]
  omega
theorem one_digit {n : Nat} (h : n < 10) : ((UInt8.ofNat (48 + n)).toNat : Int) = 48 + (n : Int) := by
  have : (UInt8.ofNat (48 + n)).toNat = 48 + n := by simp [UInt8.toNat_ofNat']; omega
  rw [this]
  omega

/-- A byte that was made a row is a text of one byte. -/
theorem digit_text {n : Nat} (h : n < 10) (W : World) : IsBytes (fun _ => True) (W.alloc (.cells #[.int .u8 (48 + (n : Int))] 5)) (.slice (some ⟨W.heap.size, 0, none⟩) 1 1) [UInt8.ofNat (48 + n)] := by
  refine ⟨_, 1, rfl, Nat.le_refl _, fun j c hj => ⟨_, _, rfl, trivial, ?_⟩⟩
  match j, hj with
  | 0, hj =>
    simp only [List.getElem?_cons_zero, Option.some.injEq] at hj
    subst hj
    rw [one_digit h, Nat.zero_add, cell_of_row _ _ _ _ _ _ (heap_alloc_last W _)]
    rfl
  | j + 1, hj => simp at hj

set_option maxRecDepth 100000 in
set_option maxHeartbeats 4000000 in
theorem digits_any : ∀ (n : Nat) (w : World), n ≤ 2000000000 → Calls Tryd.prog 37 #[.int .i64 n] w fun e w' => e = .returned (strV (Lib.decDigits n)) ∧ Below w.heap.size w w' := by
  intro n
  induction n using Nat.strongRecOn with
  | _ n ih =>
    intro w hn
    by_cases h10 : n < 10
    · have q1 : (n : Int) < 10 := by omega
      have q2 := byte_wrap h10
      have HD := Lib.hid (show Lib.decDigits n = [UInt8.ofNat (48 + n)] by rw [Lib.decDigits, dif_pos h10])
      have kc := conv_any (digit_text h10 w)
      obtain ⟨T, hT⟩ : ∃ S : ByteArray, strV [UInt8.ofNat (48 + n)] = .string S := ⟨_, rfl⟩
      rw [hT] at kc
      have HT := Lib.hid hT
      clear ih hT
      go_enter Tryd.func37, Tryd.ntmps37
      go_wp2
      go_ret
      exact ⟨by rw [HD.out, HT.out]; rfl, (Below.refl _ _).alloc (Nat.le_refl _) _⟩
    · have q1 : ¬ (n : Int) < 10 := by omega
      have hm : n % 10 < 10 := Nat.mod_lt _ (by decide)
      have HM := Lib.hid hm
      have q2 := byte_wrap hm
      have q3 : (n : Int).tdiv 10 = ((n / 10 : Nat) : Int) := by rw [Int.tdiv_eq_ediv_of_nonneg (by omega)]; omega
      have q4 : (n : Int).tmod 10 = ((n % 10 : Nat) : Int) := by rw [Int.tmod_eq_emod_of_nonneg (by omega)]; omega
      have hil := Lib.itoa_length_le ((n / 10 : Nat) : Int) (by omega) (by omega)
      rw [Lib.itoa_nonneg] at hil
      have hih := fun (W : World) => ih (n / 10) (by omega) W (by omega)
      obtain ⟨d, hd⟩ : ∃ d, d = Lib.decDigits (n / 10) := ⟨_, rfl⟩
      have HD := Lib.hid (show Lib.decDigits n = d ++ [UInt8.ofNat (48 + n % 10)] by rw [Lib.decDigits, dif_neg h10, hd])
      rw [← hd] at hil hih
      obtain ⟨S, hS⟩ : ∃ S : ByteArray, strV d = .string S := ⟨_, rfl⟩
      obtain ⟨T, hT⟩ : ∃ S : ByteArray, strV [UInt8.ofNat (48 + n % 10)] = .string S := ⟨_, rfl⟩
      have z1 := strV_size hS
      have z2 := strV_size hT
      simp only [List.length_cons, List.length_nil] at z2
      have a1 := add_fits (S := S) (T := T) (by omega) (by omega)
      have HST := Lib.hid (strV_add hS hT)
      rw [hS] at hih
      have HIh := Lib.hid hih
      have HT := Lib.hid hT
      obtain ⟨m, hmm⟩ : ∃ m, m = n % 10 := ⟨_, rfl⟩
      obtain ⟨qn, hq⟩ : ∃ qn, qn = n / 10 := ⟨_, rfl⟩
      rw [← hmm] at q2 q4 HM HST HD HT
      rw [← hq] at q3 HIh
      have hw : Below w.heap.size w w := Below.refl _ _
      have q5 : IntKind.i64.wrap (qn : Int) = qn := by rw [IntKind.wrap_i64]; omega
      have q6 : IntKind.i64.wrap (48 + (m : Int)) = 48 + (m : Int) := by rw [IntKind.wrap_i64]; omega
      clear ih hn h10 hm hil hih hd hS hT z1 z2 hmm hq
      go_enter Tryd.func37, Tryd.ntmps37
      go_upto_region 3 with fail
      have hw := hw.drew
      refine anyG_start (S := Below w.heap.size w) (by kernel_rfl) ?_
      generalize w.drew = W0 at hw ⊢
      refine anyG_take (i := 0) 10 (.int .i64 n) rfl rfl (by kernel_rfl) (by kernel_rfl) (by kernel_rfl) rfl (fun _ _ => by go_simp) hw ?_
      try simp only [Act.put, List.setIfInBounds_toArray, List.set_cons_succ, List.set_cons_zero]
      refine anyG_take (i := 1) 11 (.int .i64 qn) rfl rfl (by kernel_rfl) (by kernel_rfl) (by kernel_rfl) rfl (fun _ _ => by go_simp) hw ?_
      try simp only [Act.put, List.setIfInBounds_toArray, List.set_cons_succ, List.set_cons_zero]
      refine anyG_take (i := 3) 13 (.int .i64 n) rfl rfl (by kernel_rfl) (by kernel_rfl) (by kernel_rfl) rfl (fun _ _ => by go_simp) hw ?_
      try simp only [Act.put, List.setIfInBounds_toArray, List.set_cons_succ, List.set_cons_zero]
      refine anyG_take (i := 4) 14 (.int .i64 m) rfl rfl (by kernel_rfl) (by kernel_rfl) (by kernel_rfl) rfl (fun _ _ => by go_simp) hw ?_
      try simp only [Act.put, List.setIfInBounds_toArray, List.set_cons_succ, List.set_cons_zero]
      refine anyG_take (i := 5) 15 (.int .i64 (48 + (m : Int))) rfl rfl (by kernel_rfl) (by kernel_rfl) (by kernel_rfl) rfl (fun _ _ => by go_simp) hw ?_
      try simp only [Act.put, List.setIfInBounds_toArray, List.set_cons_succ, List.set_cons_zero]
      refine anyG_take (i := 6) 16 (.int .u8 (48 + (m : Int))) rfl rfl (by kernel_rfl) (by kernel_rfl) (by kernel_rfl) rfl (fun _ _ => by go_simp) hw ?_
      try simp only [Act.put, List.setIfInBounds_toArray, List.set_cons_succ, List.set_cons_zero]
      refine anyG_two (i := 2) (j := 7) rfl rfl (by kernel_rfl) rfl rfl (fun K hK => ?_) (fun K hK => ?_)
      · go_simp
        refine (HIh.out W0).mono ?_
        rintro e W1 ⟨rfl, hb1⟩
        have hw1 := hw.trans (hb1.mono hw.size)
        refine hK.out _ _ hw1 ?_
        clear hK K
        try simp only [Act.put, List.setIfInBounds_toArray, List.set_cons_succ, List.set_cons_zero]
        refine anyG_step (i := 7) rfl (by kernel_rfl) rfl (fun K hK => ?_)
        go_simp
        refine hK.out _ _ (hw1.alloc hw1.size _) ?_
        clear hK K
        try simp only [Act.put, List.setIfInBounds_toArray, List.set_cons_succ, List.set_cons_zero]
        have kc := conv_any (digit_text HM.out W1)
        rw [HT.out] at kc
        refine anyG_step (i := 8) rfl (by kernel_rfl) rfl (fun K hK => ?_)
        go_simp
        refine hK.out _ _ (hw1.alloc hw1.size _) ?_
        clear hK K kc
        try simp only [Act.put, List.setIfInBounds_toArray, List.set_cons_succ, List.set_cons_zero]
        refine anyG_step (i := 9) rfl (by kernel_rfl) rfl (fun K hK => ?_)
        go_simp
        refine hK.out _ _ (hw1.alloc hw1.size _) ?_
        clear hK K
        try simp only [Act.put, List.setIfInBounds_toArray, List.set_cons_succ, List.set_cons_zero]
        refine anyG_step (i := 10) rfl (by kernel_rfl) rfl (fun K hK => ?_)
        go_simp
        refine hK.out _ _ (hw1.alloc hw1.size _) ?_
        clear hK K
        try simp only [Act.put, List.setIfInBounds_toArray, List.set_cons_succ, List.set_cons_zero]
        refine anyG_done (by kernel_rfl) ?_
        go_wp2_with fail
        go_ret
        exact ⟨by rw [HD.out, HST.out]; rfl, hw1.alloc hw1.size _⟩
      · go_simp
        refine hK.out _ _ (hw.alloc hw.size _) ?_
        clear hK K
        try simp only [Act.put, List.setIfInBounds_toArray, List.set_cons_succ, List.set_cons_zero]
        have hbt := digit_text HM.out W0
        have kc := conv_any hbt
        rw [HT.out] at kc
        have hw1 := hw.alloc hw.size (.cells #[.int .u8 (48 + (m : Int))] 5)
        generalize W0.alloc (.cells #[.int .u8 (48 + (m : Int))] 5) = W1 at hbt kc hw1 ⊢
        refine anyG_two (i := 2) (j := 8) rfl rfl (by kernel_rfl) rfl rfl (fun K hK => ?_) (fun K hK => ?_)
        · go_simp
          refine (HIh.out W1).mono ?_
          rintro e W2 ⟨rfl, hb1⟩
          have hw2 := hw1.trans (hb1.mono hw1.size)
          have kc2 := conv_any (hbt.below hb1)
          rw [HT.out] at kc2
          refine hK.out _ _ hw2 ?_
          clear hK K kc
          try simp only [Act.put, List.setIfInBounds_toArray, List.set_cons_succ, List.set_cons_zero]
          refine anyG_step (i := 8) rfl (by kernel_rfl) rfl (fun K hK => ?_)
          go_simp
          refine hK.out _ _ hw2 ?_
          clear hK K kc2
          try simp only [Act.put, List.setIfInBounds_toArray, List.set_cons_succ, List.set_cons_zero]
          refine anyG_step (i := 9) rfl (by kernel_rfl) rfl (fun K hK => ?_)
          go_simp
          refine hK.out _ _ hw2 ?_
          clear hK K
          try simp only [Act.put, List.setIfInBounds_toArray, List.set_cons_succ, List.set_cons_zero]
          refine anyG_step (i := 10) rfl (by kernel_rfl) rfl (fun K hK => ?_)
          go_simp
          refine hK.out _ _ hw2 ?_
          clear hK K
          try simp only [Act.put, List.setIfInBounds_toArray, List.set_cons_succ, List.set_cons_zero]
          refine anyG_done (by kernel_rfl) ?_
          go_wp2_with fail
          go_ret
          exact ⟨by rw [HD.out, HST.out]; rfl, hw2⟩
        · go_simp
          refine hK.out _ _ hw1 ?_
          clear hK K kc
          try simp only [Act.put, List.setIfInBounds_toArray, List.set_cons_succ, List.set_cons_zero]
          refine anyG_step (i := 2) rfl (by kernel_rfl) rfl (fun K hK => ?_)
          go_simp
          refine (HIh.out W1).mono ?_
          rintro e W2 ⟨rfl, hb1⟩
          have hw2 := hw1.trans (hb1.mono hw1.size)
          refine hK.out _ _ hw2 ?_
          clear hK K
          try simp only [Act.put, List.setIfInBounds_toArray, List.set_cons_succ, List.set_cons_zero]
          refine anyG_step (i := 9) rfl (by kernel_rfl) rfl (fun K hK => ?_)
          go_simp
          refine hK.out _ _ hw2 ?_
          clear hK K
          try simp only [Act.put, List.setIfInBounds_toArray, List.set_cons_succ, List.set_cons_zero]
          refine anyG_step (i := 10) rfl (by kernel_rfl) rfl (fun K hK => ?_)
          go_simp
          refine hK.out _ _ hw2 ?_
          clear hK K
          try simp only [Act.put, List.setIfInBounds_toArray, List.set_cons_succ, List.set_cons_zero]
          refine anyG_done (by kernel_rfl) ?_
          go_wp2_with fail
          go_ret
          exact ⟨by rw [HD.out, HST.out]; rfl, hw2⟩

end Go.Proofs.YtmmhpjhmobhdiaaDoor

namespace Go.Proofs.YtmmhpjhmobhdiaaDoor
open Go.RowKit

/-! Lines, group by group. -/
def runLen (x : List UInt8) : Lines → Nat
  | [] => 0
  | l :: r => if l = x then runLen x r + 1 else 0
theorem runLen_le (x : List UInt8) : ∀ L : Lines, runLen x L ≤ L.length
  | [] => Nat.le_refl _
  | l :: r => by
    have := runLen_le x r
    rw [runLen]
    split <;> simp <;> omega
theorem runLen_at {x : List UInt8} : ∀ (L : Lines) (m : Nat), (∀ j, j < m → L[j]? = some x) → L[m]? ≠ some x → runLen x L = m
  | [], 0, _, _ => rfl
  | [], m + 1, h, _ => by have := h 0 (by omega); simp at this
  | l :: r, 0, _, h => by
    rw [runLen, if_neg (fun e => h (by simp [e]))]
  | l :: r, m + 1, h, hn => by
    have h0 := h 0 (by omega)
    simp only [List.getElem?_cons_zero, Option.some.injEq] at h0
    rw [runLen, if_pos h0, runLen_at r m (fun j hj => by have := h (j + 1) (by omega); simpa using this) (by simpa using hn)]
theorem runLen_all (x : List UInt8) : ∀ (L : Lines) (m : Nat), m < runLen x L → L[m]? = some x
  | [], m, h => by simp [runLen] at h
  | l :: r, m, h => by
    rw [runLen] at h
    split at h
    · cases m with
      | zero => simp [*]
      | succ m => simpa using runLen_all x r m (by omega)
    · omega
theorem runLen_stop (x : List UInt8) : ∀ L : Lines, L[runLen x L]? ≠ some x
  | [] => by simp [runLen]
  | l :: r => by
    rw [runLen]
    split
    · simpa using runLen_stop x r
    · simpa using by assumption
def groupS (c sure : Bool) (x : List UInt8) (m : Nat) : List UInt8 := if c = false then x ++ [10] else if sure = true then Lib.decDigits m ++ 32 :: x ++ [10] else []
def docS (c all : Bool) : Lines → List UInt8
  | [] => []
  | x :: r => groupS c (decide (runLen x r < r.length) || all) x (runLen x r + 1) ++ docS c all (r.drop (runLen x r))
termination_by L => L.length
decreasing_by simp; omega
theorem digits_len {m : Nat} (h : m ≤ 1000000) : (Lib.decDigits m).length ≤ 21 := by
  have := Lib.itoa_length_le (m : Int) (by omega) (by omega)
  rwa [Lib.itoa_nonneg] at this
theorem groupS_len {c sure : Bool} {x : List UInt8} {m : Nat} (hx : x.length ≤ 64) (hm : m ≤ 1000000) : (groupS c sure x m).length ≤ 87 := by
  have := digits_len hm
  unfold groupS
  repeat' split
  all_goals simp
  all_goals omega
theorem docS_len (c all : Bool) : ∀ (L : Lines), (∀ l ∈ L, l.length ≤ 64) → L.length ≤ 100000 → (docS c all L).length ≤ 87 * L.length
  | [], _, _ => by simp [docS]
  | x :: r, h, hl => by
    rw [docS, List.length_append]
    have h1 := runLen_le x r
    simp only [List.length_cons] at hl
    have h2 := groupS_len (c := c) (sure := decide (runLen x r < r.length) || all) (m := runLen x r + 1) (h x (by simp)) (by omega)
    have h3 := docS_len c all (r.drop (runLen x r)) (fun l hl => h l (List.mem_cons_of_mem _ (List.mem_of_mem_drop hl))) (by simp; omega)
    simp only [List.length_drop, List.length_cons] at h3 ⊢
    omega
termination_by L => L.length
decreasing_by simp; omega
/-- The group that begins at line j. -/
theorem docS_at {c all : Bool} {L : Lines} {j k : Nat} {x : List UInt8} (hj : L[j]? = some x) (hk : ∀ m, j ≤ m → m < k → L[m]? = some x) (hn : L[k]? ≠ some x) (hjk : j < k) (hkL : k ≤ L.length) :
    docS c all (L.drop j) = groupS c (decide (k < L.length) || all) x (k - j) ++ docS c all (L.drop k) := by
  obtain ⟨hjl, hx⟩ := List.getElem?_eq_some_iff.1 hj
  rw [List.drop_eq_getElem_cons hjl, hx, docS]
  have hr : runLen x (L.drop (j + 1)) = k - (j + 1) := by
    refine runLen_at _ _ (fun m hm => ?_) ?_
    · rw [List.getElem?_drop]
      exact hk _ (by omega) (by omega)
    · rw [List.getElem?_drop, show j + 1 + (k - (j + 1)) = k by omega]
      exact hn
  rw [hr, List.length_drop, List.drop_drop, show k - (j + 1) + 1 = k - j by omega, show j + 1 + (k - (j + 1)) = k by omega]
  congr 3
  simp only [decide_eq_decide]
  omega
def uniqWant (N : Nat) (_ _ : List UInt8) (i : Strm) : Strm :=
  let r := readL i.bytes i.ended (i.code, i.stage, i.id)
  ⟨docS (decide (N = 1)) r.2.1 r.1, r.2.1, if r.2.1 then 0 else r.2.2.1, if r.2.1 then 0 else r.2.2.2.1, if r.2.1 then 0 else r.2.2.2.2⟩

set_option maxRecDepth 100000 in
set_option maxHeartbeats 8000000 in
theorem uniqMeans_any {p : Nat → Prop} (k : Int) (N : Nat) (va vb : Value) (A B : List UInt8) (iv : Value) (i : Strm) (w : World) (hA : Pm.IsBytes w va A) (_ : Pm.IsBytes w vb B) (hI : IsStrms p w iv [i]) (hN : N ≤ 1) (hl : i.bytes.length ≤ 4000) :
    Calls Tryd.prog 19 #[Pm.parV k N va vb, iv] w (OutEnd w (uniqWant N A B i)) := by
  have hb0 : Below w.heap.size w (w.alloc (.cells #[.int .i64 k, .int .i64 N, va, vb] 24)) := (Below.refl _ _).alloc (Nat.le_refl _) _
  obtain ⟨_, _, e, hcs⟩ := hI.below hb0
  subst e
  obtain ⟨gb, off, bv, rfl, -, c0, c1, c2, c3, c4, hbytes⟩ := hcs 0 i rfl
  simp only [Nat.zero_mul, Nat.add_zero] at c0 c1 c2 c3 c4
  have hlines := lines_any bv i.bytes i.ended i.code i.stage i.id (w.alloc (.cells #[.int .i64 k, .int .i64 N, va, vb] 24)) hbytes (by omega)
  obtain ⟨hr64, hrl⟩ := readL_lines i.bytes i.ended (i.code, i.stage, i.id)
  obtain ⟨L, all, x1, x2, x3, hr⟩ : ∃ L all x1 x2 x3, readL i.bytes i.ended (i.code, i.stage, i.id) = (L, all, x1, x2, x3) := ⟨_, _, _, _, _, rfl⟩
  have hwant : uniqWant N A B i = ⟨docS (decide (N = 1)) all L, all, if all then 0 else x1, if all then 0 else x2, if all then 0 else x3⟩ := by
    unfold uniqWant
    rw [hr]
  obtain ⟨T, hT⟩ : ∃ T, T = uniqWant N A B i := ⟨_, rfl⟩
  rw [← hT]
  rw [hwant] at hT
  have HT := Lib.hid hT
  rw [hr] at hr64 hrl
  unfold ReadEnd at hlines
  rw [hr] at hlines
  simp only [readV] at hr64 hrl hlines
  have hdl := fun (M : Lines) (h : ∀ l ∈ M, l.length ≤ 64) (h2 : M.length ≤ 100000) => docS_len (decide (N = 1)) all M h h2
  have hmid : (w.alloc (.cells #[.int .i64 k, .int .i64 N, va, vb] 24)).rangeAt gb off [bv, .bool i.ended, .int .i64 i.code, .int .i64 i.stage, .int .i64 i.id] := fun j v hv => by
    rcases j with _ | _ | _ | _ | _ | j
    · cases hv; exact c0
    · cases hv; exact c1
    · cases hv; exact c2
    · cases hv; exact c3
    · cases hv; exact c4
    · simp at hv
  have HL := Lib.hid hlines
  have HB0 := Lib.hid hb0
  have HR := Lib.hid hr64
  obtain ⟨ab, cb, rfl, -, -⟩ := hbytes
  have HA := Lib.hid (show ∀ W, Below w.heap.size w W → Pm.IsBytes W va A from fun W hb => hA.below hb)
  clear hlines hb0 hwant hr hr64 hcs hI hT hA
  unfold Pm.parV
  simp only [List.length_cons, List.length_nil, Nat.zero_add]
  go_enter Tryd.func19, Tryd.ntmps19
  go_wp2_with (first | (refine wpList_load_mid rfl 61 (.tmp 10) rfl gb off rfl _ _ hmid Tryd.underlying61 rfl (by kernel_rfl) ?_))
  refine HL.out.mono ?_
  rintro e w1 ⟨lv, rfl, hown, hb1⟩
  obtain ⟨la, lc, rfl⟩ := Pm.owns_slice hown
  have hTx := isTexts_of_owns hown
  have hp1 : w1.cell? ⟨w.heap.size, 1, none⟩ = some (.int .i64 N) := Pm.Below.cell hb1 (by simp)
  have hp2 : w1.cell? ⟨w.heap.size, 2, none⟩ = some va := Pm.Below.cell hb1 (by simp)
  have hp0 : w1.cell? ⟨w.heap.size, 0, none⟩ = some (.int .i64 k) := Pm.Below.cell hb1 (by simp)
  have hp3 : w1.cell? ⟨w.heap.size, 3, none⟩ = some vb := Pm.Below.cell hb1 (by simp)
  have hbw : Below w.heap.size w w1 := HB0.out.trans (hb1.mono HB0.out.size)
  have hsz1 := hbw.size
  have HTx := Lib.hid hTx
  have HP1 := Lib.hid hp1
  have HP2 := Lib.hid hp2
  have HP0 := Lib.hid hp0
  have HP3 := Lib.hid hp3
  have HBW := Lib.hid hbw
  have HRow := Lib.hid (heap_alloc_last w1 (.cells #[.slice la L.length lc, .bool all, .int .i64 x1, .int .i64 x2, .int .i64 x3] 96))
  have HAl := Lib.hid ((Below.refl w1.heap.size w1).alloc (Nat.le_refl _) (.cells #[.slice la L.length lc, .bool all, .int .i64 x1, .int .i64 x2, .int .i64 x3] 96))
  clear hown hTx hp1 hp2 hp0 hp3 hbw hb1 hmid c0 c1 c2 c3 c4
  go_wp2_with fail
  have hrow := HRow.out
  have hal := HAl.out
  change Code.wp _ _ _ _ (w1.alloc (.cells #[.slice la L.length lc, .bool all, .int .i64 x1, .int .i64 x2, .int .i64 x3] 96))
  generalize w1.alloc (.cells #[.slice la L.length lc, .bool all, .int .i64 x1, .int .i64 x2, .int .i64 x3] 96) = W2 at hrow hal ⊢
  have cN := Pm.Below.cell hal HP1.out
  have cL : W2.cell? ⟨w1.heap.size, 0, none⟩ = some (.slice la L.length lc) := by rw [cell_of_row _ _ _ _ _ _ hrow]; rfl
  have cA : W2.cell? ⟨w1.heap.size, 1, none⟩ = some (.bool all) := by rw [cell_of_row _ _ _ _ _ _ hrow]; rfl
  have hmid2 : W2.rangeAt w1.heap.size 2 [Value.int .i64 x1, .int .i64 x2, .int .i64 x3] := fun j v hv => by
    rw [cell_of_row _ _ _ _ _ _ hrow]
    rcases j with _ | _ | _ | j
    · exact hv
    · exact hv
    · exact hv
    · simp at hv
  have cV := Pm.Below.cell hal HP2.out
  have cK := Pm.Below.cell hal HP0.out
  have cB := Pm.Below.cell hal HP3.out
  have HY := Lib.hid (show ∀ W, Below W2.heap.size W2 W → W.cell? ⟨w.heap.size, 0, none⟩ = some (.int .i64 k) ∧ W.cell? ⟨w.heap.size, 3, none⟩ = some vb from fun W hb => ⟨Pm.Below.cell hb cK, Pm.Below.cell hb cB⟩)
  have hlt2 := (Array.getElem?_eq_some_iff.1 hrow).1
  have HX := Lib.hid (show ∀ W, Below W2.heap.size W2 W → W.cell? ⟨w.heap.size, 1, none⟩ = some (.int .i64 N) ∧ W.cell? ⟨w.heap.size, 2, none⟩ = some va ∧ W.cell? ⟨w1.heap.size, 0, none⟩ = some (.slice la L.length lc) ∧ W.cell? ⟨w1.heap.size, 1, none⟩ = some (.bool all) ∧ W.rangeAt w1.heap.size 2 [Value.int .i64 x1, Value.int .i64 x2, Value.int .i64 x3] from fun W hb => by
    have hr := (hb.block w1.heap.size hlt2).trans hrow
    refine ⟨Pm.Below.cell hb cN, Pm.Below.cell hb cV, Pm.Below.cell hb cL, Pm.Below.cell hb cA, fun j v hv => ?_⟩
    rw [cell_of_row _ _ _ _ _ _ hr]
    rcases j with _ | _ | _ | j
    · exact hv
    · exact hv
    · exact hv
    · simp at hv)
  have hb2 := HBW.out.trans (hal.mono HBW.out.size)
  have HTx2 := Lib.hid (show ∀ W, Below W2.heap.size W2 W → IsTexts ((w.alloc (.cells #[.int .i64 k, .int .i64 N, va, vb] 24)).heap.size ≤ ·) W (.slice la L.length lc) L from fun W hb => (HTx.out.below hal).below hb)
  have HB2 := Lib.hid (show ∀ W, Below W2.heap.size W2 W → Below w.heap.size w W from fun W hb => hb2.trans (hb.mono hb2.size))
  clear hrow hal HRow HAl hlt2 cN cL cA cV hmid2 hb2 HTx HBW HP1 HP2 HP0 HP3 cK cB
  obtain ⟨n, hn⟩ : ∃ n, n = L.length := ⟨_, rfl⟩
  have HDL := Lib.hid hdl
  clear hdl
  have hst : strV [] = .string { data := #[] } := rfl
  rw [← hst]
  clear hst
  go_loopw [6, 7] (fun sv iv wr => ∃ (j : Nat) (t : List UInt8), sv = strV t ∧ iv = .int .i64 j ∧ j ≤ L.length ∧ docS (decide (N = 1)) all L = t ++ docS (decide (N = 1)) all (L.drop j) ∧ Below W2.heap.size W2 wr) (fun _ i _ => L.length - (intOf i).toNat)
  case atStart => exact ⟨0, [], rfl, rfl, Nat.zero_le _, rfl, Below.refl _ _⟩
  case round =>
    obtain ⟨j, t, rfl, rfl, hjL, htd, hbr⟩ := hrel
    have hlen := HDL.out L HR.out (by omega)
    have htl : t.length ≤ 87 * L.length := by rw [htd, List.length_append] at hlen; omega
    obtain ⟨S0, hS0⟩ : ∃ S : ByteArray, strV t = .string S := ⟨_, rfl⟩
    rw [hS0]
    have z0 := strV_size hS0
    have HS0 := Lib.hid hS0
    have HTd := Lib.hid htd
    clear hS0 htd hlen
    by_cases hlt : j < L.length
    · obtain ⟨l, hl2⟩ : ∃ l, L[j]? = some l := ⟨L[j]'hlt, List.getElem?_eq_getElem hlt⟩
      have HL2 := Lib.hid hl2
      have q1 : (j : Int) < (L.length : Int) := by omega
      obtain ⟨b1, b2, b3, b4, -⟩ := HX.out _ hbr
      have HBr := Lib.hid hbr
      clear hl2 hbr b1 b2 b4
      go_wp2_with fail
      obtain ⟨K, hKj, hKL, hKx, hKn⟩ : ∃ K, j < K ∧ K ≤ L.length ∧ (∀ m, j ≤ m → m < K → L[m]? = some l) ∧ L[K]? ≠ some l := by
        refine ⟨j + 1 + runLen l (L.drop (j + 1)), by omega, ?_, ?_, ?_⟩
        · have := runLen_le l (L.drop (j + 1)); simp at this; omega
        · intro m h1 h2
          by_cases hm : m = j
          · rw [hm]; exact HL2.out
          · have := runLen_all l (L.drop (j + 1)) (m - (j + 1)) (by omega)
            rw [List.getElem?_drop, show j + 1 + (m - (j + 1)) = m by omega] at this
            exact this
        · have := runLen_stop l (L.drop (j + 1))
          rw [List.getElem?_drop] at this
          exact this
      have HKx := Lib.hid hKx
      have HKn := Lib.hid hKn
      clear hKx hKn
      go_loopw [8] (fun kv wr => ∃ q : Nat, kv = .int .i64 q ∧ j ≤ q ∧ q ≤ K ∧ Below W2.heap.size W2 wr) (fun kv _ => K - (intOf kv).toNat)
      case atStart => exact ⟨j, rfl, Nat.le_refl _, by omega, HBr.out⟩
      case round =>
        obtain ⟨q, rfl, hq1, hq2, hbq⟩ := hrel
        have HQ1 := Lib.hid hq1
        have HQ2 := Lib.hid hq2
        obtain ⟨bb, hbb⟩ : ∃ bb, bb = decide (q < K) := ⟨_, rfl⟩
        have HBB := Lib.hid hbb
        have HBq := Lib.hid hbq
        clear hq1 hq2 hbb hbq
        go_upto_region 6 with fail
        go_cut [36] (fun bv W => bv = .bool bb ∧ Below W2.heap.size W2 W)
        case first =>
          have hbd := HBq.out.drew
          obtain ⟨-, -, b3, -, -⟩ := HX.out _ hbd
          obtain ⟨_, _, e, hcs⟩ := HTx2.out _ hbd
          cases e
          obtain ⟨gx, ox, rfl, -, hx⟩ := hcs j l HL2.out
          obtain ⟨S1, hS1⟩ : ∃ S : ByteArray, strV l = .string S := ⟨_, rfl⟩
          rw [hS1] at hx
          have HBd := Lib.hid hbd
          have p0 : (0 : Int) ≤ (j : Int) := by omega
          have p1 : (0 : Int) ≤ (q : Int) := by omega
          by_cases hqK : q < K
          · have hbt : bb = true := by rw [HBB.out]; simpa using hqK
            subst hbt
            obtain ⟨gy, oy, e, -, hy⟩ := hcs q l (HKx.out q HQ1.out hqK)
            cases e
            rw [hS1] at hy
            have p2 : (q : Int) < (L.length : Int) := by omega
            clear hcs hS1 hbd hqK HBB
            refine region_stillG (by kernel_rfl) (by kernel_rfl) ?_
            generalize wr.drew = wd at b3 hx hy HBd ⊢
            iterate 18 (refine stillG_step (fun K hK => ?_); go_simp; refine hK.out _ ?_; clear hK K)
            refine stillG_nil ?_
            clear b3 hx hy
            go_wp2_with fail
            go_meet
            case rel => exact ⟨rfl, HBd.out⟩
          · have hbt : bb = false := by rw [HBB.out]; simpa using hqK
            subst hbt
            have hqe : q = K := by have := HQ2.out; omega
            subst hqe
            by_cases hqL : q < L.length
            · obtain ⟨y, hy2⟩ : ∃ y, L[q]? = some y := ⟨L[q]'hqL, List.getElem?_eq_getElem hqL⟩
              have hne : ¬ y = l := fun e => HKn.out (by rw [hy2, e])
              obtain ⟨gy, oy, e, -, hy⟩ := hcs q y hy2
              cases e
              obtain ⟨Sy, hSy⟩ : ∃ S : ByteArray, strV y = .string S := ⟨_, rfl⟩
              rw [hSy] at hy
              have hqq : (Sy.toList == S1.toList) = false := by
                have e1 : (⟨y.toArray⟩ : ByteArray) = Sy := by injection hSy
                have e2 : (⟨l.toArray⟩ : ByteArray) = S1 := by injection hS1
                rw [← e1, ← e2, Pm.strV_eq]
                simpa using hne
              have p2 : (q : Int) < (L.length : Int) := by omega
              clear hcs hS1 hbd hqK HBB hSy hne hy2 hqL
              refine region_stillG (by kernel_rfl) (by kernel_rfl) ?_
              generalize wr.drew = wd at b3 hx hy HBd ⊢
              iterate 18 (refine stillG_step (fun K hK => ?_); go_simp; refine hK.out _ ?_; clear hK K)
              refine stillG_nil ?_
              clear b3 hx hy
              go_wp2_with fail
              go_meet
              case rel => exact ⟨rfl, HBd.out⟩
            · have hy : True := trivial
              have p2 : ¬ (q : Int) < (L.length : Int) := by omega
              clear hcs hS1 hbd hqK HBB hqL
              refine region_stillG (by kernel_rfl) (by kernel_rfl) ?_
              generalize wr.drew = wd at b3 hx hy HBd ⊢
              iterate 18 (refine stillG_step (fun K hK => ?_); go_simp; refine hK.out _ ?_; clear hK K)
              refine stillG_nil ?_
              clear b3 hx hy
              go_wp2_with fail
              go_meet
              case rel => exact ⟨rfl, HBd.out⟩
        case rest =>
          obtain ⟨rfl, hbc⟩ := hcut
          have HBc := Lib.hid hbc
          clear hbc
          cases bb with
          | true =>
            have hqK : q < K := by have := HBB.out; simpa using this.symm
            go_wp2_with fail
            refine ⟨⟨q + 1, by go_num, by have := HQ1.out; omega, by omega, HBc.out⟩, by simp [intOf]; omega⟩
          | false =>
            have hqK : q = K := by have := HBB.out; have h2 := HQ2.out; simp at this; omega
            subst hqK
            have hat := fun c => docS_at (c := c) (all := all) HL2.out HKx.out HKn.out hKj hKL
            have HAt := Lib.hid hat
            obtain ⟨b1, -, b3, b4, -⟩ := HX.out _ HBc.out
            obtain ⟨_, _, e, hcs⟩ := HTx2.out _ HBc.out
            cases e
            obtain ⟨gx, ox, rfl, -, hx⟩ := hcs j l HL2.out
            have hl64 := HR.out l (List.mem_of_getElem? HL2.out)
            obtain ⟨S1, hS1⟩ : ∃ S : ByteArray, strV l = .string S := ⟨_, rfl⟩
            rw [hS1] at hx
            have z1 := strV_size hS1
            have p0 : (0 : Int) ≤ (j : Int) := by omega
            clear hat hcs
            obtain rfl | rfl : N = 0 ∨ N = 1 := by omega
            · have a1 := add_fits (S := S0) (T := S1) (by omega) (by omega)
              have a2 : (9223372036854775807 < S0.size + S1.size + 1) = False := by simp; omega
              have hfin := strV_add (strV_add HS0.out hS1) strV_end
              have HFin := Lib.hid hfin
              clear hfin hS1 z0 z1 htl b4 hl64
              go_wp2_with fail
              refine ⟨⟨q, t ++ l ++ [10], by rw [HFin.out], rfl, hKL, ?_, HBc.out⟩, by simp [intOf]; omega⟩
              have h1 := HTd.out
              have h2 := HAt.out false
              rw [show decide ((0 : Nat) = 1) = false from rfl] at h1
              rw [show decide False = false from rfl, h1, h2]
              simp [groupS]
            · obtain ⟨df, hdf⟩ : ∃ df, df = q - j := ⟨_, rfl⟩
              obtain ⟨dn, hdn⟩ : ∃ dn, dn = Lib.decDigits df := ⟨_, rfl⟩
              have hdl := digits_len (m := df) (by omega)
              have hdig := fun (W : World) => digits_any df W (by omega)
              rw [← hdn] at hdl hdig
              obtain ⟨Sd, hSd⟩ : ∃ S : ByteArray, strV dn = .string S := ⟨_, rfl⟩
              have zd := strV_size hSd
              have hsub : (q : Int) - (j : Int) = (df : Int) := by omega
              have hwr : IntKind.i64.wrap (df : Int) = df := by rw [IntKind.wrap_i64]; omega
              have HDf := Lib.hid hdf
              have a1 := add_fits (S := S0) (T := Sd) (by omega) (by omega)
              have a2 : (9223372036854775807 < S0.size + Sd.size + 1) = False := by simp; omega
              have a3 : (9223372036854775807 < S0.size + Sd.size + 1 + S1.size) = False := by simp; omega
              have a4 : (9223372036854775807 < S0.size + Sd.size + 1 + S1.size + 1) = False := by simp; omega
              have hfin := strV_add (strV_add (strV_add (strV_add HS0.out hSd) (show strV [32] = .string { data := #[32] } from rfl)) hS1) strV_end
              have HFin := Lib.hid hfin
              rw [hSd] at hdig
              have HDig := Lib.hid hdig
              have HDn := Lib.hid hdn
              have HCell := Lib.hid (show ∀ W, Below wc.heap.size wc W → W.cell? ⟨w1.heap.size, 0, none⟩ = some (.slice (some ⟨gx, ox, none⟩) L.length lc) ∧ W.cell? ⟨gx, ox + j, none⟩ = some (.string S1) from fun W hb => ⟨Pm.Below.cell hb b3, Pm.Below.cell hb hx⟩)
              have HS1 := Lib.hid hS1
              obtain ⟨sure, hsu⟩ : ∃ sure, sure = (decide (q < L.length) || all) := ⟨_, rfl⟩
              have HSu := Lib.hid hsu
              clear hfin hS1 hSd z0 z1 zd htl hl64 hdl hdig hdn hdf
              have hround : sure = true → docS true all L = t ++ dn ++ [32] ++ l ++ [10] ++ docS true all (L.drop q) := fun h => by
                have h1 := HTd.out
                have h2 := HAt.out true
                rw [show decide (1 = 1) = true from rfl] at h1
                rw [h1, h2, ← HSu.out, h, HDn.out, HDf.out]
                simp [groupS]
              have hskip : sure = false → docS true all L = t ++ docS true all (L.drop q) := fun h => by
                have h1 := HTd.out
                have h2 := HAt.out true
                rw [show decide (1 = 1) = true from rfl] at h1
                rw [h1, h2, ← HSu.out, h]
                simp [groupS]
              have HRound := Lib.hid hround
              have HSkip := Lib.hid hskip
              have hbc := HBc.out
              have hw : Below wc.heap.size wc wc := Below.refl _ _
              clear hround hskip
              by_cases hqL : q < L.length
              · have hs : sure = true := by rw [HSu.out]; simp [hqL]
                have HS := Lib.hid hs
                have p2 : (q : Int) < (L.length : Int) := by omega
                clear hs hsu hqL b4
                go_upto_region 11 with fail
                have hw := hw.drew
                clear b1 b3 hx
                go_region_held3 (fun W => W.cell? ⟨w1.heap.size, 0, none⟩ = some (.slice (some ⟨gx, ox, none⟩) L.length lc) ∧ W.cell? ⟨gx, ox + j, none⟩ = some (.string S1))
                  (exact HCell.out _ hw)
                  (first | (go_at_call 37; refine (HDig.out _).mono ?_; rintro e w6 ⟨rfl, hb1⟩; have hw := hw.trans (hb1.mono hw.size); clear hb1))
                all_goals
                  go_wp2_with fail
                  refine ⟨?_, by simp [intOf]; omega⟩
                  iterate 64 (apply Exists.intro)
                  exact ⟨⟨q, _, by rw [HFin.out], rfl, hKL, HRound.out HS.out, HBc.out.trans (hw.mono HBc.out.size)⟩, rfl⟩
              · cases all with
                | true =>
                  have hs : sure = true := by rw [HSu.out]; simp
                  have HS := Lib.hid hs
                  have p2 : ¬ (q : Int) < (L.length : Int) := by omega
                  clear hs hsu hqL
                  go_upto_region 11 with fail
                  have hw := hw.drew
                  clear b1 b3 hx b4
                  go_region_held3 (fun W => W.cell? ⟨w1.heap.size, 0, none⟩ = some (.slice (some ⟨gx, ox, none⟩) L.length lc) ∧ W.cell? ⟨gx, ox + j, none⟩ = some (.string S1))
                    (exact HCell.out _ hw)
                    (first | (go_at_call 37; refine (HDig.out _).mono ?_; rintro e w6 ⟨rfl, hb1⟩; have hw := hw.trans (hb1.mono hw.size); clear hb1))
                  all_goals
                    go_wp2_with fail
                    refine ⟨?_, by simp [intOf]; omega⟩
                    iterate 64 (apply Exists.intro)
                    exact ⟨⟨q, _, by rw [HFin.out], rfl, hKL, HRound.out HS.out, HBc.out.trans (hw.mono HBc.out.size)⟩, rfl⟩
                | false =>
                  have hs : sure = false := by rw [HSu.out]; simp; omega
                  have HS := Lib.hid hs
                  have p2 : ¬ (q : Int) < (L.length : Int) := by omega
                  clear hs hsu hqL
                  go_wp2_with fail
                  refine ⟨⟨q, t, by rw [HS0.out], rfl, hKL, ?_, HBc.out⟩, by simp [intOf]; omega⟩
                  exact HSkip.out HS.out
    · have hout := fun b => out_any t b x1 x2 x3 wr
      rw [HS0.out] at hout
      have HOut := Lib.hid hout
      obtain rfl : j = L.length := by omega
      have q1 : ¬ (L.length : Int) < (L.length : Int) := by omega
      obtain ⟨b1, b2, b3, b4, hmid2⟩ := HX.out _ hbr
      have HBr := Lib.hid hbr
      have HTe := Lib.hid (show docS (decide (N = 1)) all L = t by rw [HTd.out, List.drop_length]; simp [docS])
      clear hout hlt hbr b1 b2
      cases all with
      | true =>
        have hT2 : T = ⟨t, true, 0, 0, 0⟩ := by
          rw [HT.out, HTe.out]
          simp
        have HT2 := Lib.hid hT2
        clear hT2
        go_wp2_with (first | (refine wpList_load_mid rfl 59 _ rfl w1.heap.size 2 rfl _ _ hmid2 Tryd.underlying59 rfl (by kernel_rfl) ?_))
        refine (HOut.out true).mono ?_
        rintro e w5 h5
        have h6 : OutEnd wr T e w5 := by rw [HT2.out]; exact h5
        obtain ⟨v, rfl, hs, hb⟩ := h6.lower (HB2.out _ HBr.out)
        have HS := Lib.hid hs
        have HBB := Lib.hid hb
        clear hs hb h5 h6
        go_wp2_with fail
        go_ret
        exact ⟨v, rfl, HS.out, HBB.out⟩
      | false =>
        have hT2 : T = ⟨t, false, x1, x2, x3⟩ := by
          rw [HT.out, HTe.out]
          simp
        have HT2 := Lib.hid hT2
        clear hT2
        go_wp2_with (first | (refine wpList_load_mid rfl 59 _ rfl w1.heap.size 2 rfl _ _ hmid2 Tryd.underlying59 rfl (by kernel_rfl) ?_))
        refine (HOut.out false).mono ?_
        rintro e w5 h5
        have h6 : OutEnd wr T e w5 := by rw [HT2.out]; exact h5
        obtain ⟨v, rfl, hs, hb⟩ := h6.lower (HB2.out _ HBr.out)
        have HS := Lib.hid hs
        have HBB := Lib.hid hb
        clear hs hb h5 h6
        go_wp2_with fail
        go_ret
        exact ⟨v, rfl, HS.out, HBB.out⟩

end Go.Proofs.YtmmhpjhmobhdiaaDoor

namespace Go.Proofs.YtmmhpjhmobhdiaaDoor
open Go.RowKit

/-- What is told, one behind the other. -/
def flatO (O : Outs) : List UInt8 := O.flatMap (·.2)
theorem flatO_append (O P : Outs) : flatO (O ++ P) = flatO O ++ flatO P := by simp [flatO]
theorem putOuts_flat : ∀ (O : Outs) (f : Nat → List UInt8), (∀ t ∈ O, t.1 = 0) → putOuts f O 0 = f 0 ++ flatO O ∧ ∀ j, j ≠ 0 → putOuts f O j = f j
  | [], f, _ => by simp [putOuts, flatO]
  | (q, x) :: O, f, h => by
    obtain rfl : q = 0 := h (q, x) (by simp)
    obtain ⟨h1, h2⟩ := putOuts_flat O (fun i => if i = 0 then f i ++ x else f i) (fun t ht => h t (List.mem_cons_of_mem _ ht))
    refine ⟨?_, fun j hj => ?_⟩
    · show putOuts _ O 0 = _
      rw [h1]
      simp [flatO]
    · have := h2 j hj
      rw [if_neg hj] at this
      exact this
theorem cntO_port (u : US) : ∀ t ∈ cntO u, t.1 = 0 := by
  intro t ht
  unfold cntO at ht
  split at ht
  · cases ht
  · rw [List.mem_singleton.1 ht]
theorem runT_port (c : Bool) : ∀ (L : Lines) (u : US), ∀ t ∈ (runT (uniqT c) u L).2, t.1 = 0
  | [], u, t, ht => by cases ht
  | l :: r, u, t, ht => by
    rw [runT] at ht
    rcases List.mem_append.1 ht with ht | ht
    · simp only [uniqT] at ht
      split at ht
      · cases ht
      · split at ht
        · exact cntO_port u t ht
        · rw [List.mem_singleton.1 ht]
    · exact runT_port c r _ t ht
theorem end_port (c : Bool) (u : US) : ∀ t ∈ (uniqEnd c u).2, t.1 = 0 := by
  intro t ht
  simp only [uniqEnd] at ht
  split at ht
  · exact cntO_port u t ht
  · cases ht
theorem cntO_flat {n : Nat} (x : List UInt8) (h : 1 ≤ n) : flatO (cntO ((n : Int), x)) = Lib.decDigits n ++ 32 :: x ++ [10] := by
  unfold cntO
  rw [if_neg (by simp; omega), Lib.itoa_nonneg]
  simp [flatO]
theorem uniq_cont (c all : Bool) : ∀ (L : Lines) (n : Nat) (x : List UInt8), 1 ≤ n → n + L.length ≤ 1000000 →
    flatO (runT (uniqT c) ((n : Int), x) L).2 ++ (if all = true then flatO (uniqEnd c (runT (uniqT c) ((n : Int), x) L).1).2 else []) = (if c = true then groupS true (decide (runLen x L < L.length) || all) x (n + runLen x L) else []) ++ docS c all (L.drop (runLen x L))
  | [], n, x, h, _ => by
    rw [runT, runLen]
    simp only [List.length_nil, Nat.lt_irrefl, decide_false, Bool.false_or, Nat.add_zero, List.drop_nil, docS, List.append_nil, uniqEnd]
    cases c <;> cases all <;> simp [flatO, groupS]
    have := cntO_flat x h
    simp only [flatO] at this
    rw [this]
    simp
  | l :: r, n, x, h, hl => by
    simp only [List.length_cons] at hl
    have hn : ((n : Int) ≠ 0) := by omega
    rw [runT]
    by_cases hlx : l = x
    · subst hlx
      have ha : alike ((n : Int), l) l = true := by simp [alike]; omega
      have hw : wrap64 ((n : Int) + 1) = ((n + 1 : Nat) : Int) := by rw [i64_id (by omega) (by omega)]; omega
      have ih := uniq_cont c all r (n + 1) l (by omega) (by omega)
      have ht : uniqT c ((n : Int), l) l = ((((n + 1 : Nat) : Int), l), [], false) := by simp only [uniqT, ha, if_true, hw]
      rw [ht]
      simp only [List.nil_append]
      rw [ih, runLen, if_pos rfl, List.drop_succ_cons, show n + 1 + runLen l r = n + (runLen l r + 1) by omega]
      simp
    · have ha : alike ((n : Int), x) l = false := by simp [alike, hlx]
      have ih := uniq_cont c all r 1 l (Nat.le_refl _) (by omega)
      have hrl : runLen x (l :: r) = 0 := by rw [runLen, if_neg hlx]
      rw [hrl]
      simp only [List.drop_zero, List.length_cons, Nat.zero_lt_succ, decide_true, Bool.true_or, Nat.add_zero]
      rw [docS]
      rw [show ((1 : Nat) : Int) = 1 from rfl] at ih
      have ht : uniqT c ((n : Int), x) l = ((1, l), if c = true then cntO ((n : Int), x) else [(0, l ++ [10])], false) := by simp [uniqT, ha]
      rw [ht]
      simp only [flatO_append, List.append_assoc]
      rw [ih]
      cases c
      · simp [flatO, groupS]
      · simp only [if_true]
        rw [cntO_flat x h, show 1 + runLen l r = runLen l r + 1 by omega]
        simp [groupS]
theorem uniq_doc (c all : Bool) (L : Lines) (hl : L.length ≤ 100000) :
    flatO (runT (uniqT c) (0, []) L).2 ++ (if all = true then flatO (uniqEnd c (runT (uniqT c) (0, []) L).1).2 else []) = docS c all L := by
  cases L with
  | nil => cases c <;> cases all <;> simp [runT, uniqEnd, cntO, flatO, docS]
  | cons x r =>
    simp only [List.length_cons] at hl
    have ih := uniq_cont c all r 1 x (Nat.le_refl _) (by omega)
    rw [show ((1 : Nat) : Int) = 1 from rfl] at ih
    have ht : uniqT c (0, []) x = ((1, x), if c = true then [] else [(0, x ++ [10])], false) := by simp [uniqT, alike, cntO]
    rw [runT, ht, docS]
    simp only [flatO_append, List.append_assoc]
    rw [ih]
    cases c
    · simp [flatO, groupS]
    · rw [show 1 + runLen x r = runLen x r + 1 by omega]
      simp [flatO]

theorem uniq_case (N : Nat) (A B : List UInt8) (i : Strm) (g : GotL) (h1 : g.outs = (uniqFin N A B i).outs) (h2 : g.need = (uniqFin N A B i).need) (h3 : g.err = (uniqFin N A B i).err) (hb : i.bytes.length ≤ 4000 := by omega) :
    g.outs 0 = (uniqWant N A B i).bytes ∧ g.outs 1 = [] ∧ g.outs 2 = [] ∧ g.outs 3 = [] ∧ SameCase g [i] (uniqWant N A B i) := by
  obtain ⟨f1, f2, f3⟩ := linesX_final (uniqT (uniqC N)) (uniqEnd (uniqC N)) uniqDrop (uniq_goes_on (uniqC N)) uniqHeld (0, []) i.bytes i.ended (i.code, i.stage, i.id)
  obtain ⟨-, hrl⟩ := readL_lines i.bytes i.ended (i.code, i.stage, i.id)
  have hport : ∀ t ∈ (uniqAll N i).2.1, t.1 = 0 := by
    intro t ht
    have ht : t ∈ (finalM (linesX (uniqT (uniqC N)) (uniqEnd (uniqC N)) uniqDrop uniqHeld) 0 ⟨true, false, [], (0, [])⟩ i.bytes i.ended).2.1 := ht
    rw [f1] at ht
    rcases List.mem_append.1 ht with ht | ht
    · exact runT_port _ _ _ t ht
    · split at ht
      · exact end_port _ _ t ht
      · cases ht
  obtain ⟨p0, p1⟩ := putOuts_flat (uniqAll N i).2.1 (fun _ => []) hport
  have hflat : flatO (uniqAll N i).2.1 = (uniqWant N A B i).bytes := by
    have h : (uniqAll N i).2.1 = (finalM (linesX (uniqT (uniqC N)) (uniqEnd (uniqC N)) uniqDrop uniqHeld) 0 ⟨true, false, [], (0, [])⟩ i.bytes i.ended).2.1 := rfl
    rw [h, f1, flatO_append]
    have hd := uniq_doc (uniqC N) (readL i.bytes i.ended (i.code, i.stage, i.id)).2.1 (readL i.bytes i.ended (i.code, i.stage, i.id)).1 (by omega)
    rw [show (uniqWant N A B i).bytes = docS (uniqC N) (readL i.bytes i.ended (i.code, i.stage, i.id)).2.1 (readL i.bytes i.ended (i.code, i.stage, i.id)).1 from rfl, ← hd]
    congr 1
    split <;> rfl
  have ho : (uniqFin N A B i).outs = putOuts (fun _ => []) (uniqAll N i).2.1 := rfl
  have hn : (uniqFin N A B i).need = needOf (finalM (linesX (uniqT (uniqC N)) (uniqEnd (uniqC N)) uniqDrop uniqHeld) 0 ⟨true, false, [], (0, [])⟩ i.bytes i.ended).1 := rfl
  have he : (uniqFin N A B i).err = (finalM (linesX (uniqT (uniqC N)) (uniqEnd (uniqC N)) uniqDrop uniqHeld) 0 ⟨true, false, [], (0, [])⟩ i.bytes i.ended).2.2 := rfl
  refine ⟨by rw [h1, ho, p0, hflat]; rfl, by rw [h1, ho]; exact p1 1 (by decide), by rw [h1, ho]; exact p1 2 (by decide), by rw [h1, ho]; exact p1 3 (by decide), ?_⟩
  unfold SameCase uniqWant
  simp only
  by_cases hc : (readL i.bytes i.ended (i.code, i.stage, i.id)).2.1 = true
  · obtain ⟨q1, q2⟩ := f2 hc
    exact .inl ⟨hc, by rw [h2, hn, q1], by rw [h3, he, q2]⟩
  · have hb : (readL i.bytes i.ended (i.code, i.stage, i.id)).2.1 = false := by simpa using hc
    rw [hb]
    rcases f3 hc with ⟨q1, q2, q3⟩ | ⟨q1, q2, q3⟩
    · refine .inr (.inl ⟨rfl, ?_, ?_, ?_⟩)
      · rw [h2, hn, q2]
      · rw [h3, he, q3]; decide
      · rw [h3, he, q3, q1]; rfl
    · refine .inr (.inr ⟨rfl, by rw [h3, he, q3], 0, i, ?_, rfl, ?_, ?_, ?_⟩)
      · rw [h2, hn, q2]; rfl
      · rw [q1]; rfl
      · rw [q1]; rfl
      · rw [q1]; rfl

end Go.Proofs.YtmmhpjhmobhdiaaDoor
