/- The document's denotation of uniq. -/
import Derived.Test.YtmmhpjhmobhdiaaDoorDenote
import Derived.Test.YtmmhpjhmobhdiaaDoorDigits
import Derived.Test.YtmmhpjhmobhdiaaDoorUniqPlain
import Derived.Outline
import Derived.Deep.RegionWith
import Derived.Deep.RegionHeld3
namespace Go.Proofs.YtmmhpjhmobhdiaaDoor
open Go.RowKit

/-! Lines, group by group. -/
def runLen (x : List UInt8) : Lines → Nat
  | [] => 0
  | l :: r => if l = x then runLen x r + 1 else 0
theorem runLen_le (x : List UInt8) : ∀ L : Lines, runLen x L ≤ L.length
  | [] => Nat.le_refl _
  | l :: r => by
    have := runLen_le x r
    rw [runLen]
    split <;> simp <;> omega
theorem runLen_at {x : List UInt8} : ∀ (L : Lines) (m : Nat), (∀ j, j < m → L[j]? = some x) → L[m]? ≠ some x → runLen x L = m
  | [], 0, _, _ => rfl
  | [], m + 1, h, _ => by have := h 0 (by omega); simp at this
  | l :: r, 0, _, h => by
    rw [runLen, if_neg (fun e => h (by simp [e]))]
  | l :: r, m + 1, h, hn => by
    have h0 := h 0 (by omega)
    simp only [List.getElem?_cons_zero, Option.some.injEq] at h0
    rw [runLen, if_pos h0, runLen_at r m (fun j hj => by have := h (j + 1) (by omega); simpa using this) (by simpa using hn)]
theorem runLen_all (x : List UInt8) : ∀ (L : Lines) (m : Nat), m < runLen x L → L[m]? = some x
  | [], m, h => by simp [runLen] at h
  | l :: r, m, h => by
    rw [runLen] at h
    split at h
    · cases m with
      | zero => simp [*]
      | succ m => simpa using runLen_all x r m (by omega)
    · omega
theorem runLen_stop (x : List UInt8) : ∀ L : Lines, L[runLen x L]? ≠ some x
  | [] => by simp [runLen]
  | l :: r => by
    rw [runLen]
    split
    · simpa using runLen_stop x r
    · simpa using by assumption
def groupS (c sure : Bool) (x : List UInt8) (m : Nat) : List UInt8 := if c = false then x ++ [10] else if sure = true then Lib.decDigits m ++ 32 :: x ++ [10] else []
def docS (c all : Bool) : Lines → List UInt8
  | [] => []
  | x :: r => groupS c (decide (runLen x r < r.length) || all) x (runLen x r + 1) ++ docS c all (r.drop (runLen x r))
termination_by L => L.length
decreasing_by simp; omega
theorem digits_len {m : Nat} (h : m ≤ 1000000) : (Lib.decDigits m).length ≤ 21 := by
  have := Lib.itoa_length_le (m : Int) (by omega) (by omega)
  rwa [Lib.itoa_nonneg] at this
theorem groupS_len {c sure : Bool} {x : List UInt8} {m : Nat} (hx : x.length ≤ 64) (hm : m ≤ 1000000) : (groupS c sure x m).length ≤ 87 := by
  have := digits_len hm
  unfold groupS
  repeat' split
  all_goals simp
  all_goals omega
theorem docS_len (c all : Bool) : ∀ (L : Lines), (∀ l ∈ L, l.length ≤ 64) → L.length ≤ 100000 → (docS c all L).length ≤ 87 * L.length
  | [], _, _ => by simp [docS]
  | x :: r, h, hl => by
    rw [docS, List.length_append]
    have h1 := runLen_le x r
    simp only [List.length_cons] at hl
    have h2 := groupS_len (c := c) (sure := decide (runLen x r < r.length) || all) (m := runLen x r + 1) (h x (by simp)) (by omega)
    have h3 := docS_len c all (r.drop (runLen x r)) (fun l hl => h l (List.mem_cons_of_mem _ (List.mem_of_mem_drop hl))) (by simp; omega)
    simp only [List.length_drop, List.length_cons] at h3 ⊢
    omega
termination_by L => L.length
decreasing_by simp; omega
/-- The group that begins at line j. -/
theorem docS_at {c all : Bool} {L : Lines} {j k : Nat} {x : List UInt8} (hj : L[j]? = some x) (hk : ∀ m, j ≤ m → m < k → L[m]? = some x) (hn : L[k]? ≠ some x) (hjk : j < k) (hkL : k ≤ L.length) :
    docS c all (L.drop j) = groupS c (decide (k < L.length) || all) x (k - j) ++ docS c all (L.drop k) := by
  obtain ⟨hjl, hx⟩ := List.getElem?_eq_some_iff.1 hj
  rw [List.drop_eq_getElem_cons hjl, hx, docS]
  have hr : runLen x (L.drop (j + 1)) = k - (j + 1) := by
    refine runLen_at _ _ (fun m hm => ?_) ?_
    · rw [List.getElem?_drop]
      exact hk _ (by omega) (by omega)
    · rw [List.getElem?_drop, show j + 1 + (k - (j + 1)) = k by omega]
      exact hn
  rw [hr, List.length_drop, List.drop_drop, show k - (j + 1) + 1 = k - j by omega, show j + 1 + (k - (j + 1)) = k by omega]
  congr 3
  simp only [decide_eq_decide]
  omega
def uniqWant (N : Nat) (_ _ : List UInt8) (i : Strm) : Strm :=
  let r := readL i.bytes i.ended (i.code, i.stage, i.id)
  ⟨docS (decide (N = 1)) r.2.1 r.1, r.2.1, if r.2.1 then 0 else r.2.2.1, if r.2.1 then 0 else r.2.2.2.1, if r.2.1 then 0 else r.2.2.2.2⟩

set_option maxRecDepth 100000 in
set_option maxHeartbeats 8000000 in
theorem uniqMeans_any {p : Nat → Prop} (k : Int) (N : Nat) (va vb : Value) (A B : List UInt8) (iv : Value) (i : Strm) (w : World) (hA : Pm.IsBytes w va A) (_ : Pm.IsBytes w vb B) (hI : IsStrms p w iv [i]) (hN : N ≤ 1) (hl : i.bytes.length ≤ 4000) :
    Calls Tryd.prog 19 #[Pm.parV k N va vb, iv] w (OutEnd w (uniqWant N A B i)) := by
  have hb0 : Below w.heap.size w (w.alloc (.cells #[.int .i64 k, .int .i64 N, va, vb] 24)) := (Below.refl _ _).alloc (Nat.le_refl _) _
  obtain ⟨_, _, e, hcs⟩ := hI.below hb0
  subst e
  obtain ⟨gb, off, bv, rfl, -, c0, c1, c2, c3, c4, hbytes⟩ := hcs 0 i rfl
  simp only [Nat.zero_mul, Nat.add_zero] at c0 c1 c2 c3 c4
  have hlines := lines_any bv i.bytes i.ended i.code i.stage i.id (w.alloc (.cells #[.int .i64 k, .int .i64 N, va, vb] 24)) hbytes (by omega)
  obtain ⟨hr64, hrl⟩ := readL_lines i.bytes i.ended (i.code, i.stage, i.id)
  obtain ⟨L, all, x1, x2, x3, hr⟩ : ∃ L all x1 x2 x3, readL i.bytes i.ended (i.code, i.stage, i.id) = (L, all, x1, x2, x3) := ⟨_, _, _, _, _, rfl⟩
  have hwant : uniqWant N A B i = ⟨docS (decide (N = 1)) all L, all, if all then 0 else x1, if all then 0 else x2, if all then 0 else x3⟩ := by
    unfold uniqWant
    rw [hr]
  obtain ⟨T, hT⟩ : ∃ T, T = uniqWant N A B i := ⟨_, rfl⟩
  rw [← hT]
  rw [hwant] at hT
  have HT := Lib.hid hT
  rw [hr] at hr64 hrl
  unfold ReadEnd at hlines
  rw [hr] at hlines
  simp only [readV] at hr64 hrl hlines
  have hdl := fun (M : Lines) (h : ∀ l ∈ M, l.length ≤ 64) (h2 : M.length ≤ 100000) => docS_len (decide (N = 1)) all M h h2
  have hmid : (w.alloc (.cells #[.int .i64 k, .int .i64 N, va, vb] 24)).rangeAt gb off [bv, .bool i.ended, .int .i64 i.code, .int .i64 i.stage, .int .i64 i.id] := fun j v hv => by
    rcases j with _ | _ | _ | _ | _ | j
    · cases hv; exact c0
    · cases hv; exact c1
    · cases hv; exact c2
    · cases hv; exact c3
    · cases hv; exact c4
    · simp at hv
  have HL := Lib.hid hlines
  have HB0 := Lib.hid hb0
  have HR := Lib.hid hr64
  obtain ⟨ab, cb, rfl, -, -⟩ := hbytes
  have HA := Lib.hid (show ∀ W, Below w.heap.size w W → Pm.IsBytes W va A from fun W hb => hA.below hb)
  clear hlines hb0 hwant hr hr64 hcs hI hT hA
  unfold Pm.parV
  simp only [List.length_cons, List.length_nil, Nat.zero_add]
  go_enter Tryd.func19, Tryd.ntmps19
  go_wp2_with (first | (refine wpList_load_mid rfl 61 (.tmp 10) rfl gb off rfl _ _ hmid Tryd.underlying61 rfl (by kernel_rfl) ?_))
  refine HL.out.mono ?_
  rintro e w1 ⟨lv, rfl, hown, hb1⟩
  obtain ⟨la, lc, rfl⟩ := Pm.owns_slice hown
  have hTx := isTexts_of_owns hown
  have hp1 : w1.cell? ⟨w.heap.size, 1, none⟩ = some (.int .i64 N) := Pm.Below.cell hb1 (by simp)
  have hp2 : w1.cell? ⟨w.heap.size, 2, none⟩ = some va := Pm.Below.cell hb1 (by simp)
  have hp0 : w1.cell? ⟨w.heap.size, 0, none⟩ = some (.int .i64 k) := Pm.Below.cell hb1 (by simp)
  have hp3 : w1.cell? ⟨w.heap.size, 3, none⟩ = some vb := Pm.Below.cell hb1 (by simp)
  have hbw : Below w.heap.size w w1 := HB0.out.trans (hb1.mono HB0.out.size)
  have hsz1 := hbw.size
  have HTx := Lib.hid hTx
  have HP1 := Lib.hid hp1
  have HP2 := Lib.hid hp2
  have HP0 := Lib.hid hp0
  have HP3 := Lib.hid hp3
  have HBW := Lib.hid hbw
  have HRow := Lib.hid (heap_alloc_last w1 (.cells #[.slice la L.length lc, .bool all, .int .i64 x1, .int .i64 x2, .int .i64 x3] 96))
  have HAl := Lib.hid ((Below.refl w1.heap.size w1).alloc (Nat.le_refl _) (.cells #[.slice la L.length lc, .bool all, .int .i64 x1, .int .i64 x2, .int .i64 x3] 96))
  clear hown hTx hp1 hp2 hp0 hp3 hbw hb1 hmid c0 c1 c2 c3 c4
  go_wp2_with fail
  have hrow := HRow.out
  have hal := HAl.out
  change Code.wp _ _ _ _ (w1.alloc (.cells #[.slice la L.length lc, .bool all, .int .i64 x1, .int .i64 x2, .int .i64 x3] 96))
  generalize w1.alloc (.cells #[.slice la L.length lc, .bool all, .int .i64 x1, .int .i64 x2, .int .i64 x3] 96) = W2 at hrow hal ⊢
  have cN := Pm.Below.cell hal HP1.out
  have cL : W2.cell? ⟨w1.heap.size, 0, none⟩ = some (.slice la L.length lc) := by rw [cell_of_row _ _ _ _ _ _ hrow]; rfl
  have cA : W2.cell? ⟨w1.heap.size, 1, none⟩ = some (.bool all) := by rw [cell_of_row _ _ _ _ _ _ hrow]; rfl
  have hmid2 : W2.rangeAt w1.heap.size 2 [Value.int .i64 x1, .int .i64 x2, .int .i64 x3] := fun j v hv => by
    rw [cell_of_row _ _ _ _ _ _ hrow]
    rcases j with _ | _ | _ | j
    · exact hv
    · exact hv
    · exact hv
    · simp at hv
  have cV := Pm.Below.cell hal HP2.out
  have cK := Pm.Below.cell hal HP0.out
  have cB := Pm.Below.cell hal HP3.out
  have HY := Lib.hid (show ∀ W, Below W2.heap.size W2 W → W.cell? ⟨w.heap.size, 0, none⟩ = some (.int .i64 k) ∧ W.cell? ⟨w.heap.size, 3, none⟩ = some vb from fun W hb => ⟨Pm.Below.cell hb cK, Pm.Below.cell hb cB⟩)
  have hlt2 := (Array.getElem?_eq_some_iff.1 hrow).1
  have HX := Lib.hid (show ∀ W, Below W2.heap.size W2 W → W.cell? ⟨w.heap.size, 1, none⟩ = some (.int .i64 N) ∧ W.cell? ⟨w.heap.size, 2, none⟩ = some va ∧ W.cell? ⟨w1.heap.size, 0, none⟩ = some (.slice la L.length lc) ∧ W.cell? ⟨w1.heap.size, 1, none⟩ = some (.bool all) ∧ W.rangeAt w1.heap.size 2 [Value.int .i64 x1, Value.int .i64 x2, Value.int .i64 x3] from fun W hb => by
    have hr := (hb.block w1.heap.size hlt2).trans hrow
    refine ⟨Pm.Below.cell hb cN, Pm.Below.cell hb cV, Pm.Below.cell hb cL, Pm.Below.cell hb cA, fun j v hv => ?_⟩
    rw [cell_of_row _ _ _ _ _ _ hr]
    rcases j with _ | _ | _ | j
    · exact hv
    · exact hv
    · exact hv
    · simp at hv)
  have hb2 := HBW.out.trans (hal.mono HBW.out.size)
  have HTx2 := Lib.hid (show ∀ W, Below W2.heap.size W2 W → IsTexts ((w.alloc (.cells #[.int .i64 k, .int .i64 N, va, vb] 24)).heap.size ≤ ·) W (.slice la L.length lc) L from fun W hb => (HTx.out.below hal).below hb)
  have HB2 := Lib.hid (show ∀ W, Below W2.heap.size W2 W → Below w.heap.size w W from fun W hb => hb2.trans (hb.mono hb2.size))
  clear hrow hal HRow HAl hlt2 cN cL cA cV hmid2 hb2 HTx HBW HP1 HP2 HP0 HP3 cK cB
  obtain ⟨n, hn⟩ : ∃ n, n = L.length := ⟨_, rfl⟩
  have HDL := Lib.hid hdl
  clear hdl
  have hst : strV [] = .string { data := #[] } := rfl
  rw [← hst]
  clear hst
  go_loopw [6, 7] (fun sv iv wr => ∃ (j : Nat) (t : List UInt8), sv = strV t ∧ iv = .int .i64 j ∧ j ≤ L.length ∧ docS (decide (N = 1)) all L = t ++ docS (decide (N = 1)) all (L.drop j) ∧ Below W2.heap.size W2 wr) (fun _ i _ => L.length - (intOf i).toNat)
  case atStart => exact ⟨0, [], rfl, rfl, Nat.zero_le _, rfl, Below.refl _ _⟩
  case round =>
    obtain ⟨j, t, rfl, rfl, hjL, htd, hbr⟩ := hrel
    have hlen := HDL.out L HR.out (by omega)
    have htl : t.length ≤ 87 * L.length := by rw [htd, List.length_append] at hlen; omega
    obtain ⟨S0, hS0⟩ : ∃ S : ByteArray, strV t = .string S := ⟨_, rfl⟩
    rw [hS0]
    have z0 := strV_size hS0
    have HS0 := Lib.hid hS0
    have HTd := Lib.hid htd
    clear hS0 htd hlen
    by_cases hlt : j < L.length
    · obtain ⟨l, hl2⟩ : ∃ l, L[j]? = some l := ⟨L[j]'hlt, List.getElem?_eq_getElem hlt⟩
      have HL2 := Lib.hid hl2
      have q1 : (j : Int) < (L.length : Int) := by omega
      obtain ⟨b1, b2, b3, b4, -⟩ := HX.out _ hbr
      have HBr := Lib.hid hbr
      clear hl2 hbr b1 b2 b4
      go_wp2_with fail
      obtain ⟨K, hKj, hKL, hKx, hKn⟩ : ∃ K, j < K ∧ K ≤ L.length ∧ (∀ m, j ≤ m → m < K → L[m]? = some l) ∧ L[K]? ≠ some l := by
        refine ⟨j + 1 + runLen l (L.drop (j + 1)), by omega, ?_, ?_, ?_⟩
        · have := runLen_le l (L.drop (j + 1)); simp at this; omega
        · intro m h1 h2
          by_cases hm : m = j
          · rw [hm]; exact HL2.out
          · have := runLen_all l (L.drop (j + 1)) (m - (j + 1)) (by omega)
            rw [List.getElem?_drop, show j + 1 + (m - (j + 1)) = m by omega] at this
            exact this
        · have := runLen_stop l (L.drop (j + 1))
          rw [List.getElem?_drop] at this
          exact this
      have HKx := Lib.hid hKx
      have HKn := Lib.hid hKn
      clear hKx hKn
      go_loopw [8] (fun kv wr => ∃ q : Nat, kv = .int .i64 q ∧ j ≤ q ∧ q ≤ K ∧ Below W2.heap.size W2 wr) (fun kv _ => K - (intOf kv).toNat)
      case atStart => exact ⟨j, rfl, Nat.le_refl _, by omega, HBr.out⟩
      case round =>
        obtain ⟨q, rfl, hq1, hq2, hbq⟩ := hrel
        have HQ1 := Lib.hid hq1
        have HQ2 := Lib.hid hq2
        obtain ⟨bb, hbb⟩ : ∃ bb, bb = decide (q < K) := ⟨_, rfl⟩
        have HBB := Lib.hid hbb
        have HBq := Lib.hid hbq
        clear hq1 hq2 hbb hbq
        go_upto_region 6 with fail
        go_cut [36] (fun bv W => bv = .bool bb ∧ Below W2.heap.size W2 W)
        case first =>
          have hbd := HBq.out.drew
          obtain ⟨-, -, b3, -, -⟩ := HX.out _ hbd
          obtain ⟨_, _, e, hcs⟩ := HTx2.out _ hbd
          cases e
          obtain ⟨gx, ox, rfl, -, hx⟩ := hcs j l HL2.out
          obtain ⟨S1, hS1⟩ : ∃ S : ByteArray, strV l = .string S := ⟨_, rfl⟩
          rw [hS1] at hx
          have HBd := Lib.hid hbd
          have p0 : (0 : Int) ≤ (j : Int) := by omega
          have p1 : (0 : Int) ≤ (q : Int) := by omega
          by_cases hqK : q < K
          · have hbt : bb = true := by rw [HBB.out]; simpa using hqK
            subst hbt
            obtain ⟨gy, oy, e, -, hy⟩ := hcs q l (HKx.out q HQ1.out hqK)
            cases e
            rw [hS1] at hy
            have p2 : (q : Int) < (L.length : Int) := by omega
            clear hcs hS1 hbd hqK HBB
            refine region_stillG (by kernel_rfl) (by kernel_rfl) ?_
            generalize wr.drew = wd at b3 hx hy HBd ⊢
            iterate 18 (refine stillG_step (fun K hK => ?_); go_simp; refine hK.out _ ?_; clear hK K)
            refine stillG_nil ?_
            clear b3 hx hy
            go_wp2_with fail
            go_meet
            case rel => exact ⟨rfl, HBd.out⟩
          · have hbt : bb = false := by rw [HBB.out]; simpa using hqK
            subst hbt
            have hqe : q = K := by have := HQ2.out; omega
            subst hqe
            by_cases hqL : q < L.length
            · obtain ⟨y, hy2⟩ : ∃ y, L[q]? = some y := ⟨L[q]'hqL, List.getElem?_eq_getElem hqL⟩
              have hne : ¬ y = l := fun e => HKn.out (by rw [hy2, e])
              obtain ⟨gy, oy, e, -, hy⟩ := hcs q y hy2
              cases e
              obtain ⟨Sy, hSy⟩ : ∃ S : ByteArray, strV y = .string S := ⟨_, rfl⟩
              rw [hSy] at hy
              have hqq : (Sy.toList == S1.toList) = false := by
                have e1 : (⟨y.toArray⟩ : ByteArray) = Sy := by injection hSy
                have e2 : (⟨l.toArray⟩ : ByteArray) = S1 := by injection hS1
                rw [← e1, ← e2, Pm.strV_eq]
                simpa using hne
              have p2 : (q : Int) < (L.length : Int) := by omega
              clear hcs hS1 hbd hqK HBB hSy hne hy2 hqL
              refine region_stillG (by kernel_rfl) (by kernel_rfl) ?_
              generalize wr.drew = wd at b3 hx hy HBd ⊢
              iterate 18 (refine stillG_step (fun K hK => ?_); go_simp; refine hK.out _ ?_; clear hK K)
              refine stillG_nil ?_
              clear b3 hx hy
              go_wp2_with fail
              go_meet
              case rel => exact ⟨rfl, HBd.out⟩
            · have hy : True := trivial
              have p2 : ¬ (q : Int) < (L.length : Int) := by omega
              clear hcs hS1 hbd hqK HBB hqL
              refine region_stillG (by kernel_rfl) (by kernel_rfl) ?_
              generalize wr.drew = wd at b3 hx hy HBd ⊢
              iterate 18 (refine stillG_step (fun K hK => ?_); go_simp; refine hK.out _ ?_; clear hK K)
              refine stillG_nil ?_
              clear b3 hx hy
              go_wp2_with fail
              go_meet
              case rel => exact ⟨rfl, HBd.out⟩
        case rest =>
          obtain ⟨rfl, hbc⟩ := hcut
          have HBc := Lib.hid hbc
          clear hbc
          cases bb with
          | true =>
            have hqK : q < K := by have := HBB.out; simpa using this.symm
            go_wp2_with fail
            refine ⟨⟨q + 1, by go_num, by have := HQ1.out; omega, by omega, HBc.out⟩, by simp [intOf]; omega⟩
          | false =>
            have hqK : q = K := by have := HBB.out; have h2 := HQ2.out; simp at this; omega
            subst hqK
            have hat := fun c => docS_at (c := c) (all := all) HL2.out HKx.out HKn.out hKj hKL
            have HAt := Lib.hid hat
            obtain ⟨b1, -, b3, b4, -⟩ := HX.out _ HBc.out
            obtain ⟨_, _, e, hcs⟩ := HTx2.out _ HBc.out
            cases e
            obtain ⟨gx, ox, rfl, -, hx⟩ := hcs j l HL2.out
            have hl64 := HR.out l (List.mem_of_getElem? HL2.out)
            obtain ⟨S1, hS1⟩ : ∃ S : ByteArray, strV l = .string S := ⟨_, rfl⟩
            rw [hS1] at hx
            have z1 := strV_size hS1
            have p0 : (0 : Int) ≤ (j : Int) := by omega
            clear hat hcs
            obtain rfl | rfl : N = 0 ∨ N = 1 := by omega
            · have a1 := add_fits (S := S0) (T := S1) (by omega) (by omega)
              have a2 : (9223372036854775807 < S0.size + S1.size + 1) = False := by simp; omega
              have hfin := strV_add (strV_add HS0.out hS1) strV_end
              have HFin := Lib.hid hfin
              clear hfin hS1 z0 z1 htl b4 hl64
              go_wp2_with fail
              refine ⟨⟨q, t ++ l ++ [10], by rw [HFin.out], rfl, hKL, ?_, HBc.out⟩, by simp [intOf]; omega⟩
              have h1 := HTd.out
              have h2 := HAt.out false
              rw [show decide ((0 : Nat) = 1) = false from rfl] at h1
              rw [show decide False = false from rfl, h1, h2]
              simp [groupS]
            · obtain ⟨df, hdf⟩ : ∃ df, df = q - j := ⟨_, rfl⟩
              obtain ⟨dn, hdn⟩ : ∃ dn, dn = Lib.decDigits df := ⟨_, rfl⟩
              have hdl := digits_len (m := df) (by omega)
              have hdig := fun (W : World) => digits_any df W (by omega)
              rw [← hdn] at hdl hdig
              obtain ⟨Sd, hSd⟩ : ∃ S : ByteArray, strV dn = .string S := ⟨_, rfl⟩
              have zd := strV_size hSd
              have hsub : (q : Int) - (j : Int) = (df : Int) := by omega
              have hwr : IntKind.i64.wrap (df : Int) = df := by rw [IntKind.wrap_i64]; omega
              have HDf := Lib.hid hdf
              have a1 := add_fits (S := S0) (T := Sd) (by omega) (by omega)
              have a2 : (9223372036854775807 < S0.size + Sd.size + 1) = False := by simp; omega
              have a3 : (9223372036854775807 < S0.size + Sd.size + 1 + S1.size) = False := by simp; omega
              have a4 : (9223372036854775807 < S0.size + Sd.size + 1 + S1.size + 1) = False := by simp; omega
              have hfin := strV_add (strV_add (strV_add (strV_add HS0.out hSd) (show strV [32] = .string { data := #[32] } from rfl)) hS1) strV_end
              have HFin := Lib.hid hfin
              rw [hSd] at hdig
              have HDig := Lib.hid hdig
              have HDn := Lib.hid hdn
              have HCell := Lib.hid (show ∀ W, Below wc.heap.size wc W → W.cell? ⟨w1.heap.size, 0, none⟩ = some (.slice (some ⟨gx, ox, none⟩) L.length lc) ∧ W.cell? ⟨gx, ox + j, none⟩ = some (.string S1) from fun W hb => ⟨Pm.Below.cell hb b3, Pm.Below.cell hb hx⟩)
              have HS1 := Lib.hid hS1
              obtain ⟨sure, hsu⟩ : ∃ sure, sure = (decide (q < L.length) || all) := ⟨_, rfl⟩
              have HSu := Lib.hid hsu
              clear hfin hS1 hSd z0 z1 zd htl hl64 hdl hdig hdn hdf
              have hround : sure = true → docS true all L = t ++ dn ++ [32] ++ l ++ [10] ++ docS true all (L.drop q) := fun h => by
                have h1 := HTd.out
                have h2 := HAt.out true
                rw [show decide (1 = 1) = true from rfl] at h1
                rw [h1, h2, ← HSu.out, h, HDn.out, HDf.out]
                simp [groupS]
              have hskip : sure = false → docS true all L = t ++ docS true all (L.drop q) := fun h => by
                have h1 := HTd.out
                have h2 := HAt.out true
                rw [show decide (1 = 1) = true from rfl] at h1
                rw [h1, h2, ← HSu.out, h]
                simp [groupS]
              have HRound := Lib.hid hround
              have HSkip := Lib.hid hskip
              have hbc := HBc.out
              have hw : Below wc.heap.size wc wc := Below.refl _ _
              clear hround hskip
              by_cases hqL : q < L.length
              · have hs : sure = true := by rw [HSu.out]; simp [hqL]
                have HS := Lib.hid hs
                have p2 : (q : Int) < (L.length : Int) := by omega
                clear hs hsu hqL b4
                go_upto_region 11 with fail
                have hw := hw.drew
                clear b1 b3 hx
                go_region_held3 (fun W => W.cell? ⟨w1.heap.size, 0, none⟩ = some (.slice (some ⟨gx, ox, none⟩) L.length lc) ∧ W.cell? ⟨gx, ox + j, none⟩ = some (.string S1))
                  (exact HCell.out _ hw)
                  (first | (go_at_call 37; refine (HDig.out _).mono ?_; rintro e w6 ⟨rfl, hb1⟩; have hw := hw.trans (hb1.mono hw.size); clear hb1))
                all_goals
                  go_wp2_with fail
                  refine ⟨?_, by simp [intOf]; omega⟩
                  iterate 64 (apply Exists.intro)
                  exact ⟨⟨q, _, by rw [HFin.out], rfl, hKL, HRound.out HS.out, HBc.out.trans (hw.mono HBc.out.size)⟩, rfl⟩
              · cases all with
                | true =>
                  have hs : sure = true := by rw [HSu.out]; simp
                  have HS := Lib.hid hs
                  have p2 : ¬ (q : Int) < (L.length : Int) := by omega
                  clear hs hsu hqL
                  go_upto_region 11 with fail
                  have hw := hw.drew
                  clear b1 b3 hx b4
                  go_region_held3 (fun W => W.cell? ⟨w1.heap.size, 0, none⟩ = some (.slice (some ⟨gx, ox, none⟩) L.length lc) ∧ W.cell? ⟨gx, ox + j, none⟩ = some (.string S1))
                    (exact HCell.out _ hw)
                    (first | (go_at_call 37; refine (HDig.out _).mono ?_; rintro e w6 ⟨rfl, hb1⟩; have hw := hw.trans (hb1.mono hw.size); clear hb1))
                  all_goals
                    go_wp2_with fail
                    refine ⟨?_, by simp [intOf]; omega⟩
                    iterate 64 (apply Exists.intro)
                    exact ⟨⟨q, _, by rw [HFin.out], rfl, hKL, HRound.out HS.out, HBc.out.trans (hw.mono HBc.out.size)⟩, rfl⟩
                | false =>
                  have hs : sure = false := by rw [HSu.out]; simp; omega
                  have HS := Lib.hid hs
                  have p2 : ¬ (q : Int) < (L.length : Int) := by omega
                  clear hs hsu hqL
                  go_wp2_with fail
                  refine ⟨⟨q, t, by rw [HS0.out], rfl, hKL, ?_, HBc.out⟩, by simp [intOf]; omega⟩
                  exact HSkip.out HS.out
    · have hout := fun b => out_any t b x1 x2 x3 wr
      rw [HS0.out] at hout
      have HOut := Lib.hid hout
      obtain rfl : j = L.length := by omega
      have q1 : ¬ (L.length : Int) < (L.length : Int) := by omega
      obtain ⟨b1, b2, b3, b4, hmid2⟩ := HX.out _ hbr
      have HBr := Lib.hid hbr
      have HTe := Lib.hid (show docS (decide (N = 1)) all L = t by rw [HTd.out, List.drop_length]; simp [docS])
      clear hout hlt hbr b1 b2
      cases all with
      | true =>
        have hT2 : T = ⟨t, true, 0, 0, 0⟩ := by
          rw [HT.out, HTe.out]
          simp
        have HT2 := Lib.hid hT2
        clear hT2
        go_wp2_with (first | (refine wpList_load_mid rfl 59 _ rfl w1.heap.size 2 rfl _ _ hmid2 Tryd.underlying59 rfl (by kernel_rfl) ?_))
        refine (HOut.out true).mono ?_
        rintro e w5 h5
        have h6 : OutEnd wr T e w5 := by rw [HT2.out]; exact h5
        obtain ⟨v, rfl, hs, hb⟩ := h6.lower (HB2.out _ HBr.out)
        have HS := Lib.hid hs
        have HBB := Lib.hid hb
        clear hs hb h5 h6
        go_wp2_with fail
        go_ret
        exact ⟨v, rfl, HS.out, HBB.out⟩
      | false =>
        have hT2 : T = ⟨t, false, x1, x2, x3⟩ := by
          rw [HT.out, HTe.out]
          simp
        have HT2 := Lib.hid hT2
        clear hT2
        go_wp2_with (first | (refine wpList_load_mid rfl 59 _ rfl w1.heap.size 2 rfl _ _ hmid2 Tryd.underlying59 rfl (by kernel_rfl) ?_))
        refine (HOut.out false).mono ?_
        rintro e w5 h5
        have h6 : OutEnd wr T e w5 := by rw [HT2.out]; exact h5
        obtain ⟨v, rfl, hs, hb⟩ := h6.lower (HB2.out _ HBr.out)
        have HS := Lib.hid hs
        have HBB := Lib.hid hb
        clear hs hb h5 h6
        go_wp2_with fail
        go_ret
        exact ⟨v, rfl, HS.out, HBB.out⟩

end Go.Proofs.YtmmhpjhmobhdiaaDoor
