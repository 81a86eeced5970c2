/- What Check does. -/
import Derived.Test.YtlflhjgfegflfaaDoorPA
import Derived.Deep.RegionHeld3
import Derived.Laws.OwnMore
import Derived.Maps.AppendAt
namespace Go.Proofs.YtlflhjgfegflfaaDoor.Pm
open Go.RowKit

theorem kinds_small : ∀ k : Nat, k ≤ 16 → (0 ≤ (kindOf k).holds ∧ (kindOf k).holds ≤ 2048) ∧ (0 ≤ (kindOf k).each ∧ (kindOf k).each ≤ 2048) := by decide

/-- Seven cells of the table, under names. -/
theorem Tab.row {w : World} (h : Tab w) {K : Nat} (hK : K ≤ 16) :
    w.cell? ⟨0, K * 7, none⟩ = some (.int .i64 (kindOf K).least) ∧ w.cell? ⟨0, K * 7 + 1, none⟩ = some (.int .i64 (kindOf K).most) ∧ w.cell? ⟨0, K * 7 + 2, none⟩ = some (.int .i64 (kindOf K).rule) ∧
    w.cell? ⟨0, K * 7 + 3, none⟩ = some (.int .i64 (kindOf K).ins) ∧ w.cell? ⟨0, K * 7 + 4, none⟩ = some (.int .i64 (kindOf K).outs) ∧ w.cell? ⟨0, K * 7 + 5, none⟩ = some (.int .i64 (kindOf K).holds) ∧ w.cell? ⟨0, K * 7 + 6, none⟩ = some (.int .i64 (kindOf K).each) :=
  by
  rw [Nat.mul_comm]
  exact ⟨h.at hK (j := 0) (by omega) rfl, h.at hK (j := 1) (by omega) rfl, h.at hK (j := 2) (by omega) rfl, h.at hK (j := 3) (by omega) rfl, h.at hK (j := 4) (by omega) rfl, h.at hK (j := 5) (by omega) rfl, h.at hK (j := 6) (by omega) rfl⟩

set_option maxRecDepth 100000 in
set_option maxHeartbeats 1000000 in
theorem check_row (K : Nat) (h1 : 1 ≤ K) (h16 : K ≤ 16) (n : Int) (va vb : Value) (A B : List UInt8) (w : World) (hT : Tab w) (hA : IsBytes w va A) (hB : IsBytes w vb B) :
    Calls Tryd.prog 40 #[parV K n va vb] w (Gives w (.int .i64 (if fits (kindOf K) n A B = false then 11 else if tooMuch (kindOf K) n = true then 12 else 0))) := by
  obtain ⟨c0, c1, c2, c3, c4, c5, c6⟩ := hT.row h16
  have hsm := kinds_small K h16
  have hp := hT.pos
  generalize kindOf K = r at *
  obtain ⟨E, hE⟩ : ∃ E : Int, E = if fits r n A B = false then 11 else if tooMuch r n = true then 12 else 0 := ⟨_, rfl⟩
  rw [← hE]
  have HE := Lib.hid hE
  have HA := Lib.hid (show ∀ W, Below w.heap.size w W → IsBytes W va A from fun W hb => hA.below hb)
  have HB := Lib.hid (show ∀ W, Below w.heap.size w W → IsBytes W vb B from fun W hb => hB.below hb)
  have g1 : ¬ (K : Int) < 1 := by omega
  have g2 : ¬ (16 : Int) < (K : Int) := by omega
  have g3 : (0 : Int) ≤ (K : Int) := by omega
  have g4 : (K : Int) < 17 := by omega
  clear hT hA hB hE
  unfold parV
  have hb0 : ∀ o1 o2, Below w.heap.size w ((w.alloc o1).alloc o2) := fun o1 o2 => ((Below.refl _ _).alloc (Nat.le_refl _) _).alloc (by simp) _
  have HB0 := Lib.hid hb0
  clear hb0
  by_cases hl : r.least ≤ n
  · by_cases hm : n ≤ r.most
    · have k1 : ¬ n < r.least := by omega
      have k2 : ¬ r.most < n := by omega
      go_enter Tryd.func40, Tryd.ntmps40
      go_wp2_with fail
      refine (bytesMayBe_any r.rule va vb A B _ (HA.out _ (HB0.out _ _)) (HB.out _ (HB0.out _ _))).mono ?_
      rintro e w' ⟨rfl, hb⟩
      have hF : fits r n A B = mayBe r.rule A B := by simp [fits, hl, hm]
      have HF := Lib.hid hF
      clear hF
      have hw : Below w.heap.size w w' := (HB0.out _ _).trans (hb.mono (HB0.out _ _).size)
      have q1 : w'.cell? ⟨w.heap.size, 1, none⟩ = some (.int .i64 n) := Below.cell hb (by simp)
      have q2 : w'.cell? ⟨w.heap.size + 1, 0, none⟩ = some (.int .i64 r.least) := Below.cell hb (by simp)
      have q3 : w'.cell? ⟨w.heap.size + 1, 1, none⟩ = some (.int .i64 r.most) := Below.cell hb (by simp)
      have q4 : w'.cell? ⟨w.heap.size + 1, 2, none⟩ = some (.int .i64 r.rule) := Below.cell hb (by simp)
      have q5 : w'.cell? ⟨w.heap.size + 1, 3, none⟩ = some (.int .i64 r.ins) := Below.cell hb (by simp)
      have q6 : w'.cell? ⟨w.heap.size + 1, 4, none⟩ = some (.int .i64 r.outs) := Below.cell hb (by simp)
      have q7 : w'.cell? ⟨w.heap.size + 1, 5, none⟩ = some (.int .i64 r.holds) := Below.cell hb (by simp)
      have q8 : w'.cell? ⟨w.heap.size + 1, 6, none⟩ = some (.int .i64 r.each) := Below.cell hb (by simp)
      have HW := Lib.hid hw
      clear hb hw HA HB HB0 c0 c1 c2 c3 c4 c5 c6
      obtain ⟨mb, hmb⟩ : ∃ mb, mb = mayBe r.rule A B := ⟨_, rfl⟩
      have HMB := Lib.hid hmb
      rw [← hmb]
      clear hmb
      cases mb with
      | false =>
        have hF : E = 11 := by rw [HE.out, if_pos (by rw [HF.out, ← HMB.out])]
        subst hF
        go_wp2_with fail
        go_ret
        exact ⟨rfl, HW.out⟩
      | true =>
        have hF : E = if tooMuch r n = true then 12 else 0 := by rw [HE.out, if_neg (by rw [HF.out, ← HMB.out]; decide)]
        clear HE
        have HE := Lib.hid hF
        clear hF
        go_wp2_with fail
        refine (holdsTooMuch_any r n w' hsm.1 hsm.2).mono ?_
        rintro e w'' ⟨rfl, hb⟩
        have hw : Below w.heap.size w w'' := HW.out.trans (hb.mono HW.out.size)
        have HW2 := Lib.hid hw
        clear hb hw
        obtain ⟨tm, htm⟩ : ∃ tm, tm = tooMuch r n := ⟨_, rfl⟩
        have HTM := Lib.hid htm
        rw [← htm]
        clear htm
        cases tm with
        | false =>
          have hF : E = 0 := by rw [HE.out, if_neg (by rw [← HTM.out]; decide)]
          subst hF
          go_wp2_with fail
          go_ret
          exact ⟨rfl, HW2.out⟩
        | true =>
          have hF : E = 12 := by rw [HE.out, if_pos HTM.out.symm]
          subst hF
          go_wp2_with fail
          go_ret
          exact ⟨rfl, HW2.out⟩
    · have k1 : ¬ n < r.least := by omega
      have k2 : r.most < n := by omega
      have hF : E = 11 := by rw [HE.out, if_pos]; simp [fits, hm]
      subst hF
      clear hl hm
      go_enter Tryd.func40, Tryd.ntmps40
      go_wp2_with fail
      go_ret
      exact ⟨rfl, HB0.out _ _⟩
  · have k1 : n < r.least := by omega
    have hF : E = 11 := by rw [HE.out, if_pos]; simp [fits, hl]
    subst hF
    clear hl
    go_enter Tryd.func40, Tryd.ntmps40
    go_wp2_with fail
    go_ret
    exact ⟨rfl, HB0.out _ _⟩

set_option maxRecDepth 100000 in
set_option maxHeartbeats 1000000 in
/-- THE CONTRACT. -/
theorem check_any (k n : Int) (va vb : Value) (A B : List UInt8) (w : World) (hT : Tab w) (hA : IsBytes w va A) (hB : IsBytes w vb B) :
    Calls Tryd.prog 40 #[parV k n va vb] w (Gives w (.int .i64 (checkE k n A B))) := by
  by_cases h1 : k < 1
  · rw [checkE, if_pos (.inl h1)]
    unfold parV
    clear hT hA hB
    go_enter Tryd.func40, Tryd.ntmps40
    go_wp2_with fail
    go_ret
    exact ⟨rfl, (Below.refl _ _).alloc (Nat.le_refl _) _⟩
  · by_cases h2 : 16 < k
    · rw [checkE, if_pos (.inr h2)]
      unfold parV
      clear hT hA hB
      go_enter Tryd.func40, Tryd.ntmps40
      go_wp2_with fail
      go_ret
      exact ⟨rfl, (Below.refl _ _).alloc (Nat.le_refl _) _⟩
    · obtain ⟨K, rfl⟩ : ∃ K : Nat, k = K := ⟨k.toNat, by omega⟩
      rw [checkE, if_neg (by omega), Int.toNat_natCast]
      exact check_row K (by omega) (by omega) n va vb A B w hT hA hB

end Go.Proofs.YtlflhjgfegflfaaDoor.Pm

namespace Go.Proofs.YtlflhjgfegflfaaDoor.Pm
open Go.RowKit

def sameB (k n : Int) (A B : List UInt8) (k' n' : Int) (A' B' : List UInt8) : Bool := (k == k') && ((n == n') && (decide (A = A') && decide (B = B')))
theorem sameB_self (k n : Int) (A B : List UInt8) : sameB k n A B k n A B = true := by simp [sameB]

set_option maxRecDepth 100000 in
set_option maxHeartbeats 1000000 in
theorem refSame_any (k n : Int) (va vb : Value) (A B : List UInt8) (k' n' : Int) (va' vb' : Value) (A' B' : List UInt8) (w : World) (hA : IsBytes w va A) (hB : IsBytes w vb B) (hA' : IsBytes w va' A') (hB' : IsBytes w vb' B') :
    Calls Tryd.prog 15 #[parV k n va vb, parV k' n' va' vb'] w (Gives w (.bool (sameB k n A B k' n' A' B'))) := by
  have hb0 : ∀ o1 o2, Below w.heap.size w ((w.alloc o1).alloc o2) := fun o1 o2 => ((Below.refl _ _).alloc (Nat.le_refl _) _).alloc (by simp) _
  have HB0 := Lib.hid hb0
  have k1 := fun o1 o2 => conv_any (hA.below (hb0 o1 o2))
  have k2 := fun o1 o2 => conv_any (hB.below (hb0 o1 o2))
  have k3 := fun o1 o2 => conv_any (hA'.below (hb0 o1 o2))
  have k4 := fun o1 o2 => conv_any (hB'.below (hb0 o1 o2))
  clear hb0 hA hB hA' hB'
  unfold parV sameB
  rw [← strV_eq A A', ← strV_eq B B']
  simp only [strV] at k1 k2 k3 k4
  generalize (⟨A.toArray⟩ : ByteArray) = SA at k1 ⊢
  generalize (⟨B.toArray⟩ : ByteArray) = SB at k2 ⊢
  generalize (⟨A'.toArray⟩ : ByteArray) = SA' at k3 ⊢
  generalize (⟨B'.toArray⟩ : ByteArray) = SB' at k4 ⊢
  rcases Bool.eq_false_or_eq_true (k == k') with h1 | h1
  · rw [h1, Bool.true_and]
    rcases Bool.eq_false_or_eq_true (n == n') with h2 | h2
    · rw [h2, Bool.true_and]
      rcases Bool.eq_false_or_eq_true (SA.toList == SA'.toList) with h3 | h3
      · rw [h3, Bool.true_and]
        go_enter Tryd.func15, Tryd.ntmps15
        go_wp2_with fail
        go_ret
        exact ⟨rfl, HB0.out _ _⟩
      · rw [h3, Bool.false_and]
        go_enter Tryd.func15, Tryd.ntmps15
        go_wp2_with fail
        go_ret
        exact ⟨rfl, HB0.out _ _⟩
    · rw [h2, Bool.false_and]
      go_enter Tryd.func15, Tryd.ntmps15
      go_wp2_with fail
      go_ret
      exact ⟨rfl, HB0.out _ _⟩
  · rw [h1, Bool.false_and]
    go_enter Tryd.func15, Tryd.ntmps15
    go_wp2_with fail
    go_ret
    exact ⟨rfl, HB0.out _ _⟩

end Go.Proofs.YtlflhjgfegflfaaDoor.Pm

namespace Go.Proofs.YtlflhjgfegflfaaDoor.Pm
open Go.RowKit

/-- The bytes as cells. -/
def bytesL (b : List UInt8) : List Value := b.map fun c => .int .u8 c.toNat
theorem length_bytesL (b : List UInt8) : (bytesL b).length = b.length := by simp [bytesL]
theorem one_bytesL (b : List UInt8) : ∀ v ∈ bytesL b, v.oneCell' = true := by
  intro v hv
  obtain ⟨c, _, rfl⟩ := List.mem_map.1 hv
  rfl
theorem bytesL_get {bs : List UInt8} {j : Nat} {v : Value} (h : (bytesL bs)[j]? = some v) : ∃ c, bs[j]? = some c ∧ v = .int .u8 c.toNat := by
  rw [bytesL, List.getElem?_map] at h
  cases hc : bs[j]? with
  | none => rw [hc] at h; cases h
  | some c => rw [hc] at h; exact ⟨c, rfl, (Option.some.inj h).symm⟩
theorem Tryd.info5 : (Tryd.prog.info? 5).map (fun i => (i.zero, i.size, i.bytes)) = some (some (.int .u8 0), 1, 1) := by kernel_rfl
theorem Tryd.size24 : (Tryd.prog.info? 24).map (·.size) = some 4 := by kernel_rfl
theorem info_parts {P : Program} {t : TypeId} {z : Value} {s b : Nat} (h : (P.info? t).map (fun i => (i.zero, i.size, i.bytes)) = some (some z, s, b)) : ∃ i, P.info? t = some i ∧ i.zero = some z ∧ i.size = s ∧ i.bytes = b := by
  cases hq : P.info? t with
  | none => rw [hq] at h; cases h
  | some i =>
    rw [hq] at h
    simp only [Option.map_some, Option.some.injEq, Prod.mk.injEq] at h
    exact ⟨i, rfl, h.1, h.2.1, h.2.2⟩
theorem isBytes_of_owns {base : Nat} {w : World} {v : Value} {b : List UInt8} (h : w.ownsRow base 5 1 v b.length (bytesL b)) : IsBytes w v b := by
  have h' := h
  rcases h.2 with ⟨rfl, h0⟩ | ⟨g, cap, cur, rfl, hb, _, hle, _⟩
  · refine ⟨none, 0, by rw [h0], by omega, fun j c hj => ?_⟩
    rw [List.eq_nil_of_length_eq_zero h0] at hj
    simp at hj
  · refine ⟨_, cap, rfl, by omega, fun j c hj => ⟨g, 0, rfl, ?_⟩⟩
    have := World.ownsRow.cells h' (g := g) rfl j (.int .u8 c.toNat) (by simp [bytesL, hj])
    rwa [Addr.add_mid] at this
theorem run_append_owned_none' {P : Program} {w : World} (base : Nat) (t ty e : TypeId) (i : TypeInfo) (size c : Nat) (ht : P.underlying t = some (.slice e)) (hi : P.info? e = some i)
    (v : Value) (n : Nat) (xs : List Value) (hown : w.ownsRow base e size v n xs) : (Builtin.append_ #[t, t] ty #[v, .slice none 0 c]).run P w = .ok v w := by
  rcases hown.2 with ⟨rfl, rfl⟩ | ⟨g, cap, cur, rfl, _, _, hnc, _⟩
  · simp [Builtin.append_, run_underlying ht, sizeOf, typeInfo, hi, Builtin.lenOf, Builtin.firstCells]
  · simp [Builtin.append_, run_underlying ht, sizeOf, typeInfo, hi, Builtin.lenOf, Builtin.firstCells, hnc, storeCells]

/-- Bytes behind a row of none, in memory of the call's own. -/
theorem wpList_append_fresh {ops : Array Oper} {rest : List Oper} {o : Oper} {a : Act} {w : World} {Q : Exit → Act → World → Prop} (hgd : o.guard = none) (s x : Operand) (ho : o.op = .call { callee := .builtin .append, args := #[s, x], argTypes := #[22, 22] })
    (base : Nat) (v vs : Value) (bs : List UInt8) (hs : a.eval s = v) (hown : w.ownsRow base 5 1 v 0 []) (hx : a.eval x = vs) (hsrc : IsBytes w vs bs)
    (hlen : bs.length ≤ 10000000) (hbase : base ≤ w.heap.size)
    (h : ∀ v' w', w'.ownsRow base 5 1 v' bs.length (bytesL bs) → w.grownBy w' v.ownBlock → wpList Tryd.prog ops Q rest (a.put o.dst v') w') : wpList Tryd.prog ops Q (o :: rest) a w := by
  obtain ⟨i0, hi, hz0, hz1, hz2⟩ := info_parts Tryd.info5
  obtain ⟨ad, cap, rfl, -, hc⟩ := hsrc
  cases ad with
  | none =>
    have hb : bs = [] := by
      cases bs with
      | nil => rfl
      | cons x r =>
        obtain ⟨_, _, e, _⟩ := hc 0 x rfl
        cases e
    subst hb
    refine wpList_plain hgd fun K hK => ?_
    have hrun := run_append_owned_none' (P := Tryd.prog) (w := w) base 22 o.type 5 i0 1 cap Tryd.underlying22 hi v 0 _ hown
    unfold Oper.wp
    simp [execOp, ho, resolve, invoke, builtin, hs, hx, hrun, Result.andThen]
    exact hK _ _ (h v w (by simpa [bytesL] using hown) ⟨rfl, rfl, rfl, Nat.le_refl _, fun _ _ _ => rfl⟩)
  | some ad =>
    refine wpList_append_own w hgd s x 22 ho base 5 i0 (.int .u8 0) 1 1 Tryd.underlying22 hi hz0 hz1 hz2 rfl (by decide) v 0 _ hs hown ad bs.length cap (bytesL bs) hx (by rw [length_bytesL]; omega)
      (fun j u hu => ?_) (one_bytesL bs) (by unfold maxLen; omega) (by omega) hbase ?_
    · obtain ⟨c, hj, rfl⟩ := bytesL_get hu
      obtain ⟨gb, off, e, h⟩ := hc j c hj
      cases e
      rw [Addr.add_mid]
      exact h
    · intro v' w' ho' hg' _
      exact h v' w' (by simpa using ho') hg'

/-- What Own answers. -/
def OwnEnd (w : World) (k n : Int) (A B : List UInt8) (e : Ending) (w' : World) : Prop := ∃ va vb, e = .returned (parV k n va vb) ∧ IsBytes w' va A ∧ IsBytes w' vb B ∧ Below w.heap.size w w'

/-- Two parameters lie in blocks w.heap.size and the next one; the first one's fields are these. -/
structure Owning (w : World) (k n : Int) (va vb : Value) (W : World) : Prop where
  box : W.heap[w.heap.size]? = some (.cells #[.int .i64 k, .int .i64 n, va, vb] 24 (0, 0))
  res : W.heap[w.heap.size + 1]? = some (.cells #[.int .i64 0, .int .i64 0, .slice none 0 0, .slice none 0 0] 24 (0, 0))
  below : Below w.heap.size w W
theorem Owning.size {w W : World} {k n : Int} {va vb : Value} (h : Owning w k n va vb W) : w.heap.size + 2 ≤ W.heap.size := by
  have := (Array.getElem?_eq_some_iff.1 h.res).1
  omega
theorem Owning.start (w : World) (k n : Int) (va vb : Value) :
    Owning w k n va vb ((w.alloc (.cells #[.int .i64 k, .int .i64 n, va, vb] 24)).alloc (.cells #[.int .i64 0, .int .i64 0, .slice none 0 0, .slice none 0 0] 24)) := by
  refine ⟨?_, ?_, ((Below.refl _ _).alloc (Nat.le_refl _) _).alloc (by simp) _⟩
  · rw [Below.heap_alloc _ _ _ (by simp)]; exact heap_alloc_last w _
  · have := heap_alloc_last (w.alloc (.cells #[.int .i64 k, .int .i64 n, va, vb] 24)) (.cells #[.int .i64 0, .int .i64 0, .slice none 0 0, .slice none 0 0] 24)
    simpa using this
theorem Owning.next {w W W' : World} {k n : Int} {va vb : Value} (h : Owning w k n va vb W) {g : Nat} (hg : W.grownBy W' (some g)) (hlt : w.heap.size + 2 ≤ g) : Owning w k n va vb W' := by
  have hs := h.size
  refine ⟨(hg.block _ (by omega) (fun e => by cases e; omega)).trans h.box, (hg.block _ (by omega) (fun e => by cases e; omega)).trans h.res, h.below.trans ⟨hg.os, hg.tape, hg.output, hg.size, fun j hj => hg.block j (by omega) (fun e => by cases e; omega)⟩⟩
theorem Owning.alloc {w W : World} {k n : Int} {va vb : Value} (h : Owning w k n va vb W) (o : Obj) : Owning w k n va vb (W.alloc o) := by
  have hs := h.size
  exact ⟨by rw [Below.heap_alloc _ _ _ (by omega)]; exact h.box, by rw [Below.heap_alloc _ _ _ (by omega)]; exact h.res, h.below.alloc (by omega) _⟩
theorem Owning.set2 {w W : World} {k n : Int} {va vb : Value} (h : Owning w k n va vb W) (v : Value) : Owning w k n v vb (W.setCell ⟨w.heap.size, 2, none⟩ v) :=
  ⟨by rw [setCell_row h.box]; rfl, by rw [Below.heap_setCell _ _ _ _ (by simp)]; exact h.res, Below.setNew h.below _ _ (Nat.le_refl _)⟩
theorem Owning.set3 {w W : World} {k n : Int} {va vb : Value} (h : Owning w k n va vb W) (v : Value) : Owning w k n va v (W.setCell ⟨w.heap.size, 3, none⟩ v) :=
  ⟨by rw [setCell_row h.box]; rfl, by rw [Below.heap_setCell _ _ _ _ (by simp)]; exact h.res, Below.setNew h.below _ _ (Nat.le_refl _)⟩
theorem Owning.cell {w W : World} {k n : Int} {va vb : Value} (h : Owning w k n va vb W) : W.cell? ⟨w.heap.size, 2, none⟩ = some va ∧ W.cell? ⟨w.heap.size, 3, none⟩ = some vb ∧ W.frozen? ⟨w.heap.size, 2, none⟩ = false ∧ W.frozen? ⟨w.heap.size, 3, none⟩ = false := by
  refine ⟨by rw [cell_of_row _ _ _ _ _ _ h.box]; rfl, by rw [cell_of_row _ _ _ _ _ _ h.box]; rfl, by simp [World.frozen?, h.box], by simp [World.frozen?, h.box]⟩
theorem owns_fresh (W : World) (base : Nat) (h : base ≤ W.heap.size) : (W.alloc (.cells #[] 5)).ownsRow base 5 1 (.slice (some ⟨W.heap.size, 0, none⟩) 0 0) 0 [] := World.ownsRow_lit W #[] 0 h (by unfold maxLen; omega) rfl
/-- A row stays where its block stays. -/
theorem owns_keep {W W' : World} {base : Nat} {e : TypeId} {size : Nat} {v : Value} {n : Nat} {xs : List Value} (h : W.ownsRow base e size v n xs) (hk : ∀ k, v.ownBlock = some k → W'.heap[k]? = W.heap[k]?) : W'.ownsRow base e size v n xs := by
  obtain ⟨h1, h2⟩ := h
  refine ⟨h1, ?_⟩
  rcases h2 with h2 | ⟨k, cap, cur, rfl, h4, h5, h6⟩
  · exact .inl h2
  · exact .inr ⟨k, cap, cur, rfl, h4, (hk k rfl).trans h5, h6⟩
theorem owns_set {w W : World} {g o : Nat} {v x : Value} {n : Nat} {xs : List Value} (h : W.ownsRow (w.heap.size + 2) 5 1 v n xs) (hg : g < w.heap.size + 2) : (W.setCell ⟨g, o, none⟩ x).ownsRow (w.heap.size + 2) 5 1 v n xs :=
  owns_keep h fun k hk => Below.heap_setCell _ _ _ _ (by have := (h.lt k hk).1; simp; omega)
theorem owns_grown {B : Nat} {W W' : World} {v : Value} {n : Nat} {xs : List Value} (h : W.ownsRow B 5 1 v n xs) (o : Obj) (hg : (W.alloc o).grownBy W' (some W.heap.size)) : W'.ownsRow B 5 1 v n xs :=
  owns_keep h fun k hk => by
    have hl := (h.lt k hk).2
    rw [hg.block k (by simp; omega) (fun e => by cases e; omega), Below.heap_alloc _ _ _ hl]
theorem Owning.cells {w W : World} {k n : Int} {va vb : Value} (h : Owning w k n va vb W) :
    W.cell? ⟨w.heap.size, 0, none⟩ = some (.int .i64 k) ∧ W.cell? ⟨w.heap.size, 1, none⟩ = some (.int .i64 n) ∧ W.cell? ⟨w.heap.size, 2, none⟩ = some va ∧ W.cell? ⟨w.heap.size, 3, none⟩ = some vb := by
  refine ⟨by rw [cell_of_row _ _ _ _ _ _ h.box]; rfl, by rw [cell_of_row _ _ _ _ _ _ h.box]; rfl, by rw [cell_of_row _ _ _ _ _ _ h.box]; rfl, by rw [cell_of_row _ _ _ _ _ _ h.box]; rfl⟩
theorem ret_par {fn : Func} {p : Tmp} (hr : fn.results = #[.cell p 24]) {a : Act} {w : World} {R : Ending → World → Prop} {B : Nat} {cs : Array Value}
    (hd : a.defers = []) (hp : a.tmps.getD p undef = .pointer (some ⟨B, 0, none⟩)) (hg : w.heap[B]? = some (.cells cs 24 (0, 0))) (hs : cs.size = 4)
    (h : R (.returned (.agg cs)) w) : bodyPost Tryd.prog fn R .ret a w := by
  refine bodyPost_ret (v := .agg cs) ?_ hd h
  have hp' : a.tmps[p]?.getD undef = .pointer (some ⟨B, 0, none⟩) := by simpa using hp
  have hl := run_loadVar_row (P := Tryd.prog) w B 24 24 cs (0, 0) _ hg Tryd.underlying24 rfl (by rw [Tryd.size24, hs])
  simp [results, hr, hp', asAddr, hl]
theorem owns_slice {w : World} {base : Nat} {e : TypeId} {size : Nat} {v : Value} {n : Nat} {xs : List Value} (h : w.ownsRow base e size v n xs) : ∃ a c, v = .slice a n c := by
  rcases h.2 with ⟨rfl, rfl⟩ | ⟨g, cap, cur, rfl, _⟩
  · exact ⟨_, _, rfl⟩
  · exact ⟨_, _, rfl⟩

end Go.Proofs.YtlflhjgfegflfaaDoor.Pm

namespace Go.Proofs.YtlflhjgfegflfaaDoor.Pm
open Go.RowKit

/-- The call answers the same parameters, in memory of its own. -/
def CopyEnd (w : World) (k n : Int) (A B : List UInt8) (e : Ending) (w' : World) : Prop := ∃ xa xb, e = .returned (parV k n xa xb) ∧ IsBytes w' xa A ∧ IsBytes w' xb B ∧ Below w.heap.size w w'

theorem take_now {P : Program} {md : Region.Mode} {ops : Array Oper} {Q : Exit → Act → World → Prop} {S : World → Prop} {i : Nat} {oi : Oper} {fuel : Nat} {listed : Array Bool} {a : Act} {w : World} (v : Value) (hi : ops[i]? = some oi)
    (hs : Region.noSelect ops = true) (hf : Region.free md ops listed i = true) (hr : (Region.ready md ops listed).contains i = true)
    (hw : Region.wanted oi (yielded ops a.tmps) = true) (hrun : ∀ W, S W → (execOp a.eval oi).run P W = .ok (.value v) W) (hS : S w)
    (h : wpAnyH P md ops (NoPanic Q) S fuel (listed.setIfInBounds i true) (a.put oi.dst v) w) : wpAnyH P md ops (NoPanic Q) S (fuel + 1) listed a w :=
  wpAnyH_take hi hs hf hr (fun _ _ _ h => h) (.inl ⟨hw, hrun⟩) hS h
theorem take_at {P : Program} {md : Region.Mode} {ops : Array Oper} {Q : Exit → Act → World → Prop} {S : World → Prop} {i : Nat} {oi : Oper} {fuel : Nat} {listed : Array Bool} {a : Act} {w : World} (d : Tmp) (v : Value) (hi : ops[i]? = some oi) (hd : oi.dst = some d)
    (hs : Region.noSelect ops = true) (hf : Region.free md ops listed i = true) (hr : (Region.ready md ops listed).contains i = true)
    (hw : Region.wanted oi (yielded ops a.tmps) = true) (hrun : ∀ W, S W → (execOp a.eval oi).run P W = .ok (.value v) W) (hS : S w)
    (h : wpAnyH P md ops (NoPanic Q) S fuel (listed.setIfInBounds i true) (a.put (some d) v) w) : wpAnyH P md ops (NoPanic Q) S (fuel + 1) listed a w := by
  rw [← hd] at h
  exact take_now v hi hs hf hr hw hrun hS h
/-- One operation alone may come up. -/
theorem one_now {P : Program} {md : Region.Mode} {ops : Array Oper} {Q : Exit → Act → World → Prop} {S : World → Prop} {i : Nat} {oi : Oper} {fuel : Nat} {listed : Array Bool} {a : Act} {w : World} (hi : ops[i]? = some oi)
    (hr : Region.ready md ops listed = [i]) (hw : Region.wanted oi (yielded ops a.tmps) = true)
    (h : oi.wp P a w (fun a' w' => S w' ∧ wpAnyH P md ops Q S fuel (listed.setIfInBounds i true) a' w') Q) : wpAnyH P md ops Q S (fuel + 1) listed a w := by
  refine wpAnyH_all hr (by simp) ?_
  intro j hj
  obtain rfl : j = i := by simpa using hj
  unfold wpOp
  simp only [hi, hw, if_true]
  exact .inl h
theorem wpOp_at {P : Program} {ops : Array Oper} {Q : Exit → Act → World → Prop} {i : Nat} {o : Oper} {K : Act → World → Prop} {a : Act} {w : World} (hi : ops[i]? = some o) (hgd : o.guard = none) (h : o.wp P a w K Q) : wpOp P ops Q i K a w := by
  unfold wpOp
  simp only [hi, Region.wanted, hgd, if_true]
  exact .inl h

/-- Bytes behind a row that is the call's own and holds nothing yet. -/
theorem wp_append_fresh {o : Oper} {a : Act} {w : World} {K : Act → World → Prop} {Q : Exit → Act → World → Prop} (s x : Operand) (ho : o.op = .call { callee := .builtin .append, args := #[s, x], argTypes := #[22, 22] })
    (base : Nat) (v vs : Value) (bs : List UInt8) (hs : a.eval s = v) (hown : w.ownsRow base 5 1 v 0 []) (hx : a.eval x = vs) (hsrc : IsBytes w vs bs) (hlen : bs.length ≤ 2000) (hbase : base ≤ w.heap.size) (d : Tmp) (hd : o.dst = some d)
    (h : ∀ v' w', w'.ownsRow base 5 1 v' bs.length (bytesL bs) → w.grownBy w' v.ownBlock → (v'.ownBlock = v.ownBlock ∨ v'.ownBlock = some w.heap.size) → K (a.put (some d) v') w') : o.wp Tryd.prog a w K Q := by
  rw [← hd] at h
  obtain ⟨i0, hi, hz0, hz1, hz2⟩ := info_parts Tryd.info5
  obtain ⟨ad, cap, rfl, -, hc⟩ := hsrc
  cases ad with
  | none =>
    have hb : bs = [] := by
      cases bs with
      | nil => rfl
      | cons x r =>
        obtain ⟨_, _, e, _⟩ := hc 0 x rfl
        cases e
    subst hb
    have hrun := run_append_owned_none' (P := Tryd.prog) (w := w) base 22 o.type 5 i0 1 cap Tryd.underlying22 hi v 0 _ hown
    unfold Oper.wp
    simp [execOp, ho, resolve, invoke, builtin, hs, hx, hrun, Result.andThen]
    exact h v w (by simpa [bytesL] using hown) ⟨rfl, rfl, rfl, Nat.le_refl _, fun _ _ _ => rfl⟩ (.inl rfl)
  | some ad =>
    obtain ⟨v', w', hr, h2, h3, -, h5⟩ := run_append_own_at (P := Tryd.prog) w base 22 o.type 5 i0 (.int .u8 0) 1 1 Tryd.underlying22 hi hz0 hz1 hz2 rfl (by decide) v 0 _ hown ad bs.length cap (bytesL bs) (by rw [length_bytesL]; omega)
      (fun j u hu => by
        obtain ⟨c, hj, rfl⟩ := bytesL_get hu
        obtain ⟨gb, off, e, h⟩ := hc j c hj
        cases e
        rw [Addr.add_mid]
        exact h) (one_bytesL bs) (by unfold maxLen; omega) (by omega) hbase
    unfold Oper.wp execOp
    simp only [ho, resolve, invoke, builtin, Sem.run_bind, Sem.run_pure, Result.andThen_ok, List.map_toArray, List.map_cons, List.map_nil, hs, hx, hr]
    exact h v' w' (by simpa using h2) h3 h5

theorem Owning.below' {w W W' : World} {k n : Int} {va vb : Value} (h : Owning w k n va vb W) (hb : Below W.heap.size W W') : Owning w k n va vb W' :=
  ⟨(hb.block _ (Array.getElem?_eq_some_iff.1 h.box).1).trans h.box, (hb.block _ (Array.getElem?_eq_some_iff.1 h.res).1).trans h.res, h.below.trans (hb.mono h.below.size)⟩
/-- The box stands, and a result's place. -/
structure Stand (w : World) (k n : Int) (va vb : Value) (W : World) : Prop where
  box : W.heap[w.heap.size]? = some (.cells #[.int .i64 k, .int .i64 n, va, vb] 24 (0, 0))
  below : Below w.heap.size w W
theorem Stand.cells {w W : World} {k n : Int} {va vb : Value} (h : Stand w k n va vb W) :
    W.cell? ⟨w.heap.size, 0, none⟩ = some (.int .i64 k) ∧ W.cell? ⟨w.heap.size, 1, none⟩ = some (.int .i64 n) ∧ W.cell? ⟨w.heap.size, 2, none⟩ = some va ∧ W.cell? ⟨w.heap.size, 3, none⟩ = some vb :=
  ⟨by rw [cell_of_row _ _ _ _ _ _ h.box]; rfl, by rw [cell_of_row _ _ _ _ _ _ h.box]; rfl, by rw [cell_of_row _ _ _ _ _ _ h.box]; rfl, by rw [cell_of_row _ _ _ _ _ _ h.box]; rfl⟩
theorem Owning.stand {w W : World} {k n : Int} {va vb : Value} (h : Owning w k n va vb W) : Stand w k n va vb W := ⟨h.box, h.below⟩
theorem Owning.put {w W : World} {k n : Int} {va vb : Value} (h : Owning w k n va vb W) (cs : Array Value) : Stand w k n va vb (W.setRow (w.heap.size + 1) cs) :=
  ⟨(setRow_other _ _ _ _ (by omega)).trans h.box, h.below.trans ⟨rfl, rfl, rfl, by simp, fun j hj => setRow_other _ _ _ _ (by omega)⟩⟩
theorem Owning.ends {w W : World} {k n : Int} {va vb xa xb : Value} {A B : List UInt8} (h : Owning w k n va vb W) {base : Nat} (hb : w.heap.size + 2 ≤ base) (hx : W.ownsRow base 5 1 xa A.length (bytesL A)) (hy : W.ownsRow base 5 1 xb B.length (bytesL B)) {fn : Func} {p : Tmp} {a : Act}
    (hr : fn.results = #[.cell p 24]) (hd : a.defers = []) (hp : a.tmps.getD p undef = .pointer (some ⟨w.heap.size + 1, 0, none⟩)) :
    bodyPost Tryd.prog fn (CopyEnd w k n A B) .ret a (W.setRow (w.heap.size + 1) #[.int .i64 k, .int .i64 n, xa, xb]) := by
  refine ret_par hr hd hp (setRow_heap _ _ _ _ _ _ h.res) rfl ⟨xa, xb, rfl, ?_, ?_, (h.put _).below⟩
  · exact isBytes_of_owns (owns_keep hx fun j hj => setRow_other _ _ _ _ (by have := (hx.lt j hj).1; omega))
  · exact isBytes_of_owns (owns_keep hy fun j hj => setRow_other _ _ _ _ (by have := (hy.lt j hj).1; omega))

set_option maxRecDepth 100000 in
set_option maxHeartbeats 8000000 in
theorem copy_any (k n : Int) (va vb : Value) (A B : List UInt8) (w : World) (hA : IsBytes w va A) (hB : IsBytes w vb B) (sA : A.length ≤ 2000) (sB : B.length ≤ 2000) :
    Calls Tryd.prog 13 #[parV k n va vb] w (CopyEnd w k n A B) := by
  have HA := Lib.hid (show ∀ W, Below w.heap.size w W → IsBytes W va A from fun W hb => hA.below hb)
  have HB := Lib.hid (show ∀ W, Below w.heap.size w W → IsBytes W vb B from fun W hb => hB.below hb)
  clear hA hB
  unfold parV
  have hO := Owning.start w k n va vb
  have HO := Lib.hid hO
  clear hO
  go_enter Tryd.func13, Tryd.ntmps13
  go_upto_region 1 with fail
  have hO := HO.out
  clear HO
  generalize ((w.alloc (.cells #[.int .i64 k, .int .i64 n, va, vb] 24)).alloc (.cells #[.int .i64 0, .int .i64 0, .slice none 0 0, .slice none 0 0] 24)) = W0 at hO ⊢
  refine wp_region_noPanic ?_
  refine wp_region_held (S := Stand w k n va vb) (by kernel_rfl) ?_
  change wpAnyH _ _ _ _ _ _ _ _ W0.drew
  have hO2 : Owning w k n va vb W0.drew := hO.below' (Below.refl _ _).drew
  clear hO
  generalize W0.drew = W2 at hO2 ⊢
  have hM2 := hO2.stand
  refine take_now (i := 0) (.pointer (some ⟨w.heap.size, 0, none⟩)) rfl (by kernel_rfl) (by kernel_rfl) (by kernel_rfl) rfl (fun _ _ => by go_simp) hM2 ?_
  refine take_now (i := 1) (.int .i64 k) rfl (by kernel_rfl) (by kernel_rfl) (by kernel_rfl) rfl (fun W h => by have hc := h.cells.1; go_simp) hM2 ?_
  refine take_now (i := 2) (.pointer (some ⟨w.heap.size, 1, none⟩)) rfl (by kernel_rfl) (by kernel_rfl) (by kernel_rfl) rfl (fun _ _ => by go_simp) hM2 ?_
  refine take_now (i := 3) (.int .i64 n) rfl (by kernel_rfl) (by kernel_rfl) (by kernel_rfl) rfl (fun W h => by have hc := h.cells.2.1; go_simp) hM2 ?_
  refine take_now (i := 5) (.pointer (some ⟨w.heap.size, 2, none⟩)) rfl (by kernel_rfl) (by kernel_rfl) (by kernel_rfl) rfl (fun _ _ => by go_simp) hM2 ?_
  refine take_now (i := 6) va rfl (by kernel_rfl) (by kernel_rfl) (by kernel_rfl) rfl (fun W h => by have hc := h.cells.2.2.1; go_simp) hM2 ?_
  refine take_now (i := 9) (.pointer (some ⟨w.heap.size, 3, none⟩)) rfl (by kernel_rfl) (by kernel_rfl) (by kernel_rfl) rfl (fun _ _ => by go_simp) hM2 ?_
  refine take_now (i := 10) vb rfl (by kernel_rfl) (by kernel_rfl) (by kernel_rfl) rfl (fun W h => by have hc := h.cells.2.2.2; go_simp) hM2 ?_
  have hsz := hO2.size
  obtain ⟨n2, hn2⟩ : ∃ n2, n2 = W2.heap.size := ⟨_, rfl⟩
  have keep : ∀ W, Below n2 W2 W → Owning w k n va vb W := fun W hb => hO2.below' (hn2 ▸ hb)
  refine wpAnyH_all (rs := [4, 8]) (by kernel_rfl) (by decide) ?_
  intro i hi
  rcases List.mem_cons.1 hi with rfl | hi
  · clear hi
    refine wpOp_at rfl rfl ?_
    go_wp2_with fail
    have hb4 := (Below.refl n2 W2).alloc (Nat.le_trans (Nat.le_of_eq hn2) (Below.refl n2 W2).size) (.cells #[] 5)
    have ho4 := World.ownsRow_made (base := n2) (e := 5) (size := 1) W2 #[] 0 (Nat.le_trans (Nat.le_of_eq hn2) (Below.refl n2 W2).size) (by decide) rfl
    refine ⟨(keep _ hb4).stand, ?_⟩
    refine wpAnyH_all (rs := [7, 8]) (by kernel_rfl) (by decide) ?_
    intro i hi
    rcases List.mem_cons.1 hi with rfl | hi
    · clear hi
      refine wpOp_at rfl rfl ?_
      refine wp_append_fresh (.tmp 7) (.tmp 9) rfl n2 (.slice (some ⟨W2.heap.size, 0, none⟩) 0 0) _ A rfl ho4 rfl (HA.out _ (keep _ hb4).below) sA (Nat.le_trans (Nat.le_of_eq hn2) hb4.size) 10 rfl ?_
      intro v7 W7 ho7 hg7 at7
      have hb7 := hb4.grown hg7 (Nat.le_trans (Nat.le_of_eq hn2) hb4.size) (fun j ej => (ho4.lt j ej).1)
      obtain ⟨a7, c7, rfl⟩ := owns_slice ho7
      have l7 := ho7.lt
      refine ⟨(keep _ hb7).stand, ?_⟩
      simp only [Act.put]
      refine one_now (i := 8) rfl (by kernel_rfl) rfl ?_
      go_wp2_with fail
      have hb8 := hb7.alloc (Nat.le_trans (Nat.le_of_eq hn2) hb7.size) (.cells #[] 5)
      have ho8 := World.ownsRow_made (base := n2) (e := 5) (size := 1) W7 #[] 0 (Nat.le_trans (Nat.le_of_eq hn2) hb7.size) (by decide) rfl
      replace ho7 := ho7.alloc (.cells #[] 5)
      refine ⟨(keep _ hb8).stand, ?_⟩
      refine one_now (i := 11) rfl (by kernel_rfl) rfl ?_
      refine wp_append_fresh (.tmp 11) (.tmp 13) rfl n2 (.slice (some ⟨W7.heap.size, 0, none⟩) 0 0) _ B rfl ho8 rfl (HB.out _ (keep _ hb8).below) sB (Nat.le_trans (Nat.le_of_eq hn2) hb8.size) 14 rfl ?_
      intro v11 W11 ho11 hg11 at11
      have hb11 := hb8.grown hg11 (Nat.le_trans (Nat.le_of_eq hn2) hb8.size) (fun j ej => (ho8.lt j ej).1)
      replace ho7 := ho7.kept hg11 (.inr (fun e => by have := (l7 _ e).2; simp at this))
      obtain ⟨a11, c11, rfl⟩ := owns_slice ho11
      refine ⟨(keep _ hb11).stand, ?_⟩
      simp only [Act.put]
      have hF := keep _ hb11
      refine take_at (i := 12) 15 (.agg #[.int .i64 k, .int .i64 n, .slice a7 A.length c7, .slice a11 B.length c11]) rfl rfl (by kernel_rfl) (by kernel_rfl) (by kernel_rfl) rfl (fun _ _ => by go_simp) hF.stand ?_
      refine one_now (i := 13) rfl (by kernel_rfl) rfl ?_
      refine wp_store_row 24 (.tmp 2) (.tmp 15) rfl (w.heap.size + 1) #[.int .i64 k, .int .i64 n, .slice a7 A.length c7, .slice a11 B.length c11] rfl rfl 24 _ hF.res (by rw [Tryd.size24]; rfl) rfl (by simp [Value.oneCell']) ?_
      refine ⟨hF.put _, ?_⟩
      simp only [Act.put]
      refine wpAnyH_done (by kernel_rfl) (NoPanic.normal ?_) _
      go_wp2_with fail
      exact hF.ends (by omega) ho7 ho11 rfl rfl rfl
    · obtain rfl : i = 8 := by simpa using hi
      clear hi
      refine wpOp_at rfl rfl ?_
      go_wp2_with fail
      have hb8 := hb4.alloc (Nat.le_trans (Nat.le_of_eq hn2) hb4.size) (.cells #[] 5)
      have ho8 := World.ownsRow_made (base := n2) (e := 5) (size := 1) (W2.alloc (.cells #[] 5)) #[] 0 (Nat.le_trans (Nat.le_of_eq hn2) hb4.size) (by decide) rfl
      simp only [World.size_alloc] at ho8
      replace ho4 := ho4.alloc (.cells #[] 5)
      refine ⟨(keep _ hb8).stand, ?_⟩
      refine one_now (i := 7) rfl (by kernel_rfl) rfl ?_
      refine wp_append_fresh (.tmp 7) (.tmp 9) rfl n2 (.slice (some ⟨W2.heap.size, 0, none⟩) 0 0) _ A rfl ho4 rfl (HA.out _ (keep _ hb8).below) sA (Nat.le_trans (Nat.le_of_eq hn2) hb8.size) 10 rfl ?_
      intro v7 W7 ho7 hg7 at7
      have hb7 := hb8.grown hg7 (Nat.le_trans (Nat.le_of_eq hn2) hb8.size) (fun j ej => (ho4.lt j ej).1)
      replace ho8 := ho8.kept hg7 (.inr (by simp [Value.ownBlock]))
      obtain ⟨a7, c7, rfl⟩ := owns_slice ho7
      have l7 := ho7.lt
      refine ⟨(keep _ hb7).stand, ?_⟩
      simp only [Act.put]
      refine one_now (i := 11) rfl (by kernel_rfl) rfl ?_
      refine wp_append_fresh (.tmp 11) (.tmp 13) rfl n2 (.slice (some ⟨W2.heap.size + 1, 0, none⟩) 0 0) _ B rfl ho8 rfl (HB.out _ (keep _ hb7).below) sB (Nat.le_trans (Nat.le_of_eq hn2) hb7.size) 14 rfl ?_
      intro v11 W11 ho11 hg11 at11
      have hb11 := hb7.grown hg11 (Nat.le_trans (Nat.le_of_eq hn2) hb7.size) (fun j ej => (ho8.lt j ej).1)
      replace ho7 := ho7.kept hg11 (.inr (fun e => by rcases at7 with h | h <;> rw [h] at e <;> simp [Value.ownBlock] at e <;> omega))
      obtain ⟨a11, c11, rfl⟩ := owns_slice ho11
      refine ⟨(keep _ hb11).stand, ?_⟩
      simp only [Act.put]
      have hF := keep _ hb11
      refine take_at (i := 12) 15 (.agg #[.int .i64 k, .int .i64 n, .slice a7 A.length c7, .slice a11 B.length c11]) rfl rfl (by kernel_rfl) (by kernel_rfl) (by kernel_rfl) rfl (fun _ _ => by go_simp) hF.stand ?_
      refine one_now (i := 13) rfl (by kernel_rfl) rfl ?_
      refine wp_store_row 24 (.tmp 2) (.tmp 15) rfl (w.heap.size + 1) #[.int .i64 k, .int .i64 n, .slice a7 A.length c7, .slice a11 B.length c11] rfl rfl 24 _ hF.res (by rw [Tryd.size24]; rfl) rfl (by simp [Value.oneCell']) ?_
      refine ⟨hF.put _, ?_⟩
      simp only [Act.put]
      refine wpAnyH_done (by kernel_rfl) (NoPanic.normal ?_) _
      go_wp2_with fail
      exact hF.ends (by omega) ho7 ho11 rfl rfl rfl
  · obtain rfl : i = 8 := by simpa using hi
    clear hi
    refine wpOp_at rfl rfl ?_
    go_wp2_with fail
    have hb8 := (Below.refl n2 W2).alloc (Nat.le_trans (Nat.le_of_eq hn2) (Below.refl n2 W2).size) (.cells #[] 5)
    have ho8 := World.ownsRow_made (base := n2) (e := 5) (size := 1) W2 #[] 0 (Nat.le_trans (Nat.le_of_eq hn2) (Below.refl n2 W2).size) (by decide) rfl
    refine ⟨(keep _ hb8).stand, ?_⟩
    refine one_now (i := 4) rfl (by kernel_rfl) rfl ?_
    go_wp2_with fail
    have hb4 := hb8.alloc (Nat.le_trans (Nat.le_of_eq hn2) hb8.size) (.cells #[] 5)
    have ho4 := World.ownsRow_made (base := n2) (e := 5) (size := 1) (W2.alloc (.cells #[] 5)) #[] 0 (Nat.le_trans (Nat.le_of_eq hn2) hb8.size) (by decide) rfl
    simp only [World.size_alloc] at ho4
    replace ho8 := ho8.alloc (.cells #[] 5)
    refine ⟨(keep _ hb4).stand, ?_⟩
    refine one_now (i := 7) rfl (by kernel_rfl) rfl ?_
    refine wp_append_fresh (.tmp 7) (.tmp 9) rfl n2 (.slice (some ⟨W2.heap.size + 1, 0, none⟩) 0 0) _ A rfl ho4 rfl (HA.out _ (keep _ hb4).below) sA (Nat.le_trans (Nat.le_of_eq hn2) hb4.size) 10 rfl ?_
    intro v7 W7 ho7 hg7 at7
    have hb7 := hb4.grown hg7 (Nat.le_trans (Nat.le_of_eq hn2) hb4.size) (fun j ej => (ho4.lt j ej).1)
    replace ho8 := ho8.kept hg7 (.inr (by simp [Value.ownBlock]))
    obtain ⟨a7, c7, rfl⟩ := owns_slice ho7
    have l7 := ho7.lt
    refine ⟨(keep _ hb7).stand, ?_⟩
    simp only [Act.put]
    refine one_now (i := 11) rfl (by kernel_rfl) rfl ?_
    refine wp_append_fresh (.tmp 11) (.tmp 13) rfl n2 (.slice (some ⟨W2.heap.size, 0, none⟩) 0 0) _ B rfl ho8 rfl (HB.out _ (keep _ hb7).below) sB (Nat.le_trans (Nat.le_of_eq hn2) hb7.size) 14 rfl ?_
    intro v11 W11 ho11 hg11 at11
    have hb11 := hb7.grown hg11 (Nat.le_trans (Nat.le_of_eq hn2) hb7.size) (fun j ej => (ho8.lt j ej).1)
    replace ho7 := ho7.kept hg11 (.inr (fun e => by rcases at7 with h | h <;> rw [h] at e <;> simp [Value.ownBlock] at e <;> omega))
    obtain ⟨a11, c11, rfl⟩ := owns_slice ho11
    refine ⟨(keep _ hb11).stand, ?_⟩
    simp only [Act.put]
    have hF := keep _ hb11
    refine take_at (i := 12) 15 (.agg #[.int .i64 k, .int .i64 n, .slice a7 A.length c7, .slice a11 B.length c11]) rfl rfl (by kernel_rfl) (by kernel_rfl) (by kernel_rfl) rfl (fun _ _ => by go_simp) hF.stand ?_
    refine one_now (i := 13) rfl (by kernel_rfl) rfl ?_
    refine wp_store_row 24 (.tmp 2) (.tmp 15) rfl (w.heap.size + 1) #[.int .i64 k, .int .i64 n, .slice a7 A.length c7, .slice a11 B.length c11] rfl rfl 24 _ hF.res (by rw [Tryd.size24]; rfl) rfl (by simp [Value.oneCell']) ?_
    refine ⟨hF.put _, ?_⟩
    simp only [Act.put]
    refine wpAnyH_done (by kernel_rfl) (NoPanic.normal ?_) _
    go_wp2_with fail
    exact hF.ends (by omega) ho7 ho11 rfl rfl rfl

end Go.Proofs.YtlflhjgfegflfaaDoor.Pm

namespace Go.Proofs.YtlflhjgfegflfaaDoor.Pm
open Go.RowKit

/-- What the document's holds answers. -/
def holdsE (K : Nat) (n : Int) : Int := if (K = 4 ∨ K = 14) ∧ 100 < n then 10000 else (kindOf K).holds + (kindOf K).each * n

set_option maxRecDepth 100000 in
set_option maxHeartbeats 1000000 in
theorem refHolds_1 (n : Int) (va vb : Value) (w : World) : Calls Tryd.prog 27 #[parV 1 n va vb] w (Gives w (.int .i64 0)) := by
  unfold parV
  go_enter Tryd.func27, Tryd.ntmps27
  go_wp2_with fail
  go_ret
  exact ⟨rfl, (Below.refl _ _).alloc (Nat.le_refl _) _⟩

set_option maxRecDepth 100000 in
set_option maxHeartbeats 1000000 in
theorem refHolds_2 (n : Int) (va vb : Value) (w : World) : Calls Tryd.prog 27 #[parV 2 n va vb] w (Gives w (.int .i64 0)) := by
  unfold parV
  go_enter Tryd.func27, Tryd.ntmps27
  go_wp2_with fail
  go_ret
  exact ⟨rfl, (Below.refl _ _).alloc (Nat.le_refl _) _⟩

set_option maxRecDepth 100000 in
set_option maxHeartbeats 1000000 in
theorem refHolds_3 (n : Int) (va vb : Value) (w : World) : Calls Tryd.prog 27 #[parV 3 n va vb] w (Gives w (.int .i64 64)) := by
  unfold parV
  go_enter Tryd.func27, Tryd.ntmps27
  go_wp2_with fail
  go_ret
  exact ⟨rfl, (Below.refl _ _).alloc (Nat.le_refl _) _⟩

set_option maxRecDepth 100000 in
set_option maxHeartbeats 1000000 in
theorem refHolds_5 (n : Int) (va vb : Value) (w : World) : Calls Tryd.prog 27 #[parV 5 n va vb] w (Gives w (.int .i64 64)) := by
  unfold parV
  go_enter Tryd.func27, Tryd.ntmps27
  go_wp2_with fail
  go_ret
  exact ⟨rfl, (Below.refl _ _).alloc (Nat.le_refl _) _⟩

set_option maxRecDepth 100000 in
set_option maxHeartbeats 1000000 in
theorem refHolds_6 (n : Int) (va vb : Value) (w : World) : Calls Tryd.prog 27 #[parV 6 n va vb] w (Gives w (.int .i64 0)) := by
  unfold parV
  go_enter Tryd.func27, Tryd.ntmps27
  go_wp2_with fail
  go_ret
  exact ⟨rfl, (Below.refl _ _).alloc (Nat.le_refl _) _⟩

set_option maxRecDepth 100000 in
set_option maxHeartbeats 1000000 in
theorem refHolds_7 (n : Int) (va vb : Value) (w : World) : Calls Tryd.prog 27 #[parV 7 n va vb] w (Gives w (.int .i64 64)) := by
  unfold parV
  go_enter Tryd.func27, Tryd.ntmps27
  go_wp2_with fail
  go_ret
  exact ⟨rfl, (Below.refl _ _).alloc (Nat.le_refl _) _⟩

set_option maxRecDepth 100000 in
set_option maxHeartbeats 1000000 in
theorem refHolds_8 (n : Int) (va vb : Value) (w : World) : Calls Tryd.prog 27 #[parV 8 n va vb] w (Gives w (.int .i64 128)) := by
  unfold parV
  go_enter Tryd.func27, Tryd.ntmps27
  go_wp2_with fail
  go_ret
  exact ⟨rfl, (Below.refl _ _).alloc (Nat.le_refl _) _⟩

set_option maxRecDepth 100000 in
set_option maxHeartbeats 1000000 in
theorem refHolds_9 (n : Int) (va vb : Value) (w : World) : Calls Tryd.prog 27 #[parV 9 n va vb] w (Gives w (.int .i64 0)) := by
  unfold parV
  go_enter Tryd.func27, Tryd.ntmps27
  go_wp2_with fail
  go_ret
  exact ⟨rfl, (Below.refl _ _).alloc (Nat.le_refl _) _⟩

set_option maxRecDepth 100000 in
set_option maxHeartbeats 1000000 in
theorem refHolds_10 (n : Int) (va vb : Value) (w : World) : Calls Tryd.prog 27 #[parV 10 n va vb] w (Gives w (.int .i64 64)) := by
  unfold parV
  go_enter Tryd.func27, Tryd.ntmps27
  go_wp2_with fail
  go_ret
  exact ⟨rfl, (Below.refl _ _).alloc (Nat.le_refl _) _⟩

set_option maxRecDepth 100000 in
set_option maxHeartbeats 1000000 in
theorem refHolds_11 (n : Int) (va vb : Value) (w : World) : Calls Tryd.prog 27 #[parV 11 n va vb] w (Gives w (.int .i64 320)) := by
  unfold parV
  go_enter Tryd.func27, Tryd.ntmps27
  go_wp2_with fail
  go_ret
  exact ⟨rfl, (Below.refl _ _).alloc (Nat.le_refl _) _⟩

set_option maxRecDepth 100000 in
set_option maxHeartbeats 1000000 in
theorem refHolds_12 (n : Int) (va vb : Value) (w : World) : Calls Tryd.prog 27 #[parV 12 n va vb] w (Gives w (.int .i64 0)) := by
  unfold parV
  go_enter Tryd.func27, Tryd.ntmps27
  go_wp2_with fail
  go_ret
  exact ⟨rfl, (Below.refl _ _).alloc (Nat.le_refl _) _⟩

set_option maxRecDepth 100000 in
set_option maxHeartbeats 1000000 in
theorem refHolds_15 (n : Int) (va vb : Value) (w : World) : Calls Tryd.prog 27 #[parV 15 n va vb] w (Gives w (.int .i64 0)) := by
  unfold parV
  go_enter Tryd.func27, Tryd.ntmps27
  go_wp2_with fail
  go_ret
  exact ⟨rfl, (Below.refl _ _).alloc (Nat.le_refl _) _⟩

set_option maxRecDepth 100000 in
set_option maxHeartbeats 1000000 in
theorem refHolds_16 (n : Int) (va vb : Value) (w : World) : Calls Tryd.prog 27 #[parV 16 n va vb] w (Gives w (.int .i64 64)) := by
  unfold parV
  go_enter Tryd.func27, Tryd.ntmps27
  go_wp2_with fail
  go_ret
  exact ⟨rfl, (Below.refl _ _).alloc (Nat.le_refl _) _⟩

set_option maxRecDepth 100000 in
set_option maxHeartbeats 1000000 in
theorem refHolds_4 (n : Int) (h1 : 0 ≤ n) (h2 : n ≤ 100) (va vb : Value) (w : World) : Calls Tryd.prog 27 #[parV 4 n va vb] w (Gives w (.int .i64 (64 + 64 * n))) := by
  unfold parV
  have h3 : ¬ 100 < n := by omega
  go_enter Tryd.func27, Tryd.ntmps27
  go_wp2_with fail
  go_ret
  exact ⟨rfl, (Below.refl _ _).alloc (Nat.le_refl _) _⟩

set_option maxRecDepth 100000 in
set_option maxHeartbeats 1000000 in
theorem refHolds_4_big (n : Int) (h1 : 100 < n) (va vb : Value) (w : World) : Calls Tryd.prog 27 #[parV 4 n va vb] w (Gives w (.int .i64 10000)) := by
  unfold parV
  go_enter Tryd.func27, Tryd.ntmps27
  go_wp2_with fail
  go_ret
  exact ⟨rfl, (Below.refl _ _).alloc (Nat.le_refl _) _⟩

set_option maxRecDepth 100000 in
set_option maxHeartbeats 1000000 in
theorem refHolds_13 (n : Int) (h1 : 1 ≤ n) (h2 : n ≤ 4) (va vb : Value) (w : World) : Calls Tryd.prog 27 #[parV 13 n va vb] w (Gives w (.int .i64 (96 * n))) := by
  unfold parV
  have h3 : ¬ 100 < n := by omega
  go_enter Tryd.func27, Tryd.ntmps27
  go_wp2_with fail
  go_ret
  exact ⟨rfl, (Below.refl _ _).alloc (Nat.le_refl _) _⟩

set_option maxRecDepth 100000 in
set_option maxHeartbeats 1000000 in
theorem refHolds_14 (n : Int) (h1 : 1 ≤ n) (h2 : n ≤ 100) (va vb : Value) (w : World) : Calls Tryd.prog 27 #[parV 14 n va vb] w (Gives w (.int .i64 (2 * (64 * n + 96)))) := by
  unfold parV
  have h3 : ¬ 100 < n := by omega
  go_enter Tryd.func27, Tryd.ntmps27
  go_wp2_with fail
  go_ret
  exact ⟨rfl, (Below.refl _ _).alloc (Nat.le_refl _) _⟩

set_option maxRecDepth 100000 in
set_option maxHeartbeats 1000000 in
theorem refHolds_14_big (n : Int) (h1 : 100 < n) (va vb : Value) (w : World) : Calls Tryd.prog 27 #[parV 14 n va vb] w (Gives w (.int .i64 10000)) := by
  unfold parV
  go_enter Tryd.func27, Tryd.ntmps27
  go_wp2_with fail
  go_ret
  exact ⟨rfl, (Below.refl _ _).alloc (Nat.le_refl _) _⟩

end Go.Proofs.YtlflhjgfegflfaaDoor.Pm
