/- A loop over slices.Chunk: what its owner owes for one round is what it gets for all of them. -/
import Derived.Test.YtpgigpajpcianaaGreatDoorZSpC
import Derived.Test.YtpgigpajpcianaaGreatDoorZSpD
import Derived.RangeFuncNested
import Derived.RangeFuncBound
import Derived.RangeFuncCalls
import Derived.RangeFuncLeaves
import Derived.RangeFuncWrites
import Derived.Shelf.Abstract
import Derived.Shelf.RegionOpen
import Derived.OwnWalkIn
import Derived.TacticsInMore
import Derived.LoopNIn
import Derived.LoopIn
import Derived.Maps.OwnIn
namespace Go.Proofs.YtpgigpajpcianaaGreatDoor
open Go.RowKit Go.Shelf
attribute [local go_sem] Oper.semAt_some

section
variable {P : Program} {ops : Array Oper} {w : World} {lp n : Nat}

end

def Stays (s : Nat) (I : World → Prop) : Prop := ∀ A B row, I A → A.grownBy B row → (∀ r, row = some r → r = s ∨ r = s + 1) → I B
theorem Stays.grow {s : Nat} {I : World → Prop} (h : Stays s I) {A B : World} (hA : I A) (hb : Below A.heap.size A B) : I B :=
  h A B none hA ⟨hb.os, hb.tape, hb.output, hb.size, fun k hk _ => hb.block k hk⟩ (fun _ e => by cases e)
theorem Stays.put {s : Nat} {I : World → Prop} (h : Stays s I) {A : World} (hA : I A) {l : Nat} (hs : l = s ∨ l = s + 1) (o' : Obj) : I (A.putObj l o') :=
  h A _ (some l) hA (grownBy_putObj' A l o') (fun r e => by cases e; exact hs)
theorem Stays.and {s : Nat} {I J : World → Prop} (h : Stays s I) (k : Stays s J) : Stays s (fun W => I W ∧ J W) :=
  fun A B row hs hg hr => ⟨h A B row hs.1 hg hr, k A B row hs.2 hg hr⟩
theorem stays_size (s n : Nat) : Stays s (fun W => n ≤ W.heap.size) := fun _ _ _ hs hg _ => Nat.le_trans hs hg.size
structure KeepTwo (s : Nat) (W W' : World) : Prop where
  size : W.heap.size ≤ W'.heap.size
  same : ∀ k, k = s ∨ k = s + 1 → W'.heap[k]? = W.heap[k]?
def roundEnd (s : Nat) (Inext : World → Prop) (Ix : Code → World → Prop) (W : World) : Exit → Act → World → Prop
  | .normal, _, W' => KeepTwo s W W' ∧ Inext W'
  | .ret, _, W' => KeepTwo s W W' ∧ Ix .ret W'
  | .exit id, _, W' => KeepTwo s W W' ∧ Ix (.exit id) W'
  | .goto t, _, W' => KeepTwo s W W' ∧ Ix (.goto t) W'
  | .panic _, _, _ => False
  | .outgrown, _, _ => False
theorem round_of_body {s n : Nat} {rec : Loop} {args : Array Value} {W : World} {assign body : Code} {a1 : Act} {I1 Inext : World → Prop} {Ix : Code → World → Prop}
    (hI1 : Stays s I1) (hIn : Stays s Inext) (hIx : ∀ c, Stays s (Ix c)) (hi : I1 W)
    (hr : rec.state = .ready) (ha : rec.assign = assign) (hb : rec.body = body) (hps : args.size = rec.params.size)
    (hl : W.heap[s + 1]? = some (.loop rec)) (hD : W.heap[s]? = some (.deferred (some [])))
    (hassign : ∀ (K : Act → World → Prop), K a1 W → assign.wpIn (Fence.wide.inRound (s + 1)) n Tryz.prog (Exit.then K (fun _ _ _ => False)) { tmps := (rec.params.zip args).foldl (fun t (p, v) => t.setIfInBounds p v) rec.tmps, defers := [] } W)
    (hbody : ∀ W1, I1 W1 → s + 2 ≤ W1.heap.size → body.wpIn (Fence.wide.inRound (s + 1)) n Tryz.prog (roundEnd s Inext Ix W1) a1 W1) :
    YieldAt Fence.wide n Tryz.prog (s + 1) args W fun e W' =>
      (e = .returned (.bool true) ∧ Inext W' ∧ W'.heap[s + 1]? = some (.loop { rec with state := .ready, pending := none }) ∧ W'.heap[s]? = some (.deferred (some []))) ∨
      (e = .returned (.bool false) ∧ ∃ c, Ix c W' ∧ W'.heap[s + 1]? = some (.loop { rec with state := .done, pending := some c }) ∧ W'.heap[s]? = some (.deferred (some []))) := by
  subst ha hb
  refine ⟨rec.fn, _, rec.assign, rec.body, run_yield hl hps, roundIn_of_wpIn trivial (hassign _ ⟨_, run_beginRound hl hr, ?_⟩)⟩
  obtain ⟨W1, hW1⟩ : ∃ W1, W1 = W.putObj (s + 1) (.loop { rec with state := .busy }) := ⟨_, rfl⟩
  have hl1 : W1.heap[s + 1]? = some (.loop { rec with state := .busy }) := by rw [hW1]; exact World.putObj_heap_same (Array.getElem?_eq_some_iff.1 hl).1
  have hD1 : W1.heap[s]? = some (.deferred (some [])) := by rw [hW1]; exact (World.putObj_heap_other (by omega)).trans hD
  have hi1 : I1 W1 := by rw [hW1]; exact hI1.put hi (.inr rfl) _
  have hz1 : s + 2 ≤ W1.heap.size := (Array.getElem?_eq_some_iff.1 hl1).1
  rw [← hW1]
  -- what the end of a round does to the record
  have done : ∀ (jump : Option Code) (W3 : World), KeepTwo s W1 W3 → ∃ W4, (Instr.endRound (s + 1) jump).run Tryz.prog W3 = .ok (.bool jump.isNone) W4 ∧
      (∀ I : World → Prop, Stays s I → I W3 → I W4) ∧ W4.heap[s + 1]? = some (.loop { rec with state := if jump.isNone then .ready else .done, pending := jump }) ∧ W4.heap[s]? = some (.deferred (some [])) := by
    intro jump W3 hk
    have hl3 := (hk.same (s + 1) (.inr rfl)).trans hl1
    have hD3 := (hk.same s (.inl rfl)).trans hD1
    exact ⟨_, run_endRound jump hl3, fun I hI hi3 => hI.put hi3 (.inr rfl) _, World.putObj_heap_same (Array.getElem?_eq_some_iff.1 hl3).1, (World.putObj_heap_other (by omega)).trans hD3⟩
  refine wpIn_mono (hbody W1 hi1 hz1) ?_
  rintro e a3 W3 hp
  cases e with
  | normal =>
    obtain ⟨W4, hrun, hst, h4, h5⟩ := done none W3 hp.1
    exact ⟨_, W4, hrun, .inl ⟨rfl, hst _ hIn hp.2, h4, h5⟩⟩
  | ret =>
    obtain ⟨W4, hrun, hst, h4, h5⟩ := done (some .ret) W3 hp.1
    exact ⟨_, W4, hrun, .inr ⟨rfl, .ret, hst _ (hIx _) hp.2, h4, h5⟩⟩
  | exit id =>
    obtain ⟨W4, hrun, hst, h4, h5⟩ := done (some (.exit id)) W3 hp.1
    exact ⟨_, W4, hrun, .inr ⟨rfl, .exit id, hst _ (hIx _) hp.2, h4, h5⟩⟩
  | goto t =>
    obtain ⟨W4, hrun, hst, h4, h5⟩ := done (some (.goto t)) W3 hp.1
    exact ⟨_, W4, hrun, .inr ⟨rfl, .goto t, hst _ (hIx _) hp.2, h4, h5⟩⟩
  | panic ch => exact hp.elim
  | outgrown => exact hp.elim
def chunkV (rb ro N k : Nat) : Value := .slice (some ⟨rb, ro + 3 * k, none⟩) (min 3 (N - 3 * k)) (min 3 (N - 3 * k))
set_option maxRecDepth 100000 in
set_option maxHeartbeats 4000000 in
theorem chunk_in (n l b1 b2 rb ro N cap : Nat) (hN : N ≤ 1000) (hcap : N ≤ cap) (J : Nat → World → Prop) (Jx : World → Prop)
    (hJ : ∀ k A B, J k A → Below A.heap.size A B → J k B) (hc1 : ∀ k W, J k W → W.cell? ⟨b1, 0, none⟩ = some (.slice (some ⟨rb, ro, none⟩) N cap)) (hc2 : ∀ k W, J k W → W.cell? ⟨b2, 0, none⟩ = some (.int .i64 3))
    (hY : ∀ k W, J k W → 3 * k < N → YieldAt Fence.wide (n - 1) Tryz.prog l #[chunkV rb ro N k] W fun e W' => (e = .returned (.bool true) ∧ J (k + 1) W') ∨ (e = .returned (.bool false) ∧ Jx W'))
    (W : World) (h0 : J 0 W) :
    CallsIn Fence.wide n Tryz.prog 149 #[.func (.yield l) #[] #[], .pointer (some ⟨b1, 0, none⟩), .pointer (some ⟨b2, 0, none⟩)] W fun e W' => (∃ v, e = .returned v) ∧ ((∃ k, N ≤ 3 * k ∧ J k W') ∨ Jx W') := by
  have HJ := Lib.hid hJ
  have HC1 := Lib.hid hc1
  have HC2 := Lib.hid hc2
  have HY := Lib.hid hY
  clear hJ hc1 hc2 hY
  refine callsIn_of_wp Tryz.func149 rfl trivial ?_ rfl
  simp only [Tryz.ntmps149, List.size_toArray, List.length_cons, List.length_nil, Nat.reduceAdd, Nat.reduceSub, Array.replicate_succ, Array.replicate_zero, List.push_toArray, List.append_toArray, List.nil_append, List.cons_append]
  gi_wp2
  gi_loopw [4] (fun iv wr => ∃ k A : Nat, iv = .int .i64 A ∧ RowKit.Hid (A = 3 * k) ∧ A ≤ N + 3 ∧ RowKit.Hid (J k wr)) (fun iv _ => N + 3 - (intOf iv).toNat)
  case atStart => exact ⟨0, 0, rfl, rfl, Nat.zero_le _, h0⟩
  case round =>
    clear h0
    obtain ⟨k, A, rfl, HA, hA2, HJk⟩ := hrel
    have c1 := HC1.out k _ HJk.out
    by_cases hlt : A < N
    · have c2 := HC2.out k _ HJk.out
      have c1d : wr.drew.cell? ⟨b1, 0, none⟩ = some (.slice (some ⟨rb, ro, none⟩) N cap) := c1
      have c2d : wr.drew.cell? ⟨b2, 0, none⟩ = some (.int .i64 3) := c2
      have v1 : (A : Int) < (N : Int) := by omega
      have v2 : (0 : Int) ≤ (A : Int) := by omega
      have v3 : (A : Int) ≤ (N : Int) := by omega
      have v4 : (N : Int) ≤ (cap : Int) := by omega
      have v5 : (A : Int) ≤ (cap : Int) := by omega
      have v6 : ¬ (cap = A) := by omega
      have v7 : ¬ (A = cap) := by omega
      have v8 : ¬ ((A : Int) = (cap : Int)) := by omega
      obtain ⟨m, hm⟩ : ∃ m : Nat, m = min 3 (N - A) := ⟨_, rfl⟩
      have hm1 : 1 ≤ m ∧ m ≤ 3 ∧ A + m ≤ N := by omega
      gi_wp2_with fail
      refine wpIn_wide.2 ?_
      refine wp_region_still_lit (by kernel_rfl) (by kernel_rfl) ?_
      change wpStill _ _ wr.drew _ _ _
      repeat still_step
      refine wpStill_nil ?_
      have hmi : (min 3 ((N - A : Nat) : Int)) = (m : Int) := by omega
      rw [hmi]
      have HJd := Lib.hid (HJ.out k wr wr.drew HJk.out ((Below.refl _ _).drew))
      have hY := HY.out k wr.drew HJd.out (by have := HA.out; omega)
      have hcv : chunkV rb ro N k = .slice (some ⟨rb, ro + A, none⟩) m m := by unfold chunkV; rw [← HA.out, ← hm]
      rw [hcv] at hY
      obtain ⟨fn, tmps, assign, body, hy, hRound⟩ := hY
      have c1' := HC1.out k _ HJd.out
      clear c1 c2 c1d c2d hm hmi hcv HJk
      change (Exit.then _ _) Exit.normal _ wr.drew
      generalize wr.drew = wd at HJd hy hRound c1' ⊢
      have w1 : IntKind.i64.wrap ((A : Int) + (m : Int)) = (A : Int) + (m : Int) := by rw [IntKind.wrap_i64]; omega
      have w2 : (A : Int) + (m : Int) ≤ (cap : Int) := by omega
      have w3 : (A : Int) ≤ (A : Int) + (m : Int) := by omega
      have w4 : (0 : Int) ≤ (A : Int) + (m : Int) := by omega
      gi_wp2_with fail
      refine ⟨(fun h => by cases h), hRound.mono ?_⟩
      rintro e w4 (⟨rfl, hJ4⟩ | ⟨rfl, hJx⟩)
      · have w5 : IntKind.i64.wrap ((A : Int) + 3) = (A : Int) + 3 := by rw [IntKind.wrap_i64]; omega
        have c24 := HC2.out (k + 1) _ hJ4
        gi_wp2_with fail
        go_roundw
        case rel => exact ⟨k + 1, A + 3, by go_num, (show A + 3 = 3 * (k + 1) by have := HA.out; omega), by omega, hJ4⟩
        case measure => simp [intOf]; omega
      · gi_wp2_with fail
        refine bodyPost_ret (results_none rfl _ _ _) rfl ?_
        exact ⟨⟨_, rfl⟩, .inr hJx⟩
    · have v1 : ¬ (A : Int) < (N : Int) := by omega
      gi_wp2_with fail
      go_end0
      exact ⟨⟨_, rfl⟩, .inl ⟨k, by have := HA.out; omega, HJk.out⟩⟩
theorem range_chunk {n b1 b2 rb ro N cap s : Nat} (hN : N ≤ 1000) (hcap : N ≤ cap) {g : Operand} {ps : Array Tmp} {assign body : Code} {Q : Exit → Act → World → Prop} {a : Act} {w : World} (hs : s = w.heap.size)
    (hg : a.eval g = .func (.func 149) #[] #[.pointer (some ⟨b1, 0, none⟩), .pointer (some ⟨b2, 0, none⟩)]) (hps : ps.size = 1)
    (I : Nat → World → Prop) (Ix : Code → World → Prop) (hI : ∀ k, Stays s (I k)) (hIx : ∀ x, Stays s (Ix x)) (h0 : I 0 w)
    (hc1 : ∀ k W, I k W → W.cell? ⟨b1, 0, none⟩ = some (.slice (some ⟨rb, ro, none⟩) N cap)) (hc2 : ∀ k W, I k W → W.cell? ⟨b2, 0, none⟩ = some (.int .i64 3))
    (a₁ : Nat → Act)
    (hassign : ∀ (k : Nat) (W : World) (K : Act → World → Prop), K (a₁ k) W →
      assign.wpIn (Fence.wide.inRound (s + 1)) (n - 1 - 1) Tryz.prog (Exit.then K (fun _ _ _ => False)) { tmps := (ps.zip #[chunkV rb ro N k]).foldl (fun t (p, v) => t.setIfInBounds p v) a.tmps, defers := [] } W)
    (hbody : ∀ (k : Nat) (W : World), I k W → 3 * k < N → s + 2 ≤ W.heap.size → body.wpIn (Fence.wide.inRound (s + 1)) (n - 1 - 1) Tryz.prog (roundEnd s (I (k + 1)) Ix W) (a₁ k) W)
    (hdone : ∀ (k : Nat) (W : World), N ≤ 3 * k → I k W → W.heap[s]? = some (.deferred (some [])) → Q .normal { a with defers := { target := .collected s, args := #[] } :: a.defers } W)
    (hstop : ∀ (x : Code) (W : World), Ix x W → W.heap[s]? = some (.deferred (some [])) → x.wpIn Fence.wide n Tryz.prog Q { a with defers := { target := .collected s, args := #[] } :: a.defers } W) :
    (Code.rangeFunc g ps assign body).wpIn Fence.wide n Tryz.prog Q a w := by
  refine wpIn_rangeFunc fun fn _ => ?_
  obtain ⟨rec, hrec⟩ : ∃ rec : Loop, rec = { state := .ready, pending := none, fn, tmps := a.tmps, params := ps, assign, body, defers := s } := ⟨_, rfl⟩
  obtain ⟨W1, hW1⟩ : ∃ W1, W1 = (w.alloc (.deferred (some []))).alloc (.loop rec) := ⟨_, rfl⟩
  have hb1 : Below w.heap.size w W1 := by rw [hW1]; exact ((Below.refl _ _).alloc (Nat.le_refl _) _).alloc (by simp) _
  have hl1 : W1.heap[s + 1]? = some (.loop rec) := by
    rw [hW1, hs]
    have := World.alloc_heap_new (w.alloc (.deferred (some []))) (.loop rec)
    rwa [World.size_alloc] at this
  have hD1 : W1.heap[s]? = some (.deferred (some [])) := by
    rw [hW1, hs, Below.heap_alloc _ _ _ (by simp)]
    exact World.alloc_heap_new w (.deferred (some []))
  have hsz : W1.heap.size = s + 2 := by rw [hW1, hs]; simp
  refine ⟨s + 1, [{ target := .collected s, args := #[] }], W1, { target := .fn (.func 149) #[.pointer (some ⟨b1, 0, none⟩), .pointer (some ⟨b2, 0, none⟩)], args := #[.func (.yield (s + 1)) #[] #[]] }, W1, 149,
    #[.func (.yield (s + 1)) #[] #[], .pointer (some ⟨b1, 0, none⟩), .pointer (some ⟨b2, 0, none⟩)], W1, ?_, ?_, fun _ _ => trivial, ?_, (fun h => by cases h), ?_⟩
  · rw [hW1, hrec, hs]; exact run_enterLoop_outer _ _ _ _ _
  · simp only [resolve, hg]; simp [go_sem]
  · simp [invoke, go_sem]
  have stay2 : ∀ k, Stays s (fun W => I k W ∧ s + 2 ≤ W.heap.size) := fun k => (hI k).and (stays_size s (s + 2))
  refine (chunk_in (n - 1) (s + 1) b1 b2 rb ro N cap hN hcap
    (fun k W => (I k W ∧ s + 2 ≤ W.heap.size) ∧ W.heap[s + 1]? = some (.loop rec) ∧ W.heap[s]? = some (.deferred (some [])))
    (fun W => ∃ x, Ix x W ∧ W.heap[s + 1]? = some (.loop { rec with state := .done, pending := some x }) ∧ W.heap[s]? = some (.deferred (some [])))
    (fun k A B hA hb => ⟨(stay2 k).grow hA.1 hb, (hb.block _ (by have := hA.1.2; omega)).trans hA.2.1, (hb.block _ (by have := hA.1.2; omega)).trans hA.2.2⟩)
    (fun k W hW => hc1 k W hW.1.1) (fun k W hW => hc2 k W hW.1.1) ?_ W1 ⟨⟨(hI 0).grow h0 hb1, by omega⟩, hl1, hD1⟩).mono ?_
  · rintro k W ⟨hi, hl, hD⟩ hk
    have := round_of_body (s := s) (n := n - 1 - 1) (rec := rec) (args := #[chunkV rb ro N k]) (W := W) (assign := assign) (body := body) (a1 := a₁ k)
      (I1 := fun W => I k W ∧ s + 2 ≤ W.heap.size) (Inext := fun W => I (k + 1) W ∧ s + 2 ≤ W.heap.size) (Ix := Ix)
      (stay2 k) (stay2 (k + 1)) hIx hi (by rw [hrec]) (by rw [hrec]) (by rw [hrec]) (by rw [hrec]; exact hps.symm) hl hD
      (fun K hK => by rw [hrec]; exact hassign k W K hK)
      (fun W1' h1 h2 => wpIn_mono (hbody k W1' h1.1 hk h2) (fun e a3 W3 hp => by
        cases e with
        | normal => exact ⟨hp.1, hp.2, Nat.le_trans h1.2 hp.1.size⟩
        | ret => exact hp
        | exit id => exact hp
        | goto t => exact hp
        | panic ch => exact hp
        | outgrown => exact hp))
    have hsame : ({ rec with state := .ready, pending := none } : Loop) = rec := by rw [hrec]
    refine YieldAt.mono this ?_
    rintro e W' (⟨rfl, h1, h2, h3⟩ | ⟨rfl, x, h1, h2, h3⟩)
    · rw [hsame] at h2
      exact .inl ⟨rfl, h1, h2, h3⟩
    · exact .inr ⟨rfl, x, h1, h2, h3⟩
  · rintro e W2 ⟨⟨v, rfl⟩, (⟨k, hk, hi, hl, hD⟩ | ⟨x, hi, hl, hD⟩)⟩
    · have hrun := run_endLoop (P := Tryz.prog) hl (by rw [hrec]; simp)
      rw [show rec.pending = none by rw [hrec]] at hrun
      exact ⟨none, _, hrun, hdone k _ hk ((hI _).put hi.1 (.inr rfl) _) ((World.putObj_heap_other (by omega)).trans hD)⟩
    · have hrun := run_endLoop (P := Tryz.prog) hl (by simp)
      exact ⟨some x, _, hrun, hstop x _ ((hIx _).put hi (.inr rfl) _) ((World.putObj_heap_other (by omega)).trans hD)⟩
end Go.Proofs.YtpgigpajpcianaaGreatDoor

namespace Go.Proofs.YtpgigpajpcianaaGreatDoor
open Go.RowKit

set_option maxRecDepth 100000 in
set_option maxHeartbeats 1000000 in
theorem chunk_any (a : Option Addr) (n c : Nat) (w : World) :
    Calls Tryz.prog 136 #[.slice a n c, .int .i64 3] w fun e w' => e = .returned (.func (.func 149) #[] #[.pointer (some ⟨w.heap.size, 0, none⟩), .pointer (some ⟨w.heap.size + 1, 0, none⟩)]) ∧ w' = (w.alloc (.cells #[.slice a n c] 119)).alloc (.cells #[.int .i64 3] 3) := by
  go_enter Tryz.func136, Tryz.ntmps136
  go_wp2_with fail
  go_ret
  exact ⟨rfl, rfl⟩
structure PassAt (F : Bool) (S : Script) (base g gd : Nat) (lab : Nat → Nat) (b : List UInt8) (o : Own78) (Wt run : Lines) (Bs : List Nat) (rs : List Rn) (Q : DSt × List Rn × Int) (w : World) (B : Nat) (rv : Value) (k : Nat) (lab' own' : Nat → Nat) (d' : DSt) (rs' : List Rn) (MB : List Nat) (MR : List Rn) (Md Ms : List Lines) (mv : Value) (W : World) : Prop where
  rep : SpRep F S base g gd lab' own' false b ⟨d', run, rs'⟩ Wt Bs o W
  new : ∀ i, lab' i ≠ 0 → lab i ≠ 0 ∨ B + 7 ≤ i
  fr : Frame (fun i => lab i ≠ 0) w W
  left : rs'.drop (3 * k) = rs.drop (3 * k)
  b0 : W.heap[B]? = some (.cells #[.pointer (some ⟨g, 0, none⟩)] 80 (0, 0))
  b1 : W.heap[B + 1]? = some (.cells #[.int .i64 0] 27 (0, 0))
  b2 : W.heap[B + 2]? = some (.cells #[mv] 119 (0, 0))
  b3 : W.heap[B + 3]? = some (.cells #[rv] 119 (0, 0))
  b4 : W.heap[B + 4]? = some (.cells #[.int .i64 3] 3 (0, 0))
  own : W.ownsRow base 141 1 mv MB.length (MB.map ptrV)
  away : ∀ i, mv.ownBlock = some i → B + 7 ≤ i ∧ lab' i = 0
  len : MB.length = MR.length
  run : ∀ (j i : Nat) (r : Rn), MB[j]? = some i → MR[j]? = some r → RunAt i r W
  blk : ∀ i ∈ MB, i ∈ Bs.take (3 * k) ∨ (B + 7 ≤ i ∧ lab' i = 0 ∧ mv.ownBlock ≠ some i)
  nodup : MB.Nodup
  ok : RunsOk F d' (MR ++ rs.drop (3 * k)) (Md ++ Ms)
  okl : MR.length = Md.length
  cnt : MB.length = k
  only : Only d' ((MR ++ rs.drop (3 * k)).map (·.no))
  n : d'.n + 7 * (chunks3 (rs.drop (3 * k))).length + 2 * lsum Ms ≤ 300000
  T : d'.T.length ≤ 64
  t : ∀ t ∈ d'.T, t.1.length ≤ 17000
  w17 : wsum Ms ≤ 17000
  is : Q = ((passGo S F d' (chunks3 (rs.drop (3 * k)))).1, MR ++ (passGo S F d' (chunks3 (rs.drop (3 * k)))).2.1, (passGo S F d' (chunks3 (rs.drop (3 * k)))).2.2)
structure PassOut (F : Bool) (S : Script) (base g gd : Nat) (lab : Nat → Nat) (b : List UInt8) (o : Own78) (Wt run : Lines) (Bs : List Nat) (Q : DSt × List Rn × Int) (w : World) (B : Nat) (lab' own' : Nat → Nat) (rs' : List Rn) (W : World) : Prop where
  rep : SpRep F S base g gd lab' own' false b ⟨Q.1, run, rs'⟩ Wt Bs o W
  new : ∀ i, lab' i ≠ 0 → lab i ≠ 0 ∨ B + 7 ≤ i
  fr : Frame (fun i => lab i ≠ 0) w W
  b1 : W.heap[B + 1]? = some (.cells #[.int .i64 Q.2.2] 27 (0, 0))
  e : Q.2.2 ≠ 0
section
variable {F : Bool} {S : Script} {base g gd : Nat} {lab : Nat → Nat} {b : List UInt8} {o : Own78} {Wt run : Lines} {Bs : List Nat} {rs : List Rn} {Q : DSt × List Rn × Int} {w : World} {B : Nat} {rv : Value} {k : Nat} {lab' own' : Nat → Nat} {d' : DSt} {rs' : List Rn} {MB : List Nat} {MR : List Rn} {Md Ms : List Lines} {mv : Value} {W W' : World}
theorem Frame.of_grown {A A' : World} {row : Option Nat} (hg : A.grownBy A' row) : Frame (fun i => row = some i) A A' := (Frame.refl _ A).grown hg (fun _ _ e => e)
theorem PassAt.frame {p : Nat → Prop} (h : PassAt F S base g gd lab b o Wt run Bs rs Q w B rv k lab' own' d' rs' MB MR Md Ms mv W) (hB : w.heap.size = B) (hlow : ∀ i, lab i ≠ 0 → i < B) (hmx : mxV < B) (hf : Frame p W W') (hp : ∀ i, p i → i = B + 5 ∨ i = B + 6) : PassAt F S base g gd lab b o Wt run Bs rs Q w B rv k lab' own' d' rs' MB MR Md Ms mv W' := by
  have hz : ∀ i, p i → lab' i = 0 := fun i hi => by
    cases hx : lab' i with
    | zero => rfl
    | succ m =>
      have h1 := hp i hi
      rcases h.new i (by rw [hx]; exact Nat.succ_ne_zero _) with e | e
      · have := hlow i e; omega
      · omega
  have hb : ∀ i, p i → B + 5 ≤ i ∧ i ≤ B + 6 := fun i hi => by have := hp i hi; omega
  exact {
    rep := h.rep.frame hf (fun i hi => ⟨hz i hi, fun e => by have := hb i hi; omega⟩)
    new := h.new
    fr := h.fr.then hf (fun i h1 hi => by have := hb i hi; omega)
    left := h.left
    b0 := hf.heap h.b0 (fun e => by have := hb _ e; omega)
    b1 := hf.heap h.b1 (fun e => by have := hb _ e; omega)
    b2 := hf.heap h.b2 (fun e => by have := hb _ e; omega)
    b3 := hf.heap h.b3 (fun e => by have := hb _ e; omega)
    b4 := hf.heap h.b4 (fun e => by have := hb _ e; omega)
    own := hf.owns h.own (fun i hi e => by have := hb _ e; have := (h.away i hi).1; omega)
    away := h.away
    len := h.len
    run := fun j i r h1 h2 => (h.run j i r h1 h2).frame hf (fun e => by
      rcases h.blk i (List.mem_of_getElem? h1) with e2 | e2
      · have h5 := h.rep.blab i (List.mem_of_mem_take e2)
        rw [hz i e] at h5; cases h5
      · have := hb _ e; omega)
    blk := h.blk
    nodup := h.nodup
    ok := h.ok
    okl := h.okl
    cnt := h.cnt
    only := h.only
    n := h.n
    T := h.T
    t := h.t
    w17 := h.w17
    is := h.is }
theorem PassOut.frame {p : Nat → Prop} (h : PassOut F S base g gd lab b o Wt run Bs Q w B lab' own' rs' W) (hB : w.heap.size = B) (hlow : ∀ i, lab i ≠ 0 → i < B) (hmx : mxV < B) (hf : Frame p W W') (hp : ∀ i, p i → i = B + 5 ∨ i = B + 6) : PassOut F S base g gd lab b o Wt run Bs Q w B lab' own' rs' W' := by
  have hb : ∀ i, p i → B + 5 ≤ i ∧ i ≤ B + 6 := fun i hi => by have := hp i hi; omega
  have hz : ∀ i, p i → lab' i = 0 := fun i hi => by
    cases hx : lab' i with
    | zero => rfl
    | succ m =>
      have h1 := hp i hi
      rcases h.new i (by rw [hx]; exact Nat.succ_ne_zero _) with e | e
      · have := hlow i e; omega
      · omega
  exact ⟨h.rep.frame hf (fun i hi => ⟨hz i hi, fun e => by have := hb i hi; omega⟩), h.new, h.fr.then hf (fun i h1 hi => by have := hb i hi; omega), hf.heap h.b1 (fun e => by have := hb _ e; omega), h.e⟩
def PassI (F : Bool) (S : Script) (base g gd : Nat) (lab : Nat → Nat) (b : List UInt8) (o : Own78) (Wt run : Lines) (Bs : List Nat) (rs : List Rn) (Q : DSt × List Rn × Int) (w : World) (B : Nat) (rv : Value) (k : Nat) (W : World) : Prop :=
  ∃ lab' own' d' rs' MB MR Md Ms mv, PassAt F S base g gd lab b o Wt run Bs rs Q w B rv k lab' own' d' rs' MB MR Md Ms mv W
def PassX (F : Bool) (S : Script) (base g gd : Nat) (lab : Nat → Nat) (b : List UInt8) (o : Own78) (Wt run : Lines) (Bs : List Nat) (Q : DSt × List Rn × Int) (w : World) (B : Nat) (c : Code) (W : World) : Prop :=
  c = .ret ∧ ∃ lab' own' rs', PassOut F S base g gd lab b o Wt run Bs Q w B lab' own' rs' W
theorem passI_stays (hB : w.heap.size = B) (hlow : ∀ i, lab i ≠ 0 → i < B) (hmx : mxV < B) (k : Nat) : Stays (B + 5) (PassI F S base g gd lab b o Wt run Bs rs Q w B rv k) := by
  rintro A A' row ⟨lab', own', d', rs', MB, MR, Md, Ms, mv, h⟩ hg hr
  exact ⟨lab', own', d', rs', MB, MR, Md, Ms, mv, h.frame hB hlow hmx (Frame.of_grown hg) (fun i hi => hr i hi)⟩
theorem passX_stays (hB : w.heap.size = B) (hlow : ∀ i, lab i ≠ 0 → i < B) (hmx : mxV < B) (c : Code) : Stays (B + 5) (PassX F S base g gd lab b o Wt run Bs Q w B c) := by
  rintro A A' row ⟨e, lab', own', rs', h⟩ hg hr
  exact ⟨e, lab', own', rs', h.frame hB hlow hmx (Frame.of_grown hg) (fun i hi => hr i hi)⟩
end

end Go.Proofs.YtpgigpajpcianaaGreatDoor

namespace Go.Proofs.YtpgigpajpcianaaGreatDoor
open Go.RowKit

theorem at_alloc (w : World) (o : Obj) {n : Nat} (h : n = w.heap.size) : (w.alloc o).heap[n]? = some o := by subst h; exact World.alloc_heap_new w o
theorem at_old {w : World} (o : Obj) {n : Nat} {x : Obj} (hx : w.heap[n]? = some x) : (w.alloc o).heap[n]? = some x := (Below.heap_alloc _ _ _ (Array.getElem?_eq_some_iff.1 hx).1).trans hx
section
variable {F : Bool} {S : Script} {base g gd : Nat} {lab ownD : Nat → Nat} {b : List UInt8} {o : Own78} {Wt : Lines} {x : SpD} {Bs : List Nat} {rs : List Rn} {Q : DSt × List Rn × Int} {w w2 : World} {d d2 : DSt} {rs2 : List Rn}
theorem passAt_start {Ms : List Lines} (h : SpRep F S base g gd lab ownD false b x Wt Bs o w) (hok : PassOk F x.d x.rs Ms) (hQ : Q = passGo S F x.d (chunks3 x.rs)) :
    PassAt F S base g gd lab b o Wt x.run Bs x.rs Q w w.heap.size o.rv 0 lab ownD x.d x.rs [] [] [] Ms (.slice none 0 0)
      (((((w.alloc (.cells #[.pointer (some ⟨g, 0, none⟩)] 80)).alloc (.cells #[.int .i64 0] 27)).alloc (.cells #[.slice none 0 0] 119)).alloc (.cells #[o.rv] 119)).alloc (.cells #[.int .i64 3] 3)) := by
  have hf := (((((Frame.refl (fun _ => False) w).alloc (.cells #[.pointer (some ⟨g, 0, none⟩)] 80)).alloc (.cells #[.int .i64 0] 27)).alloc (.cells #[.slice none 0 0] 119)).alloc (.cells #[o.rv] 119)).alloc (.cells #[.int .i64 3] 3)
  have hcl := (chunks3_len x.rs.length x.rs (Nat.le_refl _)).1
  have hll := lsum_le_wsum Ms
  exact {
    rep := h.frame hf (fun _ e => e.elim)
    new := fun _ e => .inl e
    fr := hf.mono (fun _ _ e => e.elim)
    left := rfl
    b0 := at_old _ (at_old _ (at_old _ (at_old _ (at_alloc _ _ rfl))))
    b1 := at_old _ (at_old _ (at_old _ (at_alloc _ _ (by simp))))
    b2 := at_old _ (at_old _ (at_alloc _ _ (by simp)))
    b3 := at_old _ (at_alloc _ _ (by simp))
    b4 := at_alloc _ _ (by simp)
    own := World.ownsRow_nil _ _ _ _
    away := fun _ e => by cases e
    len := rfl
    run := fun j i r h1 _ => by simp at h1
    blk := fun i hi => by cases hi
    nodup := List.nodup_nil
    ok := by simpa using hok.ok
    okl := rfl
    cnt := rfl
    only := by simpa using hok.only
    n := by have := hok.n; have := hok.w; have := hok.len; simp only [Nat.mul_zero, List.drop_zero]; omega
    T := hok.T
    t := hok.t
    w17 := hok.w
    is := by rw [hQ]; simp }
theorem RunsAt.chunk (h : RunsAt F S base g gd ownD d Bs rs w) (k m : Nat) : RunsAt F S base g gd ownD d ((Bs.drop k).take m) ((rs.drop k).take m) w where
  c73 := h.c73
  c74 := h.c74
  disk := h.disk
  len := by simp [h.len]
  run j i r h1 h2 := by
    rw [List.getElem?_take] at h1 h2
    split at h1
    · rename_i hj
      rw [if_pos hj] at h2
      rw [List.getElem?_drop] at h1 h2
      exact h.run _ i r h1 h2
    · cases h1
  apart i hi := h.apart i (List.mem_of_mem_drop (List.mem_of_mem_take hi))
  ag := h.ag
  am := h.am
  max := h.max
  nodup := h.nodup.sublist ((List.take_sublist _ _).trans (List.drop_sublist _ _))
theorem RunsAt.lift (h : RunsAt F S base g gd ownD d Bs rs w) {k m : Nat} {own2 : Nat → Nat} (k1 : RunsAt F S base g gd own2 d2 ((Bs.drop k).take m) rs2 w2) (k2 : ∀ i, i < w.heap.size → own2 i = ownD i) (k3 : Frame (fun i => ownD i ≠ 0 ∨ i ∈ (Bs.drop k).take m) w w2) (hkm : k + m ≤ Bs.length) : RunsAt F S base g gd own2 d2 Bs (rs.take k ++ rs2 ++ rs.drop (k + m)) w2 ∧ Frame (fun i => ownD i ≠ 0 ∨ i ∈ Bs) w w2 := by
  have hsub : ∀ i, i ∈ (Bs.drop k).take m → i ∈ Bs := fun i hi => List.mem_of_mem_drop (List.mem_of_mem_take hi)
  have hl2 : rs2.length = m := by rw [← k1.len]; simp; omega
  have hlen := h.len
  have hold : ∀ (j i : Nat) (r : Rn), Bs[j]? = some i → rs[j]? = some r → (j < k ∨ k + m ≤ j) → RunAt i r w2 := fun j i r h1 h2 hj => by
    refine (h.run j i r h1 h2).frame k3 (fun e => ?_)
    rcases e with e | e
    · exact e (h.apart i (List.mem_of_getElem? h1)).1
    · obtain ⟨j2, hj2⟩ := List.mem_iff_getElem?.1 e
      rw [List.getElem?_take] at hj2
      split at hj2
      · rename_i hjm
        rw [List.getElem?_drop] at hj2
        have := (List.getElem?_inj (List.getElem?_eq_some_iff.1 h1).1 h.nodup).1 (h1.trans hj2.symm)
        omega
      · cases hj2
  refine ⟨⟨k1.c73, k1.c74, k1.disk, by simp [hl2, hlen]; omega, fun j i r h1 h2 => ?_, fun i hi => ?_, k1.ag, k1.am, k1.max, h.nodup⟩, k3.mono (fun i _ e => e.imp_right (hsub i))⟩
  · by_cases a1 : j < k
    · rw [List.getElem?_append_left (by simp; omega), List.getElem?_append_left (by simp; omega), List.getElem?_take, if_pos a1] at h2
      exact hold j i r h1 h2 (.inl a1)
    · by_cases a2 : j < k + m
      · rw [List.getElem?_append_left (by simp; omega), List.getElem?_append_right (by simp; omega)] at h2
        refine k1.run (j - k) i r ?_ (by rw [← h2]; congr 1; simp; omega)
        rw [List.getElem?_take, if_pos (by omega), List.getElem?_drop, ← h1]
        congr 1
        omega
      · rw [List.getElem?_append_right (by simp; omega), List.getElem?_drop] at h2
        refine hold j i r h1 ?_ (.inr (by omega))
        rw [← h2]
        congr 1
        simp
        omega
  · have h5 := h.apart i hi
    refine ⟨?_, h5.2⟩
    have hlt : i < w.heap.size := by
      obtain ⟨j, hj⟩ := List.mem_iff_getElem?.1 hi
      obtain ⟨r, -, hr⟩ := h.at_ hj
      exact hr.lt
    rw [k2 i hlt]
    exact h5.1
end

end Go.Proofs.YtpgigpajpcianaaGreatDoor

namespace Go.Proofs.YtpgigpajpcianaaGreatDoor
open Go.RowKit

section
variable {F : Bool} {S : Script} {base g gd : Nat} {lab ownD : Nat → Nat} {b : List UInt8} {o : Own78} {Wt run : Lines} {x : SpD} {Bs : List Nat} {rs : List Rn} {Q : DSt × List Rn × Int} {w W W2 W5 : World} {d d2 : DSt} {B : Nat} {rv : Value} {k : Nat} {lab' own' : Nat → Nat} {d' : DSt} {rs' : List Rn} {MB : List Nat} {MR : List Rn} {Md Ms : List Lines} {mv : Value}
theorem SpRep.ran2 {f : Bool} (h : SpRep F S base g gd lab ownD f b x Wt Bs o w) {rs2 : List Rn} {own2 : Nat → Nat} {w' : World} (k1 : RunsAt F S base g gd own2 d2 Bs rs2 w') (k2 : ∀ i, i < w.heap.size → own2 i = ownD i) (k3 : Frame (fun i => ownD i ≠ 0 ∨ i ∈ Bs) w w') :
    ∃ lab2, SpRep F S base g gd lab2 own2 f b ⟨d2, x.run, rs2⟩ Wt Bs o w' ∧ Within lab lab2 w w' ∧ ∀ i, lab2 i ≠ 0 → lab i ≠ 0 ∨ own2 i ≠ 0 := by
  have hX : ∀ k, own2 k ≠ 0 → lab k = 6 ∨ lab k = 0 := fun k hk => by
    by_cases hlt : k < w.heap.size
    · rw [k2 k hlt] at hk; exact .inl (h.dlab k hk)
    · exact .inr (h.lab0 (by omega))
  have ho : ∀ {j : Nat}, j ≠ 0 → j ≠ 6 → ∀ k, relab 6 (fun k => own2 k ≠ 0) lab k = j ↔ lab k = j := fun h0 h6 k => relab_other h0 h6 hX k
  have hfr : ∀ {j : Nat}, j ≠ 6 → j ≠ 5 → ∀ k, lab k = j → ¬ (ownD k ≠ 0 ∨ k ∈ Bs) := fun h6 h5 k hk e => by
    rcases e with e | e
    · rw [h.dlab k e] at hk; exact h6 hk.symm
    · rw [h.blab k e] at hk; exact h5 hk.symm
  refine ⟨relab 6 (fun k => own2 k ≠ 0) lab, ⟨h.row.frame k3 (hfr (by decide) (by decide) _ h.glab), (h.wait.frame k3 (fun k hk => hfr (by decide) (by decide) k hk)).congr (fun k => ho (by decide) (by decide) k), (h.lines.frame k3 (fun k hk => hfr (by decide) (by decide) k hk)).congr (fun k => ho (by decide) (by decide) k),
    k3.owns h.runs (fun k hk => hfr (by decide) (by decide) k (h.rlab k hk)), fun k hk => (ho (by decide) (by decide) k).2 (h.rlab k hk), h.dv, k1.disk, k1.len, k1.run, fun k hk => (ho (by decide) (by decide) k).2 (h.blab k hk),
    fun k hk => (relab_self (by decide) k).2 hk, (ho (by decide) (by decide) g).2 h.glab, fun k hk => ?_, h.low, k1.max, h.nodup⟩, ⟨fun k hk => ?_, k3.mono (fun k _ e => by rcases e with e | e; rw [h.dlab k e]; decide; rw [h.blab k e]; decide)⟩, fun k hk => relab_ne hk⟩
  · rcases relab_ne hk with e | e
    · exact ⟨(h.bnd k e).1, Nat.lt_of_lt_of_le (h.bnd k e).2 k3.size⟩
    · exact k1.disk.bnd k e
  · rcases relab_ne hk with e | e
    · exact .inl e
    · rcases hX k e with e2 | e2
      · exact .inl (by rw [e2]; decide)
      · by_cases hlt : k < w.heap.size
        · rw [k2 k hlt] at e
          exact .inl (by rw [h.dlab k e]; decide)
        · exact .inr (by omega)
theorem take_min {α : Type} (l : List α) (k m : Nat) (h : m = min 3 (l.length - k)) : (l.drop k).take 3 = (l.drop k).take m := by
  rw [List.take_eq_take_iff, List.length_drop, h]
  omega
theorem passAt_step (h : PassAt F S base g gd lab b o Wt run Bs rs Q w B rv k lab' own' d' rs' MB MR Md Ms mv W) (hs : B + 7 ≤ W.heap.size) (hk : 3 * k < rs.length) (hrl : rs'.length = rs.length)
    {q1 : DSt × Option Rn × Int} (hq1 : q1 = mergeR S F d' ((rs.drop (3 * k)).take 3)) (hm0 : q1.2.2 = 0) {own2 : Nat → Nat} {rs2 : List Rn} (k1 : RunsAt F S base g gd own2 q1.1 ((Bs.drop (3 * k)).take 3) rs2 W2) (k2 : ∀ i, i < W.heap.size → own2 i = own' i) (k3 : Frame (fun i => own' i ≠ 0 ∨ i ∈ (Bs.drop (3 * k)).take 3) W W2)
    {kr : Nat} {r : Rn} (m1 : q1.2.1 = some r) (m2 : RunAt kr r W2) (m3 : own2 kr = 0) (m4 : kr ∈ (Bs.drop (3 * k)).take 3 ∨ W.heap.size ≤ kr)
    {v' : Value} (hf : Frame (fun i => mv.ownBlock = some i ∨ i = B + 2) W2 W5) (hb2 : W5.heap[B + 2]? = some (.cells #[v'] 119 (0, 0))) (hown : W5.ownsRow base 141 1 v' (MB ++ [kr]).length ((MB ++ [kr]).map ptrV)) (hv : v'.ownBlock = mv.ownBlock ∨ ∃ j, v'.ownBlock = some j ∧ W2.heap.size < j) (hlow : ∀ i, lab i ≠ 0 → i < B) (hB : w.heap.size = B) (hmx : mxV < B) :
    PassI F S base g gd lab b o Wt run Bs rs Q w B rv (k + 1) W5 := by
  have hBl : Bs.length = rs.length := h.rep.len.trans hrl
  obtain ⟨m, hm⟩ : ∃ m, m = min 3 (rs.length - 3 * k) := ⟨_, rfl⟩
  have eB := take_min Bs (3 * k) m (by rw [hBl]; exact hm)
  have eR := take_min rs (3 * k) m hm
  -- the runs, all of them
  have hrs2 : rs2.length = m := by rw [← k1.len, eB]; simp; omega
  have hm3 : 3 * k + m ≤ rs.length ∧ m ≤ 3 ∧ (m = 3 ∨ rs.length = 3 * k + m) := by omega
  obtain ⟨j1, j3⟩ := h.rep.runsAt.lift (k := 3 * k) (m := m) (by rw [← eB]; exact k1) k2 (by rw [← eB]; exact k3) (by omega)
  obtain ⟨lab2, r1, r2, r3⟩ := h.rep.ran2 j1 k2 j3
  have hBc : ∀ i, i ∈ (Bs.drop (3 * k)).take 3 → i ∈ Bs := fun i hi => List.mem_of_mem_drop (List.mem_of_mem_take hi)
  have hz : ∀ i, lab' i = 0 → ¬ (own' i ≠ 0 ∨ i ∈ (Bs.drop (3 * k)).take 3) := fun i hi e => by
    rcases e with e | e
    · exact e (h.rep.own0 (by rw [hi]; decide))
    · have := h.rep.blab i (hBc i e); rw [hi] at this; cases this
  have hz2 : ∀ i, lab' i = 0 → i < W.heap.size → lab2 i = 0 := fun i hi hlt => by
    cases hx : lab2 i with
    | zero => rfl
    | succ n =>
      rcases r3 i (by rw [hx]; exact Nat.succ_ne_zero _) with e | e
      · exact absurd hi e
      · rw [k2 i hlt] at e; exact absurd (h.rep.own0 (by rw [hi]; decide)) e
  have hbx : ∀ n, n ≤ 6 → lab' (B + n) = 0 := fun n hn => by
    cases hx : lab' (B + n) with
    | zero => rfl
    | succ n2 =>
      rcases h.new (B + n) (by rw [hx]; exact Nat.succ_ne_zero _) with e | e
      · have := hlow _ e; omega
      · omega
  have hmv : ∀ i, mv.ownBlock = some i → i < W.heap.size := fun i e => (h.own.lt i e).2
  have hW2 := k3.size
  have hbox : ∀ {n : Nat} {ob : Obj}, n ≤ 4 → n ≠ 2 → W.heap[B + n]? = some ob → W5.heap[B + n]? = some ob := fun hn hn2 hx => hf.heap (k3.heap hx (hz _ (hbx _ (by omega)))) (fun e => by
    rcases e with e | e
    · have := (h.away _ e).1; omega
    · omega)
  have hbx2 := hbx 2 (by omega)
  have htk : ∀ i, i ∈ Bs.take (3 * k) → i ∉ (Bs.drop (3 * k)).take 3 := fun i h1 h2 => by
    have hn := h.rep.nodup
    rw [← List.take_append_drop (3 * k) Bs] at hn
    exact (List.nodup_append.1 hn).2.2 i h1 i (List.mem_of_mem_take h2) rfl
  have hkr : kr ∉ MB ∧ mv.ownBlock ≠ some kr ∧ kr ≠ B + 2 := by
    refine ⟨fun e => ?_, fun e => ?_, fun e => ?_⟩
    · rcases m4 with e4 | e4
      · rcases h.blk kr e with e2 | ⟨-, e2, -⟩
        · exact htk kr e2 e4
        · have := h.rep.blab kr (hBc kr e4); rw [e2] at this; cases this
      · obtain ⟨j, hj⟩ := List.mem_iff_getElem?.1 e
        have hjl : j < MR.length := by rw [← h.len]; exact (List.getElem?_eq_some_iff.1 hj).1
        have := (h.run j kr _ hj (List.getElem?_eq_getElem hjl)).lt
        omega
    · rcases m4 with e4 | e4
      · have := h.rep.blab kr (hBc kr e4); rw [(h.away kr e).2] at this; cases this
      · have := hmv kr e; omega
    · rcases m4 with e4 | e4
      · have := h.rep.blab kr (hBc kr e4); rw [e, hbx2] at this; cases this
      · omega
  -- plainly
  have hcd : rs.drop (3 * k) = (rs.drop (3 * k)).take 3 ++ (chunks3 (rs.drop (3 * (k + 1)))).flatten := by
    rw [chunks3_flat _ _ (Nat.le_refl _), show 3 * (k + 1) = 3 * k + 3 by omega, ← List.drop_drop, List.take_append_drop]
  have hch := (chunks3_drop 0 (rs.drop (3 * k)) (by simp; omega)).1
  simp only [List.drop_zero, Nat.mul_zero, Nat.zero_add, Nat.mul_one, List.drop_drop, Nat.add_zero] at hch
  rw [show 3 * k + 3 = 3 * (k + 1) by omega] at hch
  have hok := h.ok
  have hon := h.only
  rw [hcd] at hok hon
  have hlw := lsum_le_wsum Ms
  have hw17 := h.w17
  have hcne : (rs.drop (3 * k)).take 3 ≠ [] := fun e => by have := congrArg List.length e; simp at this; omega
  obtain ⟨hmr, hmo⟩ := chunk_is (S := S) hok h.okl hon h.T hcne (by show _ ≤ 1000000; omega)
  rw [← hq1] at hmr hmo
  obtain ⟨r', Wl, n1, n2, n3, n4⟩ := hmo hm0
  rw [m1] at n1
  injection n1 with n1
  subst n1
  have hls := lsum_append (Ms.take ((rs.drop (3 * k)).take 3).length) (Ms.drop ((rs.drop (3 * k)).take 3).length)
  have hws := wsum_append (Ms.take ((rs.drop (3 * k)).take 3).length) (Ms.drop ((rs.drop (3 * k)).take 3).length)
  rw [List.take_append_drop] at hls hws
  have hfl := chunks3_flat _ (rs.drop (3 * (k + 1))) (Nat.le_refl _)
  rw [hfl] at n3 n4
  have hnn := hmr.n
  have hcl3 : ((rs.drop (3 * k)).take 3).length ≤ 3 := by simp; omega
  have hn := h.n
  rw [hch, List.length_cons] at hn
  have his := h.is
  rw [hch, passGo_cons, ← hq1, if_neg (by rw [hm0]; simp), m1] at his
  exact ⟨lab2, own2, q1.1, _, MB ++ [kr], MR ++ [r], Md ++ [Wl], Ms.drop ((rs.drop (3 * k)).take 3).length, v', {
    rep := r1.frame hf (fun i hi => by
      rcases hi with e | e
      · exact ⟨hz2 i (h.away i e).2 (hmv i e), by have := (h.away i e).1; omega⟩
      · rw [e]; exact ⟨hz2 _ hbx2 (by omega), by omega⟩)
    new := fun i hi => by
      rcases r2.new i hi with e | e
      · exact h.new i e
      · exact .inr (by omega)
    fr := (h.fr.then r2.fr (fun i hi e => by
      rcases h.new i e with e | e
      · exact e
      · omega)).then hf (fun i hi e => by
      rcases e with e | e
      · have := (h.away i e).1; omega
      · omega)
    left := by
      have hgen : ∀ (A : List Rn), A.length = 3 * k + m → (A ++ rs'.drop (3 * k + m)).drop (3 * (k + 1)) = rs.drop (3 * (k + 1)) := fun A h1 => by
        rw [List.drop_append, h1, List.drop_eq_nil_of_le (by rw [h1]; omega), List.nil_append, List.drop_drop, show 3 * k + m + (3 * (k + 1) - (3 * k + m)) = 3 * k + 3 by omega, show 3 * (k + 1) = 3 * k + 3 by omega, ← List.drop_drop, ← List.drop_drop, h.left]
      exact hgen _ (by simp; omega)
    b0 := hbox (n := 0) (by omega) (by omega) h.b0
    b1 := hbox (n := 1) (by omega) (by omega) h.b1
    b2 := hb2
    b3 := hbox (n := 3) (by omega) (by omega) h.b3
    b4 := hbox (n := 4) (by omega) (by omega) h.b4
    own := hown
    away := fun i e => by
      rcases hv with e2 | ⟨j, e2, hj⟩
      · rw [e2] at e
        exact ⟨(h.away i e).1, hz2 i (h.away i e).2 (hmv i e)⟩
      · rw [e2] at e
        injection e with e
        subst e
        refine ⟨by omega, ?_⟩
        cases hx : lab2 j with
        | zero => rfl
        | succ n => have := (r1.bnd j (by rw [hx]; exact Nat.succ_ne_zero _)).2; omega
    len := by simp [h.len]
    run := fun j i r2 h1 h2 => by
      by_cases hj : j < MB.length
      · rw [List.getElem?_append_left hj] at h1
        rw [List.getElem?_append_left (by rw [← h.len]; exact hj)] at h2
        have hb := h.blk i (List.mem_of_getElem? h1)
        refine ((h.run j i r2 h1 h2).frame k3 (fun e => ?_)).frame hf (fun e => ?_)
        · rcases hb with e2 | ⟨-, e2, -⟩
          · rcases e with e | e
            · exact e (h.rep.own0 (by rw [h.rep.blab i (List.mem_of_mem_take e2)]; decide))
            · exact htk i e2 e
          · exact hz i e2 e
        · rcases hb with e2 | ⟨e1, e2, e3⟩
          · have h5 := h.rep.blab i (List.mem_of_mem_take e2)
            rcases e with e | e
            · rw [(h.away i e).2] at h5; cases h5
            · rw [e, hbx2] at h5; cases h5
          · rcases e with e | e
            · exact e3 e
            · omega
      · rw [List.getElem?_append_right (by omega)] at h1
        rw [List.getElem?_append_right (by rw [← h.len]; omega)] at h2
        have e1 := List.mem_singleton.1 (List.mem_of_getElem? h1)
        have e2 := List.mem_singleton.1 (List.mem_of_getElem? h2)
        rw [e1, e2]
        exact m2.frame hf (fun e => by
          rcases e with e | e
          · exact hkr.2.1 e
          · exact hkr.2.2 e)
    blk := fun i hi => by
      rcases List.mem_append.1 hi with hi | hi
      · rcases h.blk i hi with e2 | ⟨e1, e2, e3⟩
        · refine .inl ((List.take_subset_take_left Bs (by omega : 3 * k ≤ 3 * (k + 1))) e2)
        · obtain ⟨j, hj⟩ := List.mem_iff_getElem?.1 hi
          have hjl : j < MR.length := by rw [← h.len]; exact (List.getElem?_eq_some_iff.1 hj).1
          have hlt := (h.run j i _ hj (List.getElem?_eq_getElem hjl)).lt
          refine .inr ⟨e1, hz2 i e2 hlt, fun e => ?_⟩
          rcases hv with e4 | ⟨j2, e4, hj2⟩
          · rw [e4] at e; exact e3 e
          · rw [e4] at e; injection e with e; omega
      · rw [List.mem_singleton.1 hi]
        rcases m4 with e4 | e4
        · refine .inl ?_
          have := List.take_append_drop (3 * k) Bs
          rw [show 3 * (k + 1) = 3 * k + 3 by omega, List.take_add]
          exact List.mem_append_right _ e4
        · refine .inr ⟨by omega, ?_, fun e => ?_⟩
          · cases hx : lab2 kr with
            | zero => rfl
            | succ n =>
              rcases r3 kr (by rw [hx]; exact Nat.succ_ne_zero _) with e | e
              · have := (h.rep.bnd kr e).2; omega
              · exact absurd m3 e
          · have := m2.lt
            rcases hv with e2 | ⟨j2, e2, hj2⟩
            · rw [e2] at e; have := hmv kr e; omega
            · rw [e2] at e; injection e with e; omega
    nodup := by
      rw [List.nodup_append]
      exact ⟨h.nodup, by simp, fun a ha c hc e => by rw [List.mem_singleton.1 hc] at e; rw [e] at ha; exact hkr.1 ha⟩
    ok := n3
    okl := by simp [h.okl]
    cnt := by simp [h.cnt]
    only := n4
    n := by omega
    T := hmr.T
    t := hmr.B 17000 h.t (by omega)
    w17 := by omega
    is := by rw [his]; simp }⟩
end

end Go.Proofs.YtpgigpajpcianaaGreatDoor

namespace Go.Proofs.YtpgigpajpcianaaGreatDoor
open Go.RowKit

section
variable {F : Bool} {S : Script} {base g gd : Nat} {lab ownD : Nat → Nat} {b : List UInt8} {o : Own78} {Wt run : Lines} {x : SpD} {Bs : List Nat} {rs : List Rn} {Q : DSt × List Rn × Int} {w W W2 W5 : World} {d d2 : DSt} {B : Nat} {rv : Value} {k : Nat} {lab' own' : Nat → Nat} {d' : DSt} {rs' : List Rn} {MB : List Nat} {MR : List Rn} {Md Ms : List Lines} {mv : Value}
theorem passAt_merge (h : PassAt F S base g gd lab b o Wt run Bs rs Q w B rv k lab' own' d' rs' MB MR Md Ms mv W) (hk : 3 * k < rs.length) (hrl : rs'.length = rs.length) {rb ro pc : Nat} (hrv : o.rv = .slice (some ⟨rb, ro, none⟩) Bs.length pc) :
    Calls Tryz.prog 137 #[ptrV g, chunkV rb ro Bs.length k] W (MergeEnd F S base g gd own' ((Bs.drop (3 * k)).take 3) (mergeR S F d' ((rs.drop (3 * k)).take 3)) W) := by
  have hBl : Bs.length = rs.length := h.rep.len.trans hrl
  have hR := h.rep.runsAt.chunk (3 * k) 3
  simp only [h.left] at hR
  have hok1 := h.ok.right
  rw [h.okl, List.drop_left] at hok1
  have hok2 : RunsOk F d' ((rs.drop (3 * k)).take 3 ++ (rs.drop (3 * k)).drop 3) Ms := by rw [List.take_append_drop]; exact hok1
  have hok3 := hok2.left
  have hls := lsum_append (Ms.take ((rs.drop (3 * k)).take 3).length) (Ms.drop ((rs.drop (3 * k)).take 3).length)
  have hws := wsum_append (Ms.take ((rs.drop (3 * k)).take 3).length) (Ms.drop ((rs.drop (3 * k)).take 3).length)
  rw [List.take_append_drop] at hls hws
  have hn := h.n
  have hw := h.w17
  have hc3 : ((rs.drop (3 * k)).take 3).length ≤ 3 := by simp; omega
  have hcB : ((Bs.drop (3 * k)).take 3).length = min 3 (Bs.length - 3 * k) := by simp
  have hpt := h.rep.ptrs
  rw [hrv] at hpt
  obtain ⟨pa, pc2, e1, -, hcell⟩ := hpt
  injection e1 with e2 e3 e4
  subst e2 e4
  refine merge_any (p := fun i => lab' i = 4) 1000000 17000 hR hok3 ⟨by omega, h.T, h.t⟩ (by omega) (by omega) (by omega) (by omega) _ ?_ (fun i hi => ⟨h.rep.own0 (by rw [hi]; decide), fun e => ?_⟩) (by rw [hcB]; omega) (fun e => ?_)
  · refine ⟨some ⟨rb, ro + 3 * k, none⟩, min 3 (Bs.length - 3 * k), by unfold chunkV; rw [hcB], by rw [hcB]; exact Nat.le_refl _, fun j i hj => ⟨rb, ro + 3 * k, rfl, ?_⟩⟩
    rw [List.getElem?_take] at hj
    split at hj
    · rw [List.getElem?_drop] at hj
      obtain ⟨gb, off, e5, h4, hc⟩ := hcell _ i hj
      injection e5 with e5
      injection e5 with e5 e6
      subst e5 e6
      exact ⟨h4, by rw [Nat.add_assoc]; exact hc⟩
    · cases hj
  · have := h.rep.blab i (List.mem_of_mem_drop (List.mem_of_mem_take e))
    rw [hi] at this
    cases this
  · have := congrArg List.length e
    simp at this
    omega
theorem passAt_out (h : PassAt F S base g gd lab b o Wt run Bs rs Q w B rv k lab' own' d' rs' MB MR Md Ms mv W) (hs : B + 7 ≤ W.heap.size) (hk : 3 * k < rs.length) (hrl : rs'.length = rs.length)
    {q1 : DSt × Option Rn × Int} (hq1 : q1 = mergeR S F d' ((rs.drop (3 * k)).take 3)) (hm0 : q1.2.2 ≠ 0) {own2 : Nat → Nat} {rs2 : List Rn} (k1 : RunsAt F S base g gd own2 q1.1 ((Bs.drop (3 * k)).take 3) rs2 W2) (k2 : ∀ i, i < W.heap.size → own2 i = own' i) (k3 : Frame (fun i => own' i ≠ 0 ∨ i ∈ (Bs.drop (3 * k)).take 3) W W2)
    (hf : Frame (fun i => i = B + 1) W2 W5) (hb1 : W5.heap[B + 1]? = some (.cells #[.int .i64 q1.2.2] 27 (0, 0))) (hlow : ∀ i, lab i ≠ 0 → i < B) (hB : w.heap.size = B) (hmx : mxV < B) :
    PassX F S base g gd lab b o Wt run Bs Q w B .ret W5 := by
  have hBl : Bs.length = rs.length := h.rep.len.trans hrl
  obtain ⟨m, hm⟩ : ∃ m, m = min 3 (rs.length - 3 * k) := ⟨_, rfl⟩
  have eB := take_min Bs (3 * k) m (by rw [hBl]; exact hm)
  have hW2 := k3.size
  obtain ⟨j1, j3⟩ := h.rep.runsAt.lift (k := 3 * k) (m := m) (by rw [← eB]; exact k1) k2 (by rw [← eB]; exact k3) (by omega)
  obtain ⟨lab2, r1, r2, r3⟩ := h.rep.ran2 j1 k2 j3
  have hbx : lab' (B + 1) = 0 := by
    cases hx : lab' (B + 1) with
    | zero => rfl
    | succ n2 =>
      rcases h.new (B + 1) (by rw [hx]; exact Nat.succ_ne_zero _) with e | e
      · have := hlow _ e; omega
      · omega
  have hz2 : lab2 (B + 1) = 0 := by
    cases hx : lab2 (B + 1) with
    | zero => rfl
    | succ n =>
      rcases r3 (B + 1) (by rw [hx]; exact Nat.succ_ne_zero _) with e | e
      · exact absurd hbx e
      · rw [k2 _ (by omega)] at e; exact absurd (h.rep.own0 (by rw [hbx]; decide)) e
  have hch := (chunks3_drop 0 (rs.drop (3 * k)) (by simp; omega)).1
  simp only [List.drop_zero, Nat.mul_zero, Nat.zero_add, Nat.mul_one, List.drop_drop, Nat.add_zero] at hch
  have his := h.is
  rw [hch, passGo_cons, ← hq1, if_pos hm0] at his
  have e1 : Q.1 = q1.1 := by rw [his]
  have e2 : Q.2.2 = q1.2.2 := by rw [his]
  refine ⟨rfl, lab2, own2, _, ⟨by rw [e1]; exact r1.frame hf (fun i hi => by rw [hi]; exact ⟨hz2, by omega⟩), fun i hi => ?_, (h.fr.then r2.fr (fun i hi e => ?_)).then hf (fun i hi e => by omega), by rw [e2]; exact hb1, by rw [e2]; exact hm0⟩⟩
  · rcases r2.new i hi with e | e
    · exact h.new i e
    · exact .inr (by omega)
  · rcases h.new i e with e | e
    · exact e
    · omega
end

end Go.Proofs.YtpgigpajpcianaaGreatDoor

namespace Go.Proofs.YtpgigpajpcianaaGreatDoor
open Go.RowKit

section
variable {F : Bool} {S : Script} {base g gd : Nat} {lab ownD : Nat → Nat} {f : Bool} {b : List UInt8} {o : Own78} {Wt run : Lines} {x : SpD} {Bs : List Nat} {rs : List Rn} {Q : DSt × List Rn × Int} {w W : World} {B : Nat} {k : Nat} {lab' own' : Nat → Nat} {d' : DSt} {rs' : List Rn} {MB : List Nat} {MR : List Rn} {Md Ms : List Lines} {mv rv : Value}
theorem SpRep.reruns0 (h : SpRep F S base g gd lab ownD f b x Wt Bs o w) {rv : Value} {Bs' : List Nat} {rs2 : List Rn} (ho' : w.ownsRow base 141 1 rv Bs'.length (Bs'.map ptrV)) (hX4 : ∀ k, rv.ownBlock = some k → lab k = 4 ∨ lab k = 0)
    (hlen : Bs'.length = rs2.length) (hrun : ∀ (j k : Nat) (r : Rn), Bs'[j]? = some k → rs2[j]? = some r → RunAt k r w) (hb : ∀ k ∈ Bs', lab k = 5 ∨ (lab k = 0 ∧ rv.ownBlock ≠ some k ∧ base ≤ k)) (hnd : Bs'.Nodup) :
    ∃ lab', SpRep F S base g gd lab' ownD f b ⟨x.d, x.run, rs2⟩ Wt Bs' { o with rv := rv } (w.setCell ⟨g, 76, none⟩ rv) ∧ ∀ i, lab' i ≠ 0 → lab i ≠ 0 ∨ rv.ownBlock = some i ∨ i ∈ Bs' := by
  have h4 : ∀ {j : Nat}, j ≠ 0 → j ≠ 4 → ∀ k, relab 4 (fun k => rv.ownBlock = some k) lab k = j ↔ lab k = j := fun h0 h3 k => relab_other h0 h3 hX4 k
  have hX5 : ∀ k, k ∈ Bs' → relab 4 (fun k => rv.ownBlock = some k) lab k = 5 ∨ relab 4 (fun k => rv.ownBlock = some k) lab k = 0 := fun k hk => by
    rcases hb k hk with e | ⟨e, e2, -⟩
    · exact .inl ((h4 (by decide) (by decide) k).2 e)
    · refine .inr ?_
      unfold relab
      rw [if_neg e2, e]
      decide
  have ho : ∀ {j : Nat}, j ≠ 0 → j ≠ 4 → j ≠ 5 → ∀ k, relab 5 (· ∈ Bs') (relab 4 (fun k => rv.ownBlock = some k) lab) k = j ↔ lab k = j := fun h0 h3 h5 k => (relab_other h0 h5 hX5 k).trans (h4 h0 h3 k)
  have hc := Frame.cell w ⟨g, 76, none⟩ rv
  have hfr : ∀ {j : Nat}, j ≠ 1 → ∀ k, lab k = j → ¬ (k = g) := fun h1 k hk e => by rw [e, h.glab] at hk; exact h1 hk.symm
  have hBg : ∀ k ∈ Bs', k ≠ g := fun k hk e => by
    rcases hb k hk with e2 | ⟨e2, -⟩ <;> rw [e, h.glab] at e2 <;> cases e2
  have hsz : (w.setCell ⟨g, 76, none⟩ rv).heap.size = w.heap.size := by simp [World.setCell]
  refine ⟨relab 5 (· ∈ Bs') (relab 4 (fun k => rv.ownBlock = some k) lab), ⟨h.row.set76 rv, (h.wait.frame hc (fun k hk => hfr (by decide) k hk)).congr (fun k => ho (by decide) (by decide) (by decide) k), (h.lines.frame hc (fun k hk => hfr (by decide) k hk)).congr (fun k => ho (by decide) (by decide) (by decide) k),
    hc.owns ho' (fun k hk e => by have e' : k = g := e; rcases hX4 k hk with e2 | e2 <;> rw [e', h.glab] at e2 <;> cases e2), fun k hk => ?_, h.dv, h.disk.frame hc (fun k e => by rw [show k = g from e]; exact h.own0 (by rw [h.glab]; decide)), hlen, fun j k r h1 h2 => (hrun j k r h1 h2).frame hc (fun e => hBg k (List.mem_of_getElem? h1) e),
    fun k hk => (relab_self (by decide) k).2 hk, fun k hk => (ho (by decide) (by decide) (by decide) k).2 (h.dlab k hk), (ho (by decide) (by decide) (by decide) g).2 h.glab, fun k hk0 => ?_, h.low, h.max.frame hc (fun e => ?_), hnd⟩, fun k hk0 => ?_⟩
  · exact (relab_other (by decide) (by decide) hX5 k).2 ((relab_self (by decide) k).2 hk)
  · rw [hsz]
    rcases relab_ne hk0 with e | e
    · rcases relab_ne e with e | e
      · exact h.bnd k e
      · exact ho'.lt k e
    · obtain ⟨j, hj⟩ := List.mem_iff_getElem?.1 e
      have hjl : j < rs2.length := by rw [← hlen]; exact (List.getElem?_eq_some_iff.1 hj).1
      have hr := hrun j k _ hj (List.getElem?_eq_getElem hjl)
      refine ⟨?_, hr.lt⟩
      rcases hb k e with e2 | ⟨-, -, e2⟩
      · exact (h.bnd k (by rw [e2]; decide)).1
      · exact e2
  · have := h.mlab; have e' : mxV = g := e; rw [e', h.glab] at this; cases this
  · rcases relab_ne hk0 with e | e
    · rcases relab_ne e with e | e
      · exact .inl e
      · exact .inr (.inl e)
    · exact .inr (.inr e)
theorem passAt_done (h : PassAt F S base g gd lab b o Wt run Bs rs Q w B rv k lab' own' d' rs' MB MR Md Ms mv W) (hk : rs.length ≤ 3 * k) (hbase : base ≤ B) (hg : lab g ≠ 0) :
    ∃ lab2, SpRep F S base g gd lab2 own' false b ⟨d', run, MR⟩ Wt MB { o with rv := mv } (W.setCell ⟨g, 76, none⟩ mv) ∧ (∀ i, lab2 i ≠ 0 → lab i ≠ 0 ∨ B + 7 ≤ i) ∧ Frame (fun i => lab i ≠ 0) w (W.setCell ⟨g, 76, none⟩ mv) ∧ Q = (d', MR, 0) := by
  obtain ⟨lab2, r1, r2⟩ := h.rep.reruns0 (rs2 := MR) h.own (fun i e => .inr (h.away i e).2) h.len h.run (fun i hi => by
    rcases h.blk i hi with e | ⟨e1, e2, e3⟩
    · exact .inl (h.rep.blab i (List.mem_of_mem_take e))
    · exact .inr ⟨e2, e3, by omega⟩) h.nodup
  refine ⟨lab2, r1, fun i hi => ?_, h.fr.trans ((Frame.cell W ⟨g, 76, none⟩ mv).mono (fun i _ e => by rw [show i = g from e]; exact hg)), ?_⟩
  · rcases r2 i hi with e | e | e
    · rcases h.new i e with e | e
      · exact .inl e
      · exact .inr e
    · exact .inr (by have := (h.away i e).1; omega)
    · rcases h.blk i e with e | ⟨e1, -, -⟩
      · have h5 := h.rep.blab i (List.mem_of_mem_take e)
        rcases h.new i (by rw [h5]; decide) with e | e
        · exact .inl e
        · exact .inr (by omega)
      · exact .inr (by omega)
  · rw [h.is, List.drop_eq_nil_of_le hk]
    simp [chunks3, passGo]
end

end Go.Proofs.YtpgigpajpcianaaGreatDoor

namespace Go.Proofs.YtpgigpajpcianaaGreatDoor
open Go.RowKit Go.Shelf

theorem results_errno {fn : Func} {p : Tmp} (h : fn.results = #[.cell p 27]) (tmps : Array Value) (w : World) (g : Nat) (e : Int) (hp : tmps.getD p undef = .pointer (some ⟨g, 0, none⟩)) (hg : w.cell? ⟨g, 0, none⟩ = some (.int .i64 e)) :
    (results fn tmps).run Tryz.prog w = .ok (.int .i64 e) w := by
  have hp' : tmps[p]?.getD undef = .pointer (some ⟨g, 0, none⟩) := by simpa using hp
  have hd : (Tryz.prog.underlying 27).map (fun d => d.isRow) = some false := by kernel_rfl
  cases hu : Tryz.prog.underlying 27 with
  | none => rw [hu] at hd; cases hd
  | some d =>
    rw [hu] at hd
    have ha : (isAgg 27).run Tryz.prog w = .ok false w := by
      cases d <;> simp_all [isAgg, underlying, TypeDesc.isRow]
    simp [results, h, hp', asAddr, loadVar, ha, load, Result.andThen]
    first | (go_simp; done) | simp [go_sem, hg] | simp [Sem.run, hg] | (unfold Sem.run; simp [hg]; done)
theorem pass_left {F : Bool} {S : Script} {base g gd : Nat} {lab lab2 own' : Nat → Nat} {b : List UInt8} {o : Own78} {Wt : Lines} {x' : SpD} {Bs : List Nat} {w W1 W2 : World} {B : Nat} {p : Nat → Prop} (r1 : SpRep F S base g gd lab2 own' false b x' Wt Bs o W1) (hn : ∀ i, lab2 i ≠ 0 → lab i ≠ 0 ∨ B + 7 ≤ i) (hfr : Frame (fun i => lab i ≠ 0) w W1) (hlow : ∀ i, lab i ≠ 0 → i < B) (hB : w.heap.size = B) (hmx : mxV < B) (hf : Frame p W1 W2) (hp : ∀ i, p i → B ≤ i ∧ i < B + 7) : SpRep F S base g gd lab2 own' false b x' Wt Bs o W2 ∧ Within lab lab2 w W2 := by
  refine ⟨r1.frame hf (fun i hi => ⟨?_, fun e => by have := hp i hi; omega⟩), fun i hi => (hn i hi).imp_right (fun e => by omega), hfr.then hf (fun i h1 hi => by have := hp i hi; omega)⟩
  cases hx : lab2 i with
  | zero => rfl
  | succ n =>
    have h1 := hp i hi
    rcases hn i (by rw [hx]; exact Nat.succ_ne_zero _) with e | e
    · have := hlow i e; omega
    · omega
theorem heap_put (A : World) (l : Nat) (o : Obj) : Frame (fun i => i = l) A (A.putObj l o) := (Frame.of_grown (grownBy_putObj' A l o)).mono (fun i _ e => by injection e with e; exact e.symm)
end Go.Proofs.YtpgigpajpcianaaGreatDoor

namespace Go.Proofs.YtpgigpajpcianaaGreatDoor
open Go.RowKit Go.Shelf
attribute [local go_sem] Oper.semAt_some

theorem PassAt.boxes {F : Bool} {S : Script} {base g gd : Nat} {lab : Nat → Nat} {b : List UInt8} {o : Own78} {Wt run : Lines} {Bs : List Nat} {rs : List Rn} {Q : DSt × List Rn × Int} {w W W2 : World} {B : Nat} {rv : Value} {k : Nat} {lab' own' : Nat → Nat} {d' : DSt} {rs' : List Rn} {MB : List Nat} {MR : List Rn} {Md Ms : List Lines} {mv : Value}
    (h : PassAt F S base g gd lab b o Wt run Bs rs Q w B rv k lab' own' d' rs' MB MR Md Ms mv W) (hlow : ∀ i, lab i ≠ 0 → i < B) (k3 : Frame (fun i => own' i ≠ 0 ∨ i ∈ (Bs.drop (3 * k)).take 3) W W2) :
    (∀ (n : Nat) (ob : Obj), n ≤ 6 → W.heap[B + n]? = some ob → W2.heap[B + n]? = some ob) ∧ W2.ownsRow base 141 1 mv MB.length (MB.map ptrV) := by
  have hz : ∀ i, lab' i = 0 → ¬ (own' i ≠ 0 ∨ i ∈ (Bs.drop (3 * k)).take 3) := fun i hi e => by
    rcases e with e | e
    · exact e (h.rep.own0 (by rw [hi]; decide))
    · have := h.rep.blab i (List.mem_of_mem_drop (List.mem_of_mem_take e)); rw [hi] at this; cases this
  refine ⟨fun n ob hn hx => k3.heap hx (hz _ ?_), k3.owns h.own (fun i hi => hz i (h.away i hi).2)⟩
  cases hx : lab' (B + n) with
  | zero => rfl
  | succ n2 =>
    rcases h.new (B + n) (by rw [hx]; exact Nat.succ_ne_zero _) with e | e
    · have := hlow _ e; omega
    · omega
set_option maxRecDepth 100000 in
set_option maxHeartbeats 8000000 in
theorem pass_any {F : Bool} {S : Script} {base g gd : Nat} : PassDoes F S base g gd := by
  intro lab ownD b x Wt Bs o w Ms h hok hrs
  have hlen := h.len
  have hpos := List.length_pos_iff.2 hrs
  obtain ⟨pa, pc, hpv, hpl, hpc⟩ := h.ptrs
  obtain ⟨kb0, hkb0⟩ : ∃ k, Bs[0]? = some k := ⟨_, List.getElem?_eq_getElem (by omega)⟩
  obtain ⟨rb, ro, rfl, -, -⟩ := hpc 0 kb0 hkb0
  have c76 := h.row.c76
  rw [hpv] at c76
  have hg := h.row.lt
  have HRv := Lib.hid hpv
  have H := Lib.hid h
  have HOk := Lib.hid hok
  have HLen := Lib.hid hlen
  have HPos := Lib.hid hpos
  have HPl := Lib.hid hpl
  have HPc := Lib.hid hpc
  obtain ⟨q, hq⟩ : ∃ q, q = passGo S F x.d (chunks3 x.rs) := ⟨_, rfl⟩
  have HQ := Lib.hid hq
  rw [← hq]
  have c76a := (((Frame.refl (fun _ => False) w).alloc (.cells #[.pointer (some ⟨g, 0, none⟩)] 80)).alloc (.cells #[.int .i64 0] 27)).alloc (.cells #[.slice none 0 0] 119) |>.cell? c76 (fun e => e)
  clear h hok hrs hlen hpos hpl hpc hkb0 hpv hq
  refine (callsIn_wide (n := 3)).1 ?_
  refine callsIn_of_wp_marks Tryz.func111 rfl trivial ?_ rfl
  simp only [Tryz.ntmps111, List.size_toArray, List.length_cons, List.length_nil, Nat.reduceAdd, Nat.reduceSub, Array.replicate_succ, Array.replicate_zero, List.push_toArray, List.append_toArray, List.nil_append, List.cons_append]
  gi_wp2_with fail
  refine ⟨trivial, (callsIn_wide.2 (chunk_any _ _ _ _)).mono ?_⟩
  rintro e w1 ⟨rfl, rfl⟩
  gi_wp2_with fail
  have hstart := passAt_start (Q := q) H.out HOk.out HQ.out
  rw [HRv.out] at hstart
  have hlow : ∀ i, lab i ≠ 0 → i < w.heap.size := fun i hi => (H.out.bnd i hi).2
  have hmx : mxV < w.heap.size := H.out.max.lt
  have hbl : Bs.length ≤ 64 := by rw [HLen.out]; exact HOk.out.len
  refine range_chunk (s := w.heap.size + 5) (N := Bs.length) (cap := pc) (rb := rb) (ro := ro) (by omega) HPl.out (by simp) rfl rfl
    (fun k W => PassI F S base g gd lab b o Wt x.run Bs x.rs q w w.heap.size (.slice (some ⟨rb, ro, none⟩) Bs.length pc) k W)
    (fun c W => PassX F S base g gd lab b o Wt x.run Bs q w w.heap.size c W)
    (fun k => passI_stays rfl hlow hmx k) (fun c => passX_stays rfl hlow hmx c) ⟨_, _, _, _, _, _, _, _, _, hstart⟩ ?c1 ?c2
    (fun k => { tmps := #[Value.pointer (some ⟨g, 0, none⟩), Value.pointer (some ⟨w.heap.size, 0, none⟩), Value.pointer (some ⟨w.heap.size + 1, 0, none⟩), Value.pointer (some ⟨w.heap.size + 1 + 1, 0, none⟩), chunkV rb ro Bs.length k, undef, undef,
          Value.pointer (some ⟨g, 0, none⟩), Value.pointer (some ⟨g, 0, none⟩), Value.pointer (some ⟨g, 76, none⟩), Value.slice (some ⟨rb, ro, none⟩) Bs.length pc,
          Value.func (Fn.func 149) #[] #[Value.pointer (some ⟨w.heap.size + 1 + 1 + 1, 0, none⟩), Value.pointer (some ⟨w.heap.size + 1 + 1 + 1 + 1, 0, none⟩)],
          chunkV rb ro Bs.length k, undef, undef, undef, undef, undef, undef, undef, undef, undef, undef, undef, undef, undef, undef, undef, undef, undef], defers := [] }) ?assign ?body ?done ?stop
  case c1 =>
    rintro k W ⟨_, _, _, _, _, _, _, _, _, hP⟩
    rw [cell_of_row _ _ _ _ _ _ hP.b3]; rfl
  case c2 =>
    rintro k W ⟨_, _, _, _, _, _, _, _, _, hP⟩
    rw [cell_of_row _ _ _ _ _ _ hP.b4]; rfl
  case assign =>
    intro k W K hK
    gi_wp2
    exact hK
  case body =>
    rintro k W ⟨lab', own', d', rs', MB, MR, Md, Ms', mv, hP⟩ hk hs2
    have hrl : rs'.length = x.rs.length := by rw [← hP.rep.len]; exact HLen.out
    have hM := passAt_merge hP (by rw [← HLen.out]; exact hk) hrl HRv.out
    have c0 : W.cell? ⟨w.heap.size, 0, none⟩ = some (.pointer (some ⟨g, 0, none⟩)) := by rw [cell_of_row _ _ _ _ _ _ hP.b0]; rfl
    obtain ⟨q1, hq1⟩ : ∃ q1, q1 = mergeR S F d' ((x.rs.drop (3 * k)).take 3) := ⟨_, rfl⟩
    rw [← hq1] at hM
    have HM := Lib.hid hM
    have HP := Lib.hid hP
    have HHk := Lib.hid (show 3 * k < x.rs.length by rw [← HLen.out]; exact hk)
    have HS2 := Lib.hid hs2
    have HRl := Lib.hid hrl
    have HQ1 := Lib.hid hq1
    have HLow := Lib.hid hlow
    have HMx := Lib.hid hmx
    clear hM hP hk hs2 hrl hstart c76a hq1 hlow hmx
    unfold ptrV at HM
    gi_wp2_with fail
    refine ⟨trivial, (CallsIn.inRound _ (callsIn_wide.2 HM.out)).mono ?_⟩
    rintro e W2 ⟨pv, rs2, rfl, own2, k1, k2, k3, k4⟩
    obtain ⟨hbx, hown2⟩ := HP.out.boxes HLow.out k3
    have x1 := hbx 1 _ (by decide) HP.out.b1
    have x2 := hbx 2 _ (by decide) HP.out.b2
    have hkeep : ∀ i, i = w.heap.size + 5 ∨ i = w.heap.size + 5 + 1 → W2.heap[i]? = W.heap[i]? := fun i hi => by
      have hlt : i < W.heap.size := by have := HS2.out; omega
      have h9 := hbx (i - w.heap.size) _ (by omega) (by rw [show w.heap.size + (i - w.heap.size) = i by omega]; exact Array.getElem?_eq_getElem hlt)
      rw [show w.heap.size + (i - w.heap.size) = i by omega] at h9
      rw [h9, Array.getElem?_eq_getElem hlt]
    have HKeep := Lib.hid hkeep
    have HSz := Lib.hid k3.size
    have HX1 := Lib.hid x1
    have HX2 := Lib.hid x2
    have HK1 := Lib.hid k1
    have HK2 := Lib.hid k2
    have HK3 := Lib.hid k3
    have HK4 := Lib.hid k4
    have HOwn2 := Lib.hid hown2
    obtain ⟨E, hE⟩ : ∃ E, E = q1.2.2 := ⟨_, rfl⟩
    rw [← hE]
    have HE := Lib.hid hE
    clear hbx hkeep x1 x2 k1 k2 k3 k4 hown2 hE HM
    by_cases h0 : E = 0
    case neg =>
      have f1 : (E != 0) = true := by simpa using h0
      have c1 : W2.cell? ⟨w.heap.size + 1, 0, none⟩ = some (.int .i64 0) := by rw [cell_of_row _ _ _ _ _ _ HX1.out]; rfl
      have z1 : W2.frozen? ⟨w.heap.size + 1, 0, none⟩ = false := by have := HX1.out; simp [World.frozen?, this]
      have HE0 := Lib.hid h0
      clear h0
      gi_wp2_with fail
      refine ⟨⟨by have := HSz.out; simpa [World.setCell] using this, fun i hi => ?_⟩, ?_⟩
      · rw [Below.heap_setCell _ _ _ _ (by simp; omega)]
        exact HKeep.out i hi
      · refine passAt_out HP.out HS2.out HHk.out HRl.out HQ1.out (by rw [← HE.out]; exact HE0.out) HK1.out HK2.out HK3.out (Frame.cell W2 ⟨w.heap.size + 1, 0, none⟩ (.int .i64 E)) ?_ HLow.out rfl HMx.out
        rw [setCell_row HX1.out, ← HE.out]
        rfl
    case pos =>
      have f1 : (E != 0) = false := by simpa using h0
      have c2 : W2.cell? ⟨w.heap.size + 1 + 1, 0, none⟩ = some mv := by rw [cell_of_row _ _ _ _ _ _ HX2.out]; rfl
      obtain ⟨kr, r, rfl, m1, m2, m3, -, -, m4⟩ := HK4.out (by rw [← HE.out]; exact h0)
      have HE0 := Lib.hid h0
      obtain ⟨i0, hi, hz0, hz1, hz2⟩ := info_parts Tryz.infoRp
      have hbase : base ≤ W2.heap.size := by have := HP.out.rep.bnd g (by rw [HP.out.rep.glab]; decide); have := HSz.out; omega
      have hMB : MB.length ≤ 1000 := by have h1 := HP.out.cnt; have h2 := HHk.out; have h3 := HLen.out; omega
      have HMs := Lib.hid (show q1.2.1 = some r ∧ RunAt kr r W2 ∧ own2 kr = 0 ∧ (kr ∈ (Bs.drop (3 * k)).take 3 ∨ W.heap.size ≤ kr) from ⟨m1, m2, m3, m4⟩)
      clear h0 m1 m2 m3 m4
      unfold ptrV
      gi_wp2_with (gi_at_builtin; refine wpListIn_append_own_at _ rfl _ _ 119 rfl base 141 i0 (.pointer none) 1 8 (by kernel_rfl) hi hz0 hz1 hz2 rfl (by decide) mv MB.length (MB.map ptrV) rfl (HOwn2.out.alloc _) ⟨W2.heap.size, 0, none⟩ 1 1 [ptrV kr] rfl rfl (cell_one_new _ _ _) (by simp [Value.oneCell', ptrV]) (by unfold maxLen; omega) (by omega) (by simp; omega) ?_; intro v' w4 hown4 hgrow _ hv; obtain ⟨va, vc, rfl⟩ := owns_slice hown4; have hfG : Frame (fun i => mv.ownBlock = some i) W2 w4 := Frame.ofAlloc (Frame.of_grown hgrow); have h2b := hfG.heap HX2.out (fun e => by have := (HP.out.away _ e).1; omega); have c2' : w4.cell? ⟨w.heap.size + 1 + 1, 0, none⟩ = some mv := (by rw [cell_of_row _ _ _ _ _ _ h2b]; rfl); have z2' : w4.frozen? ⟨w.heap.size + 1 + 1, 0, none⟩ = false := (by simp [World.frozen?, h2b]); have HH2 := Lib.hid h2b; have HFG := Lib.hid hfG; have HOwn4 := Lib.hid hown4; have HV := Lib.hid hv; clear h2b hfG hown4 hgrow hv)
      have hc5 := Frame.cell w4 ⟨w.heap.size + 2, 0, none⟩ (.slice va (MB.length + 1) vc)
      have hsz5 := HFG.out.size
      refine ⟨⟨by have := HSz.out; simp [World.setCell]; omega, fun i hi => ?_⟩, ?_⟩
      · have h9 := HKeep.out i hi
        have hlt : i < W2.heap.size := by have := HS2.out; have := HSz.out; omega
        rw [← h9, Below.heap_setCell _ _ _ _ (by simp; omega), HFG.out.block i hlt (fun e => by have := (HP.out.away _ e).1; omega)]
      · obtain ⟨m1, m2, m3, m4⟩ := HMs.out
        refine passAt_step (v' := .slice va (MB.length + 1) vc) HP.out HS2.out HHk.out HRl.out HQ1.out (by rw [← HE.out]; exact HE0.out) HK1.out HK2.out HK3.out m1 m2 m3 m4 ((HFG.out.mono (fun _ _ e => .inl e)).trans (hc5.mono (fun _ _ e => .inr e))) ?_ ?_ ?_ HLow.out rfl HMx.out
        · exact (setCell_row HH2.out 0 _)
        · refine hc5.owns (by simpa using HOwn4.out) (fun i hi e => ?_)
          have e' : i = w.heap.size + 2 := e
          rcases HV.out with e2 | e2
          · rw [e2] at hi; have := (HP.out.away _ hi).1; omega
          · rw [e2] at hi; injection hi with hi; rw [World.size_alloc] at hi; have := HSz.out; have := HS2.out; omega
        · rcases HV.out with e2 | e2
          · exact .inl e2
          · exact .inr ⟨_, e2, by rw [World.size_alloc]; omega⟩
  case done =>
    rintro k W hk ⟨lab', own', d', rs', MB, MR, Md, Ms', mv, hP⟩ hK
    have c0 : W.cell? ⟨w.heap.size, 0, none⟩ = some (.pointer (some ⟨g, 0, none⟩)) := by rw [cell_of_row _ _ _ _ _ _ hP.b0]; rfl
    have c2 : W.cell? ⟨w.heap.size + 1 + 1, 0, none⟩ = some mv := by rw [cell_of_row _ _ _ _ _ _ hP.b2]; rfl
    obtain ⟨ma, mc, hmv⟩ := owns_slice hP.own
    obtain ⟨lab2, r1, r2, r4, r3⟩ := passAt_done hP (by rw [← HLen.out]; exact hk) (by have := H.out.bnd g (by rw [H.out.glab]; decide); omega) (by rw [H.out.glab]; decide)
    have c76b := hP.rep.row.c76
    have z76b := hP.rep.row.froz 76
    have hb1 := hP.b1
    subst hmv
    have hfg := Frame.cell W ⟨g, 76, none⟩ (.slice ma MB.length mc)
    have hb1' := hfg.heap hb1 (fun e => by have e' : w.heap.size + 1 = g := e; omega)
    have c1' : (W.setCell ⟨g, 76, none⟩ (.slice ma MB.length mc)).cell? ⟨w.heap.size + 1, 0, none⟩ = some (.int .i64 0) := by rw [cell_of_row _ _ _ _ _ _ hb1']; rfl
    have z1' : (W.setCell ⟨g, 76, none⟩ (.slice ma MB.length mc)).frozen? ⟨w.heap.size + 1, 0, none⟩ = false := by simp [World.frozen?, hb1']
    have hK1 := hfg.heap hK (fun e => by have e' : w.heap.size + 5 = g := e; omega)
    have hf1 := Frame.cell (W.setCell ⟨g, 76, none⟩ (.slice ma MB.length mc)) ⟨w.heap.size + 1, 0, none⟩ (.int .i64 0)
    have hK2 := hf1.heap hK1 (fun e => by have e' : w.heap.size + 5 = w.heap.size + 1 := e; omega)
    have HB1 := Lib.hid hb1'
    have HR1 := Lib.hid r1
    have HR2 := Lib.hid r2
    have HR3 := Lib.hid r3
    have HR4 := Lib.hid r4
    have HK2 := Lib.hid hK2
    clear hb1 hb1' hfg hK hK1 r1 r2 r3 r4 hK2 hP hstart c76 c76a
    gi_wp2_with fail
    refine ⟨by simp, .inl ⟨_, _, rfl, run_takeDeferred HK2.out, ?_⟩⟩
    have hp := heap_put ((W.setCell ⟨g, 76, none⟩ (.slice ma MB.length mc)).setCell ⟨w.heap.size + 1, 0, none⟩ (.int .i64 0)) (w.heap.size + 5)
    refine ⟨_, results_errno rfl _ _ (w.heap.size + 1) 0 rfl ((hp _).cell? (v := .int .i64 0) (x := ⟨w.heap.size + 1, 0, none⟩) (by rw [cell_of_row _ _ _ _ _ _ (setCell_row HB1.out 0 _)]; rfl) (fun e => by have e' : w.heap.size + 1 = w.heap.size + 5 := e; omega)), ?_⟩
    obtain ⟨y1, y2⟩ := pass_left HR1.out HR2.out HR4.out hlow rfl hmx ((hf1.mono (q := fun i => i = w.heap.size + 1 ∨ i = w.heap.size + 5) (fun _ _ e => .inl e)).trans ((hp _).mono (fun _ _ e => .inr e))) (fun i hi => by omega)
    rw [HR3.out]
    exact ⟨rfl, _, lab2, _, _, _, y1, y2, ⟨rfl, rfl, rfl, rfl⟩, rfl, fun _ => rfl⟩
  case stop =>
    rintro c W ⟨rfl, lab', own', rs', hP⟩ hK
    have HPo := Lib.hid hP
    have HKk := Lib.hid hK
    clear hP hK hstart c76 c76a
    gi_wp2_with fail
    refine ⟨by simp, .inl ⟨_, _, rfl, run_takeDeferred HKk.out, ?_⟩⟩
    have hp := heap_put W (w.heap.size + 5)
    refine ⟨_, results_errno rfl _ _ (w.heap.size + 1) q.2.2 rfl ((hp _).cell? (v := .int .i64 q.2.2) (x := ⟨w.heap.size + 1, 0, none⟩) (by rw [cell_of_row _ _ _ _ _ _ HPo.out.b1]; rfl) (fun e => by have e' : w.heap.size + 1 = w.heap.size + 5 := e; omega)), ?_⟩
    obtain ⟨y1, y2⟩ := pass_left HPo.out.rep HPo.out.new HPo.out.fr hlow rfl hmx (hp _) (fun i hi => by omega)
    exact ⟨rfl, _, lab', _, _, _, y1, y2, .refl o, rfl, fun e => absurd e HPo.out.e⟩
theorem beginMerge_all {F : Bool} {S : Script} {base g gd : Nat} : BeginDoes F S base g gd := beginMerge_any pass_any
end Go.Proofs.YtpgigpajpcianaaGreatDoor

namespace Go.Proofs.YtpgigpajpcianaaGreatDoor
open Go.RowKit

set_option maxRecDepth 100000 in
set_option maxHeartbeats 2000000 in
theorem spQueue_any {g : Nat} {w : World} (p : Int) :
    Calls Tryz.prog 60 #[.pointer (some ⟨g, 0, none⟩), .int .i64 p] w (Says w (.pointer (some ⟨g, 5, none⟩))) := by
  go_enter Tryz.func60, Tryz.ntmps60
  go_wp2_with fail
  go_ret
  exact ⟨rfl, rfl⟩
theorem spQueue_enters : Enters 60 := enters_of Tryz.func60 (by kernel_rfl) (by kernel_rfl)
theorem spTake_enters : Enters 61 := enters_of Tryz.func61 (by kernel_rfl) (by kernel_rfl)
theorem spTellKept_enters : Enters 109 := enters_of Tryz.func109 (by kernel_rfl) (by kernel_rfl)
theorem spTellLeast_enters : Enters 112 := enters_of Tryz.func112 (by kernel_rfl) (by kernel_rfl)
end Go.Proofs.YtpgigpajpcianaaGreatDoor

namespace Go.Proofs.YtpgigpajpcianaaGreatDoor
open Go.RowKit

theorem finSp_takes (S : Script) (F : Bool) (s : SpS) : finSp S F s = takesOut S F ⟨s.need, [], true, s.kept, s.x, s.raw⟩ (if s.b = [] then [] else [s.b]) := by
  unfold finSp takesOut
  rfl
theorem feedSp_takes (S : Script) (F : Bool) (s : SpS) (x : List UInt8) {L : Lines} {d : List UInt8} (hc : cutL s.b x = (L, some d)) (hov : s.ov = false) : feedSp S F s x = takesOut S F ⟨s.need, d, s.ov, s.kept, s.x, s.raw⟩ L := by
  unfold feedSp takesOut
  rw [hc]
  simp only [hov]
  rfl
end Go.Proofs.YtpgigpajpcianaaGreatDoor

namespace Go.Proofs.YtpgigpajpcianaaGreatDoor
open Go.RowKit

section
variable {F : Bool} {S : Script} {base g gd : Nat} {lab ownD : Nat → Nat} {Bs : List Nat} {o : Own78} {w : World} {s : SpS} {q : SpS × Outs × Int}
set_option maxRecDepth 100000 in
set_option maxHeartbeats 4000000 in
theorem spMore_kept (h : SpSt F S base g gd lab ownD s [] Bs o w) (hn : s.need = -2) (hk : s.kept = true) (hT : Calls Tryz.prog 109 #[.pointer (some ⟨g, 0, none⟩)] w (SpGives F S base g gd lab q w)) :
    Calls Tryz.prog 52 #[.pointer (some ⟨g, 0, none⟩)] w (SpGives F S base g gd lab q w) := by
  have c0 := h.rep.row.c0
  rw [h.nd, hn] at c0
  have c1 := h.rep.row.c1
  rw [h.pc hn, hk] at c1
  unfold pieceV at c1
  simp only [if_true] at c1
  have hent := spTellKept_enters
  unfold Enters at hent
  have HT := Lib.hid hT
  clear h hn hk hT
  go_enter Tryz.func52, Tryz.ntmps52
  go_wp2_with fail
  clear hent
  refine HT.out.mono ?_
  rintro e w1 ⟨v, lab', ownD', Bs', o', rfl, ho, h1, h2⟩
  have HO := Lib.hid ho
  have H1 := Lib.hid h1
  have H2 := Lib.hid h2
  clear ho h1 h2 c0 c1
  go_wp2_with fail
  go_ret2
  exact ⟨v, lab', ownD', Bs', o', rfl, HO.out, H1.out, H2.out⟩
set_option maxRecDepth 100000 in
set_option maxHeartbeats 4000000 in
theorem spMore_least (h : SpSt F S base g gd lab ownD s [] Bs o w) (hn : s.need = -2) (hk : s.kept = false) (hT : Calls Tryz.prog 112 #[.pointer (some ⟨g, 0, none⟩)] w (SpGives F S base g gd lab q w)) :
    Calls Tryz.prog 52 #[.pointer (some ⟨g, 0, none⟩)] w (SpGives F S base g gd lab q w) := by
  have c0 := h.rep.row.c0
  rw [h.nd, hn] at c0
  have c1 := h.rep.row.c1
  rw [h.pc hn, hk] at c1
  unfold pieceV at c1
  simp only [Bool.false_eq_true, if_false] at c1
  have hent := spTellLeast_enters
  unfold Enters at hent
  have HT := Lib.hid hT
  clear h hn hk hT
  go_enter Tryz.func52, Tryz.ntmps52
  go_wp2_with fail
  clear hent
  refine HT.out.mono ?_
  rintro e w1 ⟨v, lab', ownD', Bs', o', rfl, ho, h1, h2⟩
  have HO := Lib.hid ho
  have H1 := Lib.hid h1
  have H2 := Lib.hid h2
  clear ho h1 h2 c0 c1
  go_wp2_with fail
  go_ret2
  exact ⟨v, lab', ownD', Bs', o', rfl, HO.out, H1.out, H2.out⟩
end

end Go.Proofs.YtpgigpajpcianaaGreatDoor
