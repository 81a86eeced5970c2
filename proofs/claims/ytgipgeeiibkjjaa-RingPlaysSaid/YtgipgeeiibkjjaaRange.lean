/- A loop over a ring's chunks: what its owner owes for one round is what it gets for all of them. A round is handed a slice that was made for it and holds the chunk. -/
import Derived.Test.YtgipgeeiibkjjaaIter
namespace Go.Proofs.Ytgipgeeiibkjjaa
open Go.RowKit Go.Shelf
attribute [local go_sem] Oper.semAt_some

/-- It stays true where blocks are added, and where a block from s on that is no cells is turned. -/
def Stays (s : Nat) (I : World → Prop) : Prop :=
  ∀ A B row, I A → A.grownBy B row → (∀ r, row = some r → s ≤ r ∧ ∃ o : Obj, A.heap[r]? = some o ∧ o.isCells = false) → I B

theorem Stays.grow {s : Nat} {I : World → Prop} (h : Stays s I) {A B : World} (hA : I A) (hb : Below A.heap.size A B) : I B :=
  h A B none hA ⟨hb.os, hb.tape, hb.output, hb.size, fun k hk _ => hb.block k hk⟩ (fun _ e => by cases e)
theorem Stays.put {s : Nat} {I : World → Prop} (h : Stays s I) {A : World} (hA : I A) {l : Nat} {o : Obj} (hl : A.heap[l]? = some o) (hs : s ≤ l) (ho : o.isCells = false) (o' : Obj) : I (A.putObj l o') :=
  h A _ (some l) hA (grownBy_putObj' A l o') (fun r e => by cases e; exact ⟨hs, o, hl, ho⟩)
theorem Stays.and {s : Nat} {I J : World → Prop} (h : Stays s I) (k : Stays s J) : Stays s (fun W => I W ∧ J W) :=
  fun A B row hs hg hr => ⟨h A B row hs.1 hg hr, k A B row hs.2 hg hr⟩
theorem stays_pure (s : Nat) (p : Prop) : Stays s (fun _ => p) := fun _ _ _ hs _ _ => hs
theorem stays_block (s g : Nat) (c : Array Value) (t : TypeId) (fr : Nat × Nat) : Stays s (fun W => W.heap[g]? = some (.cells c t fr)) := fun A B row hs hg hr =>
  (hg.block g (Array.getElem?_eq_some_iff.1 hs).1 (fun e => by
    obtain ⟨_, o, ho, hc⟩ := hr g e.symm
    rw [hs] at ho
    cases ho
    simp [Obj.isCells] at hc)).trans hs
theorem stays_below (s n : Nat) (w : World) (h : n ≤ s) (hn : n ≤ w.heap.size) : Stays s (fun W => Below n w W) := fun _ _ _ hs hg hr =>
  hs.grown hg (Nat.le_trans hn hs.size) (fun k e => Nat.le_trans h (hr k e).1)
theorem stays_owns (s base : Nat) (e : TypeId) (size : Nat) (v : Value) (n : Nat) (xs : List Value) : Stays s (fun W => W.ownsRow base e size v n xs) := fun A B row hs hg hr => by
  obtain ⟨h1, h2⟩ := hs
  refine ⟨h1, ?_⟩
  rcases h2 with h2 | ⟨g, cap, cur, h3, h4, h5, h6⟩
  · exact .inl h2
  · exact .inr ⟨g, cap, cur, h3, h4, stays_block s g cur e (0, 0) A B row h5 hg hr, h6⟩
theorem stays_ex {α : Type} {s : Nat} {I : α → World → Prop} (h : ∀ x, Stays s (I x)) : Stays s (fun W => ∃ x, I x W) := fun A B row hs hg hr => by
  obtain ⟨x, hx⟩ := hs
  exact ⟨x, h x A B row hx hg hr⟩

/-- How a round may be left: it goes on; or by a jump. -/
def roundEnd (s : Nat) (Inext : World → Prop) (Ix : Code → World → Prop) (W : World) : Exit → Act → World → Prop
  | .normal, _, W' => KeepsFrom s W W' ∧ Inext W'
  | .ret, _, W' => KeepsFrom s W W' ∧ Ix .ret W'
  | .exit id, _, W' => KeepsFrom s W W' ∧ Ix (.exit id) W'
  | .goto t, _, W' => KeepsFrom s W W' ∧ Ix (.goto t) W'
  | .panic _, _, _ => False
  | .outgrown, _, _ => False

/-- One round, out of its body: the record of the loop is ready before, and behind it. -/
theorem round_of_body {s l n : Nat} {rec : Loop} {args : Array Value} {W : World} {assign body : Code} {a1 : Act} {I1 Inext : World → Prop} {Ix : Code → World → Prop}
    (hI1 : Stays s I1) (hIn : Stays s Inext) (hIx : ∀ c, Stays s (Ix c)) (hi : I1 W)
    (hr : rec.state = .ready) (ha : rec.assign = assign) (hb : rec.body = body) (hps : args.size = rec.params.size)
    (hl : W.heap[l]? = some (.loop rec)) (hsl : s ≤ l) (hD : W.heap[rec.defers]? = some (.deferred (some []))) (hsD : s ≤ rec.defers)
    (hassign : ∀ (K : Act → World → Prop), K a1 W → assign.wpIn (Fence.wide.inRound l) n Try.prog (Exit.then K (fun _ _ _ => False)) { tmps := (rec.params.zip args).foldl (fun t (p, v) => t.setIfInBounds p v) rec.tmps, defers := [] } W)
    (hbody : ∀ W1, I1 W1 → body.wpIn (Fence.wide.inRound l) n Try.prog (roundEnd s Inext Ix W1) a1 W1) :
    YieldAt Fence.wide n Try.prog l args W fun e W' =>
      (e = .returned (.bool true) ∧ Inext W' ∧ W'.heap[l]? = some (.loop { rec with state := .ready, pending := none }) ∧ W'.heap[rec.defers]? = some (.deferred (some []))) ∨
      (e = .returned (.bool false) ∧ ∃ c, Ix c W' ∧ W'.heap[l]? = some (.loop { rec with state := .done, pending := some c }) ∧ W'.heap[rec.defers]? = some (.deferred (some []))) := by
  subst ha hb
  have hne : rec.defers ≠ l := fun e => by rw [e, hl] at hD; cases hD
  refine ⟨rec.fn, _, rec.assign, rec.body, run_yield hl hps, roundIn_of_wpIn trivial (hassign _ ⟨_, run_beginRound hl hr, ?_⟩)⟩
  obtain ⟨W1, hW1⟩ : ∃ W1, W1 = W.putObj l (.loop { rec with state := .busy }) := ⟨_, rfl⟩
  have hl1 : W1.heap[l]? = some (.loop { rec with state := .busy }) := by rw [hW1]; exact World.putObj_heap_same (Array.getElem?_eq_some_iff.1 hl).1
  have hD1 : W1.heap[rec.defers]? = some (.deferred (some [])) := by rw [hW1]; exact (World.putObj_heap_other hne).trans hD
  have hi1 : I1 W1 := by rw [hW1]; exact hI1.put hi hl hsl rfl _
  rw [← hW1]
  -- what the end of a round does to the record
  have done : ∀ (jump : Option Code) (W3 : World), KeepsFrom s W1 W3 → ∃ W4, (Instr.endRound l jump).run Try.prog W3 = .ok (.bool jump.isNone) W4 ∧
      (∀ I : World → Prop, Stays s I → I W3 → I W4) ∧ W4.heap[l]? = some (.loop { rec with state := if jump.isNone then .ready else .done, pending := jump }) ∧ W4.heap[rec.defers]? = some (.deferred (some [])) := by
    intro jump W3 hk
    have hl3 := hk.same _ _ hsl hl1 rfl
    have hD3 := hk.same _ _ hsD hD1 rfl
    exact ⟨_, run_endRound jump hl3, fun I hI hi3 => hI.put hi3 hl3 hsl rfl _, World.putObj_heap_same (Array.getElem?_eq_some_iff.1 hl3).1, (World.putObj_heap_other hne).trans hD3⟩
  refine wpIn_mono (hbody W1 hi1) ?_
  rintro e a3 W3 hp
  cases e with
  | normal =>
    obtain ⟨W4, hrun, hst, h4, h5⟩ := done none W3 hp.1
    exact ⟨_, W4, hrun, .inl ⟨rfl, hst _ hIn hp.2, h4, h5⟩⟩
  | ret =>
    obtain ⟨W4, hrun, hst, h4, h5⟩ := done (some .ret) W3 hp.1
    exact ⟨_, W4, hrun, .inr ⟨rfl, .ret, hst _ (hIx _) hp.2, h4, h5⟩⟩
  | exit id =>
    obtain ⟨W4, hrun, hst, h4, h5⟩ := done (some (.exit id)) W3 hp.1
    exact ⟨_, W4, hrun, .inr ⟨rfl, .exit id, hst _ (hIx _) hp.2, h4, h5⟩⟩
  | goto t =>
    obtain ⟨W4, hrun, hst, h4, h5⟩ := done (some (.goto t)) W3 hp.1
    exact ⟨_, W4, hrun, .inr ⟨rfl, .goto t, hst _ (hIx _) hp.2, h4, h5⟩⟩
  | panic ch => exact hp.elim
  | outgrown => exact hp.elim

/-- THE LOOP. -/
theorem range_ring {n c Br : Nat} {L : Chunks} (hG : Good c L) {g : Operand} {ps : Array Tmp} {assign body : Code} {Q : Exit → Act → World → Prop} {a : Act} {w : World}
    (hg : a.eval g = .func (.func 28) #[] #[.pointer (some ⟨Br, 0, none⟩)]) (hps : ps.size = 2)
    (I : Nat → World → Prop) (Ix : Code → World → Prop) (hI : ∀ k, Stays w.heap.size (I k)) (hIx : ∀ x, Stays w.heap.size (Ix x)) (h0 : I 0 w)
    (hR : ∀ k W, I k W → W.heap[Br]? = some (.cells (ringA c L) 30 (0, 0)))
    (a₁ : Nat → Value → Act)
    (hassign : ∀ (l k : Nat) (v : Value) (W : World) (K : Act → World → Prop), K (a₁ k v) W →
      assign.wpIn (Fence.wide.inRound l) (n - 1 - 1) Try.prog (Exit.then K (fun _ _ _ => False)) { tmps := (ps.zip #[.int .i64 k, v]).foldl (fun t (p, v) => t.setIfInBounds p v) a.tmps, defers := [] } W)
    (hbody : ∀ (l k : Nat) (b : List UInt8) (v : Value) (W : World), L[k]? = some b → I k W → W.ownsRow w.heap.size 5 1 v b.length (bytesL b) →
      body.wpIn (Fence.wide.inRound l) (n - 1 - 1) Try.prog (roundEnd w.heap.size (I (k + 1)) Ix W) (a₁ k v) W)
    (hdone : ∀ (D : Nat) (W : World), w.heap.size ≤ D → I L.length W → W.heap[D]? = some (.deferred (some [])) → Q .normal { a with defers := { target := .collected D, args := #[] } :: a.defers } W)
    (hstop : ∀ (D : Nat) (x : Code) (W : World), w.heap.size ≤ D → Ix x W → W.heap[D]? = some (.deferred (some [])) → x.wpIn Fence.wide n Try.prog Q { a with defers := { target := .collected D, args := #[] } :: a.defers } W) :
    (Code.rangeFunc g ps assign body).wpIn Fence.wide n Try.prog Q a w := by
  refine wpIn_rangeFunc fun fn _ => ?_
  obtain ⟨s, hs⟩ : ∃ s, s = w.heap.size := ⟨_, rfl⟩
  obtain ⟨rec, hrec⟩ : ∃ rec : Loop, rec = { state := .ready, pending := none, fn, tmps := a.tmps, params := ps, assign, body, defers := s } := ⟨_, rfl⟩
  obtain ⟨W1, hW1⟩ : ∃ W1, W1 = (w.alloc (.deferred (some []))).alloc (.loop rec) := ⟨_, rfl⟩
  have hb1 : Below w.heap.size w W1 := by rw [hW1]; exact ((Below.refl _ _).alloc (Nat.le_refl _) _).alloc (by simp) _
  have hl1 : W1.heap[s + 1]? = some (.loop rec) := by rw [hW1, hs]; exact heap_alloc2_new w _ _
  have hD1 : W1.heap[s]? = some (.deferred (some [])) := by rw [hW1, hs]; exact heap_alloc2_old w _ _
  have hsz : W1.heap.size = s + 2 := by rw [hW1, hs]; simp
  refine ⟨s + 1, [{ target := .collected s, args := #[] }], W1, { target := .fn (.func 28) #[.pointer (some ⟨Br, 0, none⟩)], args := #[.func (.yield (s + 1)) #[] #[]] }, W1, 28,
    #[.func (.yield (s + 1)) #[] #[], .pointer (some ⟨Br, 0, none⟩)], W1, ?_, ?_, fun _ _ => trivial, ?_, (fun h => by cases h), ?_⟩
  · rw [hW1, hrec, hs]; exact run_enterLoop_outer _ _ _ _ _
  · simp only [resolve, hg]; simp [go_sem]
  · simp [invoke, go_sem]
  rw [← hs] at hI hIx hb1 hbody hdone hstop
  have stay2 : ∀ k, Stays s (fun W => I k W ∧ s + 2 ≤ W.heap.size) := fun k => (hI k).and (fun A B row hA hgr _ => Nat.le_trans hA hgr.size)
  refine (all1_in (n - 1) (s + 1) Br c s L hG
    (fun k W => (I k W ∧ s + 2 ≤ W.heap.size) ∧ W.heap[s + 1]? = some (.loop rec) ∧ W.heap[s]? = some (.deferred (some [])))
    (fun W => ∃ x, Ix x W ∧ W.heap[s + 1]? = some (.loop { rec with state := .done, pending := some x }) ∧ W.heap[s]? = some (.deferred (some [])))
    (fun k A B hA hb => ⟨(stay2 k).grow hA.1 hb, (hb.block _ (by omega)).trans hA.2.1, (hb.block _ (by omega)).trans hA.2.2⟩)
    (fun k W hW => hR k W hW.1.1) (fun k W hW => by omega) ?_ W1 ⟨⟨(hI 0).grow h0 (hs ▸ hb1), by omega⟩, hl1, hD1⟩).mono ?_
  · rintro k b v W ⟨hi, hl, hD⟩ hk ho
    have hdef : rec.defers = s := by rw [hrec]
    have := round_of_body (s := s) (l := s + 1) (n := n - 1 - 1) (rec := rec) (args := #[.int .i64 k, v]) (W := W) (assign := assign) (body := body) (a1 := a₁ k v)
      (I1 := fun W => (I k W ∧ s + 2 ≤ W.heap.size) ∧ W.ownsRow s 5 1 v b.length (bytesL b)) (Inext := fun W => I (k + 1) W ∧ s + 2 ≤ W.heap.size) (Ix := Ix)
      ((stay2 k).and (stays_owns s s 5 1 v _ _)) (stay2 (k + 1)) hIx ⟨hi, ho⟩ (by rw [hrec]) (by rw [hrec]) (by rw [hrec]) (by rw [hrec]; exact hps.symm) hl (by omega) (by rw [hdef]; exact hD) (by omega)
      (fun K hK => by rw [hrec]; exact hassign (s + 1) k v W K hK)
      (fun W1' h1 => wpIn_mono (hbody (s + 1) k b v W1' hk h1.1.1 h1.2) (fun e a3 W3 hp => by
        cases e with
        | normal => exact ⟨hp.1, hp.2, Nat.le_trans h1.1.2 hp.1.size⟩
        | ret => exact hp
        | exit id => exact hp
        | goto t => exact hp
        | panic ch => exact hp
        | outgrown => exact hp))
    have hsame : ({ rec with state := .ready, pending := none } : Loop) = rec := by rw [hrec]
    refine YieldAt.mono this ?_
    rintro e W' (⟨rfl, h1, h2, h3⟩ | ⟨rfl, x, h1, h2, h3⟩)
    · rw [hsame] at h2
      rw [hdef] at h3
      exact .inl ⟨rfl, h1, h2, h3⟩
    · rw [hdef] at h3
      exact .inr ⟨rfl, x, h1, h2, h3⟩
  · rintro e W2 ⟨⟨v, rfl⟩, (⟨hi, hl, hD⟩ | ⟨x, hi, hl, hD⟩)⟩
    · have hrun := run_endLoop (P := Try.prog) hl (by rw [hrec]; simp)
      rw [show rec.pending = none by rw [hrec]] at hrun
      exact ⟨none, _, hrun, hdone s _ (Nat.le_refl _) ((hI _).put hi.1 hl (by omega) rfl _) ((World.putObj_heap_other (by omega)).trans hD)⟩
    · have hrun := run_endLoop (P := Try.prog) hl (by simp)
      exact ⟨some x, _, hrun, hstop s x _ (Nat.le_refl _) ((hIx _).put hi hl (by omega) rfl _) ((World.putObj_heap_other (by omega)).trans hD)⟩

end Go.Proofs.Ytgipgeeiibkjjaa
