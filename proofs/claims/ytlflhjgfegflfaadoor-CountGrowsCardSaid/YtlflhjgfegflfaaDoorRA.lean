/- A region that only reads, whose calls only read: one walk in the text's order. -/
import Derived.StillTactics
import Derived.Test.YtlflhjgfegflfaaDoorLB
import Derived.Deep.RegionHeld3
namespace Go.Proofs.YtlflhjgfegflfaaDoor

section
variable {P : Program} {ops : Array Oper} {w : World}
/-- What is left of such a walk; no step of Lean's own looks into it. -/
structure StillG (P : Program) (ops : Array Oper) (w : World) (Q : Act → Prop) (l : List Oper) (a : Act) : Prop where
  out : wpStill P ops w Q l a
/-- What follows an operation. -/
structure StillK (P : Program) (ops : Array Oper) (w : World) (Q : Act → Prop) (l : List Oper) (K : Act → Prop) : Prop where
  out : ∀ a, StillG P ops w Q l a → K a
theorem stillG_step {Q : Act → Prop} {a : Act} {o : Oper} {rest : List Oper}
    (h : ∀ K : Act → Prop, StillK P ops w Q rest K → if Region.wanted o (yielded ops a.tmps) then o.still P a w K else K (a.put o.dst undef)) : StillG P ops w Q (o :: rest) a :=
  ⟨wpStill_step fun K hK => h K ⟨fun a ha => hK a ha.out⟩⟩
theorem stillG_nil {Q : Act → Prop} {a : Act} (h : Q a) : StillG P ops w Q [] a := ⟨wpStill_nil h⟩
theorem region_stillG {id : Nat} {Q : Exit → Act → World → Prop} {a : Act} {l : List Oper} (hm : P.follows .mixedOrders = true) (hB : Region.lexB .any l.toArray = true)
    (h : StillG P l.toArray w.drew (fun a' => Q .normal a' w.drew) l a) : (Code.region id l.toArray true).wp P Q a w := wp_region_still_lit hm hB h.out
end

end Go.Proofs.YtlflhjgfegflfaaDoor

namespace Go.Proofs.YtlflhjgfegflfaaDoor

section
variable {P : Program} {md : Region.Mode} {ops : Array Oper} {Q : Exit → Act → World → Prop} {S : World → Prop}
structure AnyG (P : Program) (md : Region.Mode) (ops : Array Oper) (Q : Exit → Act → World → Prop) (S : World → Prop) (fuel : Nat) (listed : Array Bool) (a : Act) (w : World) : Prop where
  out : wpAnyH P md ops (NoPanic Q) S fuel listed a w
theorem anyG_start {id : Nat} {a : Act} {w : World} (hm : P.follows .mixedOrders = true) (h : AnyG P .any ops Q S ops.size (Array.replicate ops.size false) a w.drew) : (Code.region id ops true).wp P Q a w :=
  wp_region_noPanic (wp_region_held hm h.out)
theorem anyG_take {i : Nat} {oi : Oper} {fuel : Nat} {listed : Array Bool} {a : Act} {w : World} (d : Tmp) (v : Value) (hi : ops[i]? = some oi) (hd : oi.dst = some d)
    (hs : Region.noSelect ops = true) (hf : Region.free md ops listed i = true) (hr : (Region.ready md ops listed).contains i = true)
    (hw : Region.wanted oi (yielded ops a.tmps) = true) (hrun : ∀ W, S W → (execOp a.eval oi).run P W = .ok (.value v) W) (hS : S w)
    (h : AnyG P md ops Q S fuel (listed.setIfInBounds i true) (a.put (some d) v) w) : AnyG P md ops Q S (fuel + 1) listed a w := by
  rw [← hd] at h
  exact ⟨wpAnyH_take hi hs hf hr (fun _ _ _ h => h) (.inl ⟨hw, hrun⟩) hS h.out⟩
theorem anyG_skip {i : Nat} {oi : Oper} {fuel : Nat} {listed : Array Bool} {a : Act} {w : World} (d : Tmp) (hi : ops[i]? = some oi) (hd : oi.dst = some d)
    (hs : Region.noSelect ops = true) (hf : Region.free md ops listed i = true) (hr : (Region.ready md ops listed).contains i = true)
    (hw : Region.wanted oi (yielded ops a.tmps) = false) (hS : S w)
    (h : AnyG P md ops Q S fuel (listed.setIfInBounds i true) (a.put (some d) undef) w) : AnyG P md ops Q S (fuel + 1) listed a w := by
  rw [← hd] at h
  exact ⟨wpAnyH_take hi hs hf hr (fun _ _ _ h => h) (.inr ⟨hw, rfl⟩) hS h.out⟩
theorem anyG_one {i : Nat} {oi : Oper} {fuel : Nat} {listed : Array Bool} {a : Act} {w : World} (hi : ops[i]? = some oi)
    (hr : Region.ready md ops listed = [i]) (hw : Region.wanted oi (yielded ops a.tmps) = true)
    (h : oi.wp P a w (fun a' w' => S w' ∧ AnyG P md ops Q S fuel (listed.setIfInBounds i true) a' w') (NoPanic Q)) : AnyG P md ops Q S (fuel + 1) listed a w := by
  refine ⟨wpAnyH_all hr (by simp) ?_⟩
  intro j hj
  obtain rfl : j = i := by simpa using hj
  unfold wpOp
  simp only [hi, hw, if_true]
  exact .inl (Oper.wp_mono (fun _ _ h => ⟨h.1, h.2.out⟩) h)
theorem anyG_done {fuel : Nat} {listed : Array Bool} {a : Act} {w : World} (hr : Region.ready md ops listed = []) (h : Q .normal a w) : AnyG P md ops Q S fuel listed a w :=
  ⟨wpAnyH_done hr (NoPanic.normal h) _⟩
end

end Go.Proofs.YtlflhjgfegflfaaDoor

namespace Go.Proofs.YtlflhjgfegflfaaDoor

section
variable {P : Program} {md : Region.Mode} {ops : Array Oper} {Q : Exit → Act → World → Prop} {S : World → Prop}
/-- What follows an operation. -/
structure AnyK (P : Program) (md : Region.Mode) (ops : Array Oper) (Q : Exit → Act → World → Prop) (S : World → Prop) (fuel : Nat) (listed : Array Bool) (K : Act → World → Prop) : Prop where
  out : ∀ a w, S w → AnyG P md ops Q S fuel listed a w → K a w
theorem anyG_step {i : Nat} {oi : Oper} {fuel : Nat} {listed : Array Bool} {a : Act} {w : World} (hi : ops[i]? = some oi)
    (hr : Region.ready md ops listed = [i]) (hw : Region.wanted oi (yielded ops a.tmps) = true)
    (h : ∀ K : Act → World → Prop, AnyK P md ops Q S fuel (listed.setIfInBounds i true) K → oi.wp P a w K (NoPanic Q)) : AnyG P md ops Q S (fuel + 1) listed a w :=
  anyG_one hi hr hw (h _ ⟨fun _ _ h1 h2 => ⟨h1, h2⟩⟩)
end
/-- Two operations may come up, each of them first. -/
theorem anyG_two {P : Program} {md : Region.Mode} {ops : Array Oper} {Q : Exit → Act → World → Prop} {S : World → Prop} {i j : Nat} {oi oj : Oper} {fuel : Nat} {listed : Array Bool} {a : Act} {w : World} (hi : ops[i]? = some oi) (hj : ops[j]? = some oj)
    (hr : Region.ready md ops listed = [i, j]) (hwi : Region.wanted oi (yielded ops a.tmps) = true) (hwj : Region.wanted oj (yielded ops a.tmps) = true)
    (h1 : ∀ K : Act → World → Prop, AnyK P md ops Q S fuel (listed.setIfInBounds i true) K → oi.wp P a w K (NoPanic Q)) (h2 : ∀ K : Act → World → Prop, AnyK P md ops Q S fuel (listed.setIfInBounds j true) K → oj.wp P a w K (NoPanic Q)) : AnyG P md ops Q S (fuel + 1) listed a w := by
  refine ⟨wpAnyH_all hr (by simp) ?_⟩
  intro k hk
  have hk : k = i ∨ k = j := by simpa using hk
  unfold wpOp
  rcases hk with rfl | rfl
  · simp only [hi, hwi, if_true]
    exact .inl (Oper.wp_mono (fun _ _ h => ⟨h.1, h.2.out⟩) (h1 (fun a w => S w ∧ AnyG P md ops Q S fuel (listed.setIfInBounds k true) a w) ⟨fun _ _ h1 h2 => ⟨h1, h2⟩⟩))
  · simp only [hj, hwj, if_true]
    exact .inl (Oper.wp_mono (fun _ _ h => ⟨h.1, h.2.out⟩) (h2 (fun a w => S w ∧ AnyG P md ops Q S fuel (listed.setIfInBounds k true) a w) ⟨fun _ _ h1 h2 => ⟨h1, h2⟩⟩))
/-- Of two operations that may come up either may be the first: the one only reads, the other is a call that leaves what the first one reads: both ways come to the same. -/
theorem anyG_quiet {P : Program} {md : Region.Mode} {ops : Array Oper} {Q : Exit → Act → World → Prop} {i j : Nat} {oi oj : Oper} {fuel : Nat} {listed : Array Bool} {a : Act} {w : World} (R : World → Prop) (di dj : Tmp) (vi vj : Value) (hi : ops[i]? = some oi) (hj : ops[j]? = some oj)
    (hdi : oi.dst = some di) (hdj : oj.dst = some dj) (hne : di ≠ dj) (hij : i ≠ j) (hr : Region.ready md ops listed = [i, j]) (hri : Region.ready md ops (listed.setIfInBounds i true) = [j]) (hrj : Region.ready md ops (listed.setIfInBounds j true) = [i])
    (hwi : Region.wanted oi (yielded ops a.tmps) = true) (hwj : Region.wanted oj (yielded ops a.tmps) = true) (hwi2 : Region.wanted oi (yielded ops (a.put (some dj) vj).tmps) = true) (hwj2 : Region.wanted oj (yielded ops (a.put (some di) vi).tmps) = true)
    (hrun : (execOp a.eval oi).run P w = .ok (.value vi) w) (hrun2 : ∀ w', R w' → (execOp (a.put (some dj) vj).eval oi).run P w' = .ok (.value vi) w')
    (hcall : ∀ K : Act → World → Prop, (∀ w', R w' → K (a.put (some dj) vj) w') → oj.wp P a w K (NoPanic Q))
    (hcall2 : ∀ K : Act → World → Prop, (∀ w', R w' → K ((a.put (some di) vi).put (some dj) vj) w') → oj.wp P (a.put (some di) vi) w K (NoPanic Q))
    (h : ∀ w', R w' → AnyG P md ops Q (fun _ => True) fuel ((listed.setIfInBounds i true).setIfInBounds j true) ((a.put (some di) vi).put (some dj) vj) w') : AnyG P md ops Q (fun _ => True) (fuel + 2) listed a w := by
  refine anyG_two (fuel := fuel + 1) hi hj hr hwi hwj (fun K hK => ?_) (fun K hK => ?_)
  · unfold Oper.wp
    rw [hrun]
    simp only [Oper.upon]
    rw [hdi]
    exact hK.out _ _ trivial (anyG_step hj hri hwj2 fun K' hK' => hcall2 K' fun w' hw => hK'.out _ _ trivial (h w' hw))
  · refine hcall K fun w' hw => hK.out _ _ trivial (anyG_step hi hrj hwi2 fun K' hK' => ?_)
    unfold Oper.wp
    rw [hrun2 w' hw]
    simp only [Oper.upon]
    rw [hdi]
    refine hK'.out _ _ trivial ?_
    rw [Array.setIfInBounds_comm _ _ hij.symm, Act.put_comm _ _ _ (by intro d h1 h2; cases h1; cases h2; exact hne rfl)]
    exact h w' hw

end Go.Proofs.YtlflhjgfegflfaaDoor
