/- In a round of a loop over a function: a region that draws its order and only reads. -/
import Derived.Test.YtgipgeeiibkjjaaRefpop
import Derived.Test.YtgipgeeiibkjjaaBytesof
namespace Go.Proofs.Ytgipgeeiibkjjaa
open Go.RowKit Go.Shelf

section
variable {P : Program} {ops : Array Oper} {w : World} {lp n : Nat}

theorem opIn_of_still {o : Oper} {a : Act} {K : Act → Prop} {K' : Act → World → Prop} {Q' : Exit → Act → World → Prop} (hd : ∀ c, o.op ≠ .defer c) (h : ∀ a, K a → K' a w) (hh : o.still P a w K) : o.wpIn (Fence.wide.inRound lp) n P a w K' Q' := by
  refine ⟨fun _ _ => trivial, ?_⟩
  rw [Oper.semAt_eq _ _ _ hd]
  unfold Oper.still at hh
  generalize (execOp a.eval o).run P w = r at *
  cases r with
  | ok x w' =>
    cases x <;> simp only [Oper.stillUpon] at hh <;> simp only [Oper.uponIn]
    case enter f args =>
      obtain ⟨rfl, v, hc, hn⟩ := hh
      exact ⟨(fun h => by cases h), (CallsIn.inRound lp (callsIn_wide.2 hc)).mono fun e w'' ⟨he, hw⟩ => by subst he; subst hw; exact h _ hn⟩
    all_goals (obtain ⟨rfl, h2⟩ := hh; exact h _ h2)
  | halt x w' => simp only [Oper.stillUpon] at hh

theorem anyIn_of_still {md : Region.Mode} (hd : ∀ (j : Nat) (o : Oper), ops[j]? = some o → ∀ c, o.op ≠ .defer c) {Q : Act → Prop} {Q' : Exit → Act → World → Prop} (hQ : ∀ a, Q a → Q' .normal a w) : ∀ (fuel : Nat) (listed : Array Bool) (a : Act),
    wpAnyS P md ops w Q fuel listed a → wpAnyIn (Fence.wide.inRound lp) n P md ops Q' fuel listed a w
  | 0, _, _, h => ⟨h.1, hQ _ h.2⟩
  | fuel + 1, listed, a, h => ⟨fun h0 => hQ _ (h.1 h0), fun i hi => by
      have h1 := h.2 i hi
      unfold stOp at h1
      unfold wpOpIn
      split
      · rename_i ho
        simp only [ho] at h1
        exact anyIn_of_still hd hQ fuel _ a h1
      · rename_i o ho
        simp only [ho] at h1
        split
        · rename_i hw
          simp only [hw, if_true] at h1
          exact opIn_of_still (hd i o ho) (fun a' => anyIn_of_still hd hQ fuel _ a') h1
        · rename_i hw
          simp only [hw] at h1
          exact ⟨fun _ _ => trivial, anyIn_of_still hd hQ fuel _ _ h1⟩⟩

theorem region_still_in {id : Nat} {Q : Exit → Act → World → Prop} {a : Act} {l : List Oper} (hm : P.follows .mixedOrders = true) (hB : Region.lexB .any l.toArray = true) (hd : l.all (fun o => match o.op with | .defer _ => false | _ => true) = true)
    (h : wpStill P l.toArray { w with drawn := w.drawn + 1 } (fun a' => Q .normal a' { w with drawn := w.drawn + 1 }) l a) : (Code.region id l.toArray true).wpIn (Fence.wide.inRound lp) n P Q a w := by
  simp only [Region.lexB, Bool.and_eq_true] at hB
  refine wpIn_region_any hm (anyIn_of_still (Q := fun a' => Q .normal a' { w with drawn := w.drawn + 1 }) (fun j o hj c hc => by have := List.all_eq_true.1 hd o (by simpa using Array.mem_of_getElem? hj); simp [hc] at this) (fun _ h => h) _ _ _ ?_)
  have := wpAnyS_lex (md := .any) hB.1 l 0 (Array.replicate l.toArray.size false) a (by simp) (by simpa using hB.2) h
  simpa using this
end

end Go.Proofs.Ytgipgeeiibkjjaa
