/- A region that only reads, whose calls only read: one walk in the text's order. -/
import Derived.StillTactics
import Derived.Test.YtbanofgigfdlnaaDoorLmodel
namespace Go.Proofs.YtbanofgigfdlnaaDoor

section
variable {P : Program} {ops : Array Oper} {w : World}
/-- What is left of such a walk; no step of Lean's own looks into it. -/
structure StillG (P : Program) (ops : Array Oper) (w : World) (Q : Act → Prop) (l : List Oper) (a : Act) : Prop where
  out : wpStill P ops w Q l a
/-- What follows an operation. -/
structure StillK (P : Program) (ops : Array Oper) (w : World) (Q : Act → Prop) (l : List Oper) (K : Act → Prop) : Prop where
  out : ∀ a, StillG P ops w Q l a → K a
theorem stillG_step {Q : Act → Prop} {a : Act} {o : Oper} {rest : List Oper}
    (h : ∀ K : Act → Prop, StillK P ops w Q rest K → if Region.wanted o (yielded ops a.tmps) then o.still P a w K else K (a.put o.dst undef)) : StillG P ops w Q (o :: rest) a :=
  ⟨wpStill_step fun K hK => h K ⟨fun a ha => hK a ha.out⟩⟩
theorem stillG_nil {Q : Act → Prop} {a : Act} (h : Q a) : StillG P ops w Q [] a := ⟨wpStill_nil h⟩
theorem region_stillG {id : Nat} {Q : Exit → Act → World → Prop} {a : Act} {l : List Oper} (hm : P.follows .mixedOrders = true) (hB : Region.lexB .any l.toArray = true)
    (h : StillG P l.toArray w.drew (fun a' => Q .normal a' w.drew) l a) : (Code.region id l.toArray true).wp P Q a w := wp_region_still_lit hm hB h.out
end

end Go.Proofs.YtbanofgigfdlnaaDoor
