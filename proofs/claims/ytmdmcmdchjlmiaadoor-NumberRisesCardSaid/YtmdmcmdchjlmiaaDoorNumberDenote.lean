/- What number comes to is what the document says. -/
import Derived.Test.YtmdmcmdchjlmiaaDoorNumberDoc
import Derived.Test.YtmdmcmdchjlmiaaDoorNumberFace
namespace Go.Proofs.YtmdmcmdchjlmiaaDoor
open Go.RowKit

theorem number_case (N : Nat) (A B : List UInt8) (i : Strm) (g : GotL) (h1 : g.outs = (numberFin N A B i).outs) (h2 : g.need = (numberFin N A B i).need) (h3 : g.err = (numberFin N A B i).err) (hb : i.bytes.length ≤ 4000 := by omega) :
    g.outs 0 = (numberWant N A B i).bytes ∧ g.outs 1 = [] ∧ g.outs 2 = [] ∧ g.outs 3 = [] ∧ SameCase g [i] (numberWant N A B i) := by
  obtain ⟨f1, f2, f3⟩ := run_final numberT (fun _ _ => rfl) ((min N 1000000000 : Nat) : Int) i.bytes i.ended (i.code, i.stage, i.id)
  obtain ⟨-, hrl⟩ := readL_lines i.bytes i.ended (i.code, i.stage, i.id)
  have ho : (numberFin N A B i).outs = putOuts (fun _ => []) ((numsL (min N 1000000000) (readL i.bytes i.ended (i.code, i.stage, i.id)).1).map fun l => (0, l ++ [10])) := by
    show putOuts (fun _ => []) (finalB numberT (numberS (min N 1000000000)) i.bytes i.ended).2.1 = _
    rw [← runT_number _ _ (by have := hrl; omega), ← f1]
    rfl
  obtain ⟨p0, p1⟩ := putOuts_lines (numsL (min N 1000000000) (readL i.bytes i.ended (i.code, i.stage, i.id)).1) (fun _ => [])
  rw [← ho] at p0 p1
  have hn : (numberFin N A B i).need = needOf (finalB numberT ⟨true, false, [], ((min N 1000000000 : Nat) : Int)⟩ i.bytes i.ended).1 := rfl
  have he : (numberFin N A B i).err = (finalB numberT ⟨true, false, [], ((min N 1000000000 : Nat) : Int)⟩ i.bytes i.ended).2.2 := rfl
  refine ⟨by rw [h1, p0]; rfl, by rw [h1]; exact p1 1 (by decide), by rw [h1]; exact p1 2 (by decide), by rw [h1]; exact p1 3 (by decide), ?_⟩
  unfold SameCase numberWant
  simp only
  by_cases hc : (readL i.bytes i.ended (i.code, i.stage, i.id)).2.1 = true
  · obtain ⟨q1, q2⟩ := f2 hc
    refine .inl ⟨hc, ?_, by rw [h3, he, q2]⟩
    rw [h2, hn, needOf, q1]
    rfl
  · have hb : (readL i.bytes i.ended (i.code, i.stage, i.id)).2.1 = false := by simpa using hc
    rw [hb]
    rcases f3 hc with ⟨q1, q2, q3⟩ | ⟨q1, q2, q3⟩
    · refine .inr (.inl ⟨rfl, ?_, ?_, ?_⟩)
      · rw [h2, hn, needOf, q2]; rfl
      · rw [h3, he, q3]; decide
      · rw [h3, he, q3, q1]; rfl
    · refine .inr (.inr ⟨rfl, by rw [h3, he, q3], 0, i, ?_, rfl, ?_, ?_, ?_⟩)
      · rw [h2, hn, needOf, q2]; rfl
      · rw [q1]; rfl
      · rw [q1]; rfl
      · rw [q1]; rfl

end Go.Proofs.YtmdmcmdchjlmiaaDoor
