/- Parts for Push and Pop. -/
import Derived.Test.YtgipgeeiibkjjaaDoesmall
import Derived.Deep.DeepCutAuto
import Derived.Deep.CutBlock
namespace Go.Proofs.Ytgipgeeiibkjjaa
open Go.RowKit

theorem Got2.wrote {w : World} {c : Nat} {L : Chunks} {v : Value} {q : Int} {bv : Value} {X Y d : Nat} {M : Chunks} {x : Value} {W : World} (h : Got2 w c L v q bv X Y d M x W) {g n : Nat} (hU : RowU8 W g n) (hlow : w.heap.size ≤ g) (j : Nat) (u : Value) : Got2 w c L v q bv X Y d M x (W.setCell ⟨g, j, none⟩ u) := by
  obtain ⟨o1, h1, h2⟩ := h.doing.r1
  obtain ⟨o2, h3, h4⟩ := h.doing.r2
  have tx : ∀ {y : Value} {N : Chunks}, IsTexts W y N → IsTexts (W.setCell ⟨g, j, none⟩ u) y N := by
    intro y N hy
    obtain ⟨e1, e2⟩ := hy
    refine ⟨e1, ?_⟩
    rcases e2 with e2 | ⟨k, cap, cur, e3, e4, e5, e6⟩
    · exact .inl e2
    · exact .inr ⟨k, cap, cur, e3, e4, (Below.heap_setCell _ _ _ _ (hU.other e5 (by decide))).trans e5, e6⟩
  exact ⟨⟨(Below.heap_setCell _ _ _ _ (hU.other h.doing.ring (by decide))).trans h.doing.ring, (Below.heap_setCell _ _ _ _ (hU.other h.doing.ref (by decide))).trans h.doing.ref, (Below.heap_setCell _ _ _ _ (hU.other h.doing.act (by decide))).trans h.doing.act,
    ⟨o1, h1, (Below.heap_setCell _ _ _ _ (hU.other h2 (by decide))).trans h2⟩, ⟨o2, h3, (Below.heap_setCell _ _ _ _ (hU.other h4 (by decide))).trans h4⟩, tx h.doing.txt, h.doing.bel.setCell (p := ⟨g, j, none⟩) hlow _⟩,
    (Below.heap_setCell _ _ _ _ (hU.other h.one (by decide))).trans h.one, (Below.heap_setCell _ _ _ _ (hU.other h.two (by decide))).trans h.two, tx h.txts⟩
theorem RowU8.below {W W' : World} {g n : Nat} (h : RowU8 W g n) (hb : Below W.heap.size W W') : RowU8 W' g n := by
  obtain ⟨cur, h1, h2⟩ := h
  exact ⟨cur, (hb.block _ (Array.getElem?_eq_some_iff.1 h1).1).trans h1, h2⟩
/-- A slice of bytes, made a text, an empty one too. -/
theorem conv_any {W : World} {v : Value} {bs : List UInt8} (h : IsBytes W v bs) : (convert 42 9 v).run Try.prog W = .ok (strV bs) W := by
  obtain ⟨a, cap, rfl, hc⟩ := h
  cases a with
  | none =>
    have hb : bs = [] := by
      cases bs with
      | nil => rfl
      | cons x r =>
        obtain ⟨_, e, _⟩ := hc 0 x rfl
        cases e
    subst hb
    exact run_convert_bytes_nil (P := Try.prog) (w := W) 42 5 Try.underlying42 Try.underlying5 0 cap 9 Try.underlying9
  | some ad =>
    exact run_convert_bytes_back (P := Try.prog) W 42 9 5 ad cap bs Try.underlying42 Try.underlying5 Try.underlying9 (fun j hj => by
      obtain ⟨ad', e, h⟩ := hc j bs[j] (by simp [hj])
      cases e
      exact h)
/-- The call's own copy of the bytes. -/
def OwnCopy (w : World) (c : Nat) (L : Chunks) (v : Value) (q : Int) (bv : Value) (bs : List UInt8) (s : Value) (W : World) : Prop :=
  ∃ g capv, s = .slice (some ⟨g, 0, none⟩) bs.length capv ∧ w.heap.size ≤ g ∧ RowU8 W g bs.length ∧ IsBytes W s bs ∧ Doing w c L v q bv W
theorem isBytes_of_owns {W : World} {base : Nat} {v : Value} {bs : List UInt8} (h : W.ownsRow base 5 1 v bs.length (bytesL bs)) : IsBytes W v bs := by
  have h' := h
  rcases h.2 with ⟨rfl, h0⟩ | ⟨g, cap, cur, rfl, _⟩
  · obtain rfl : bs = [] := List.eq_nil_of_length_eq_zero h0
    exact ⟨none, 0, rfl, fun j c hj => by simp at hj⟩
  · exact ⟨some ⟨g, 0, none⟩, cap, rfl, fun j c hj => ⟨_, rfl, World.ownsRow.cells h' (g := g) rfl j _ (by simp [bytesL, hj])⟩⟩
theorem rowU8_any {W : World} {base : Nat} {g cap : Nat} {bs : List UInt8} (h : W.ownsRow base 5 1 (.slice (some ⟨g, 0, none⟩) bs.length cap) bs.length (bytesL bs)) : RowU8 W g bs.length := by
  have h' := h
  rcases h.2 with ⟨e, _⟩ | ⟨g', cap', cur, e, _, h5, _⟩
  · cases e
  · cases e
    refine ⟨cur, h5, fun j hj => ⟨bs[j].toNat, ?_⟩⟩
    have := World.ownsRow.cells h' (g := g) rfl j (.int .u8 bs[j].toNat) (by simp [bytesL, hj])
    rwa [Addr.add_mid, Nat.zero_add, cell_of_row _ _ _ _ _ _ h5] at this

end Go.Proofs.Ytgipgeeiibkjjaa
