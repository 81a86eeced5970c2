/- The longer inputs in memory: what the law's loop keeps. -/
import Derived.Test.YteghdepedlaneaaDoorGrowm
import Derived.Test.YteghdepedlaneaaDoorScopy
namespace Go.Proofs.YteghdepedlaneaaDoor
open Go.RowKit

structure LongsX (base : Nat) (w3 : World) (ins : List Strm) (gs lcap j : Nat) (wr : World) : Prop where
  le : j ≤ ins.length
  ex : ∃ X : StrX, X.length = ins.length ∧ OwnX base X (.slice (some ⟨gs, 0, none⟩) ins.length lcap) wr ∧ ∀ (k : Nat) i t, ins[k]? = some i → X[k]? = some t → (k < j → Longer i t.1 ∧ t.1.bytes.length ≤ i.bytes.length + 1000) ∧ (j ≤ k → t.1 = i)
  below : Below base w3 wr
theorem LongsX.start {base : Nat} {w3 : World} {ins : List Strm} {gs lcap : Nat} {X : StrX} (hX : X.map (·.1) = ins) (ho : OwnX base X (.slice (some ⟨gs, 0, none⟩) ins.length lcap) w3) : LongsX base w3 ins gs lcap 0 w3 := by
  refine ⟨Nat.zero_le _, ⟨X, by rw [← hX, List.length_map], ho, fun k i t hi ht => ⟨fun h => by omega, fun _ => ?_⟩⟩, Below.refl _ _⟩
  rw [← hX, List.getElem?_map, ht] at hi
  exact Option.some.inj hi
/-- One input of them, as it stands there. -/
theorem LongsX.here {base : Nat} {w3 : World} {ins : List Strm} {gs lcap j : Nat} {wr : World} (h : LongsX base w3 ins gs lcap j wr) {i : Strm} (hi : ins[j]? = some i) :
    ∃ (X : StrX) (bv : Value), X.length = ins.length ∧ OwnX base X (.slice (some ⟨gs, 0, none⟩) ins.length lcap) wr ∧ X[j]? = some (i, bv) ∧ (∀ (k : Nat) i t, ins[k]? = some i → X[k]? = some t → (k < j → Longer i t.1 ∧ t.1.bytes.length ≤ i.bytes.length + 1000) ∧ (j ≤ k → t.1 = i)) := by
  obtain ⟨X, hl, ho, hk⟩ := h.ex
  have hlt := (List.getElem?_eq_some_iff.1 hi).1
  obtain ⟨t, ht⟩ : ∃ t, X[j]? = some t := ⟨X[j], List.getElem?_eq_getElem (by omega)⟩
  have he := (hk j i t hi ht).2 (Nat.le_refl _)
  exact ⟨X, t.2, hl, ho, by rw [ht, ← he], hk⟩
theorem LongsX.step {base : Nat} {w3 : World} {ins : List Strm} {gs lcap j : Nat} {W : World} {X : StrX} {i i' : Strm} {bv : Value} (hl : X.length = ins.length) (hk : ∀ (k : Nat) i t, ins[k]? = some i → X[k]? = some t → (k < j → Longer i t.1 ∧ t.1.bytes.length ≤ i.bytes.length + 1000) ∧ (j ≤ k → t.1 = i))
    (hi : ins[j]? = some i) (hlo : Longer i i') (hle : i'.bytes.length ≤ i.bytes.length + 1000) (ho : OwnX base (X.set j (i', bv)) (.slice (some ⟨gs, 0, none⟩) ins.length lcap) W) (hb : Below base w3 W) : LongsX base w3 ins gs lcap (j + 1) W := by
  have hlt := (List.getElem?_eq_some_iff.1 hi).1
  refine ⟨hlt, ⟨_, by rw [List.length_set, hl], ho, fun k i0 t h0 ht => ?_⟩, hb⟩
  by_cases e : j = k
  · subst e
    rw [List.getElem?_set_self (by omega)] at ht
    cases ht
    rw [hi] at h0
    cases h0
    exact ⟨fun _ => ⟨hlo, hle⟩, fun h => by omega⟩
  · rw [List.getElem?_set_ne e] at ht
    obtain ⟨h1, h2⟩ := hk k i0 t h0 ht
    exact ⟨fun h => h1 (by omega), fun h => h2 (by omega)⟩
theorem LongsX.skip {base : Nat} {w3 : World} {ins : List Strm} {gs lcap j : Nat} {wr : World} (h : LongsX base w3 ins gs lcap j wr) {i : Strm} (hi : ins[j]? = some i) : LongsX base w3 ins gs lcap (j + 1) wr := by
  obtain ⟨X, bv, hl, ho, hj, hk⟩ := h.here hi
  have hs : X.set j (i, bv) = X := by
    obtain ⟨hlt, he⟩ := List.getElem?_eq_some_iff.1 hj
    rw [← he]
    exact List.set_getElem_self hlt
  exact LongsX.step hl hk hi (.inl rfl) (by omega) (by rw [hs]; exact ho) h.below
theorem LongsX.all {base : Nat} {w3 : World} {ins : List Strm} {gs lcap : Nat} {wr : World} (h : LongsX base w3 ins gs lcap ins.length wr) :
    ∃ ins', LongerAll ins ins' ∧ (∀ t ∈ ins', ∃ i ∈ ins, t.bytes.length ≤ i.bytes.length + 1000) ∧ IsStrms (base ≤ ·) wr (.slice (some ⟨gs, 0, none⟩) ins'.length lcap) ins' := by
  obtain ⟨X, hl, ho, hk⟩ := h.ex
  have ho2 : OwnX base X (.slice (some ⟨gs, 0, none⟩) (X.map (·.1)).length lcap) wr := by rw [List.length_map, hl]; exact ho
  refine ⟨X.map (·.1), ⟨by rw [List.length_map, hl], fun j i i' hi hi' => ?_⟩, fun t ht => ?_, ho2.is⟩
  · rw [List.getElem?_map] at hi'
    obtain ⟨x, hx, rfl⟩ := Option.map_eq_some_iff.1 hi'
    exact ((hk j i x hi hx).1 (List.getElem?_eq_some_iff.1 hi).1).1
  · obtain ⟨k, hk2⟩ := List.mem_iff_getElem?.1 ht
    rw [List.getElem?_map] at hk2
    obtain ⟨x, hx, rfl⟩ := Option.map_eq_some_iff.1 hk2
    have hlt := (List.getElem?_eq_some_iff.1 hx).1
    obtain ⟨i, hi⟩ : ∃ i, ins[k]? = some i := ⟨ins[k], List.getElem?_eq_getElem (by omega)⟩
    exact ⟨i, List.mem_of_getElem? hi, ((hk k i x hi hx).1 (by omega)).2⟩
/-- The slice has a block. -/
theorem OwnX.here {base : Nat} {X : StrX} {v : Value} {w : World} (h : OwnX base X v w) (hn : 0 < X.length) : ∃ gs cap, v = .slice (some ⟨gs, 0, none⟩) X.length cap := by
  rcases h.row.2 with ⟨-, h0⟩ | ⟨g, cap, cur, rfl, -⟩
  · omega
  · exact ⟨g, cap, rfl⟩

end Go.Proofs.YteghdepedlaneaaDoor
