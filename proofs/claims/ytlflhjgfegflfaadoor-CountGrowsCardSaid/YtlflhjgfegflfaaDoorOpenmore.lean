/- Pieces and bools among a law's arguments. -/
import Derived.Test.YtlflhjgfegflfaaDoorOpen
import Derived.Test.YtlflhjgfegflfaaDoorGopen
import Derived.Deep.Slices
import Derived.Deep.Fields
import Derived.ChangeSame
namespace Go.Proofs.YtlflhjgfegflfaaDoor
open Go.ChangeShapes Go.WideShapes Go.ChangeAt Go.RowKit Go.Deep

section
variable {H : Type} {enc : TypeId × Value → H} {W : World}

set_option maxRecDepth 100000 in
theorem open_bools {v : Value} {d : DataW H} {ps : List MemPlace} {a0 : Option Addr} {l0 c0 : Nat} (hv : v = .slice a0 l0 c0) (h : DataW.Trod enc Tryd.prog W 0 (fun _ => true) true 56 v d ps) : ∃ L, IsBools (· < W.heap.size) W v L := by
  obtain ⟨fuel, hf⟩ := h
  subst hv
  rcases open_slice Tryd.underlying56 hf with ⟨hcs, _⟩ | ⟨a, len, cap, m, n, D, Pl, hcs, _, hl, _, hm, _, hi⟩
  · simp [Value.cells] at hcs
    obtain ⟨rfl, rfl, rfl⟩ := hcs
    exact ⟨[], none, 0, rfl, fun j b hj => by simp at hj⟩
  · simp [Value.cells] at hcs
    obtain ⟨rfl, rfl, rfl⟩ := hcs
    simp only [if_true] at hm
    subst hm
    have each : ∀ i, i < l0 → ∃ z : Bool, W.cell? (a.add i) = some (.bool z) := by
      intro i hil
      obtain ⟨cs', hc, ht⟩ := hi i (by omega)
      rw [Tryd.cells4] at hc
      obtain ⟨z, rfl, -⟩ := DataW.trod_bool Tryd.underlying4 ht
      obtain ⟨_, _, hat⟩ := World.cells?_some hc
      have := hat 0 (by omega)
      rw [Addr.add_zero', Nat.mul_one] at this
      exact ⟨z, this⟩
    obtain ⟨f, hfc⟩ := choose_lt each
    refine ⟨(List.range l0).map f, some a, m, by simp, fun j x hj => ?_⟩
    have hj' : j < l0 := by
      have := (List.getElem?_eq_some_iff.1 hj).1
      simpa using this
    have hx : x = f j := by
      simp [hj'] at hj
      exact hj.symm
    subst hx
    obtain ⟨b, off, rfl⟩ := Pm.plain_addr (W := W) (a := a) (v := .bool (f 0)) (hfc 0 (by omega))
    have hcj := hfc j hj'
    rw [Addr.add_mid] at hcj
    exact ⟨b, off, rfl, block_lt_of_cell hcj, hcj⟩

set_option maxRecDepth 100000 in
theorem open_pieces {v : Value} {d : DataW H} {ps : List MemPlace} {a0 : Option Addr} {l0 c0 : Nat} (hv : v = .slice a0 l0 c0) (h : DataW.Trod enc Tryd.prog W 0 (fun _ => true) true 55 v d ps) : ∃ L, IsPieces (· < W.heap.size) W v L := by
  obtain ⟨fuel, hf⟩ := h
  subst hv
  rcases open_slice Tryd.underlying55 hf with ⟨hcs, _⟩ | ⟨a, len, cap, m, n, D, Pl, hcs, _, hl, _, hm, _, hi⟩
  · simp [Value.cells] at hcs
    obtain ⟨rfl, rfl, rfl⟩ := hcs
    exact ⟨[], none, 0, rfl, fun j b hj => by simp at hj⟩
  · simp [Value.cells] at hcs
    obtain ⟨rfl, rfl, rfl⟩ := hcs
    simp only [if_true] at hm
    subst hm
    have each : ∀ i, i < l0 → ∃ z : List UInt8, ∃ bv, W.cell? (a.add i) = some bv ∧ IsBytes (· < W.heap.size) W bv z := by
      intro i hil
      obtain ⟨cs', hc, ht⟩ := hi i (by omega)
      rw [Tryd.cells22] at hc
      obtain ⟨_, _, hat⟩ := World.cells?_some hc
      have hl1 : cs'.length = 1 := by
        obtain ⟨-, h2, -⟩ := World.cells?_some hc
        exact h2
      match cs', hl1 with
      | [u], _ =>
        obtain ⟨bs, hb⟩ := Pm.open_bytes (V := u) ht
        have := hat 0 (by omega)
        rw [Addr.add_zero', Nat.mul_one] at this
        exact ⟨bs, u, this, hb.toP⟩
    obtain ⟨f, hfc⟩ := choose_lt each
    refine ⟨(List.range l0).map f, some a, m, by simp, fun j x hj => ?_⟩
    have hj' : j < l0 := by
      have := (List.getElem?_eq_some_iff.1 hj).1
      simpa using this
    have hx : x = f j := by
      simp [hj'] at hj
      exact hj.symm
    subst hx
    obtain ⟨bv0, hc0, -⟩ := hfc 0 (by omega)
    rw [Addr.add_zero'] at hc0
    obtain ⟨b, off, rfl⟩ := Pm.plain_addr hc0
    obtain ⟨bv, hcj, hb⟩ := hfc j hj'
    rw [Addr.add_mid] at hcj
    exact ⟨b, off, bv, rfl, block_lt_of_cell hcj, hcj, hb⟩
end
end Go.Proofs.YtlflhjgfegflfaaDoor
