/- The laws' arguments, opened: bytes, texts, and pieces in memory. -/
import Derived.Test.YtgpholcooabbfaaAwake
import Derived.ProofKit
import Derived.SizedLaws
import Derived.Deep.Slices
import Derived.Deep.Strs
import Derived.Carry
namespace Go.Proofs.Ytgpholcooabbfaa
open Go.ChangeShapes Go.WideShapes Go.ChangeAt Go.RowKit Go.Deep

/-- The value is a list of these pieces, in blocks of p. -/
def IsPieces (p : Nat → Prop) (w : World) (v : Value) (ps : List (List UInt8)) : Prop :=
  ∃ a cap, v = .slice a ps.length cap ∧ ∀ j b, ps[j]? = some b → ∃ gb off bv, a = some ⟨gb, off, none⟩ ∧ p gb ∧ w.cell? ⟨gb, off + j, none⟩ = some bv ∧ IsBytes p w bv b
theorem IsPieces.frame {p q : Nat → Prop} {w w' : World} {v : Value} {ps : List (List UInt8)} (h : IsPieces p w v ps) (hf : Frame q w w') (hpq : ∀ k, p k → ¬ q k) : IsPieces p w' v ps := by
  obtain ⟨a, cap, rfl, hc⟩ := h
  refine ⟨a, cap, rfl, fun j c hj => ?_⟩
  obtain ⟨gb, off, bv, rfl, hp, hx, hb⟩ := hc j c hj
  exact ⟨gb, off, bv, rfl, hp, hf.cell? hx (hpq _ hp), hb.frame hf hpq⟩
theorem IsPieces.below {p : Nat → Prop} {w w' : World} {v : Value} {ps : List (List UInt8)} (h : IsPieces p w v ps) (hb : Below w.heap.size w w') : IsPieces p w' v ps := h.frame (Below.toFrame hb fun _ => False) (fun _ _ h => h)

section
variable {H : Type} {enc : TypeId × Value → H} {W : World}

theorem Try.own : ownKnob Try.prog.godebug = none := by kernel_rfl
theorem Try.laidOut : laidOutB Try.prog = true := by kernel_rfl
theorem Try.cells5 : Try.prog.cellsOf 5 = 1 := by kernel_rfl
theorem Try.cells9 : Try.prog.cellsOf 9 = 1 := by kernel_rfl
theorem Try.cells31 : Try.prog.cellsOf 31 = 1 := by kernel_rfl
theorem Try.bytes5 : Try.prog.bytesOf 5 = 1 := by kernel_rfl
theorem Try.bytes31 : Try.prog.bytesOf 31 = 24 := by kernel_rfl
theorem reach_is : reachBytes = 140737488351232 := by decide

theorem byte_of {n : Int} (h : (Lit.int .u8 n).wf = true) : ((UInt8.ofNat n.toNat).toNat : Int) = n := by
  have h2 : 0 ≤ n ∧ n ≤ 255 := by
    have h' : (decide (IntKind.u8.min ≤ n) && decide (n ≤ IntKind.u8.max)) = true := h
    rw [show IntKind.u8.min = 0 by decide, show IntKind.u8.max = 255 by decide] at h'
    simpa using h'
  have h3 : n.toNat < 256 := by omega
  simp [Nat.mod_eq_of_lt h3]
  omega
theorem spot_none {a : Addr} {v : Value} (h : W.cell? a = some v) : a.spot = none := by
  unfold World.cell? at h
  split at h
  · split at h
    · cases h
    · rename_i hs
      simpa using hs
  · cases h
theorem plain_addr {a : Addr} {v : Value} (h : W.cell? (a.add 0) = some v) : ∃ b off, a = ⟨b, off, none⟩ := by
  rw [Addr.add_zero'] at h
  obtain ⟨b, off, sp⟩ := a
  have := spot_none h
  simp only at this
  subst this
  exact ⟨b, off, rfl⟩

theorem open_bytes {fuel : Nat} {V : Value} {D : DataW H} {ps : List MemPlace} (h : DataW.trod enc Try.prog W 0 (fun _ => true) true fuel 31 [V] = some (D, ps)) (hw : ∀ n ∈ D.weights Try.prog 31, n ≤ reachBytes) :
    ∃ bs, IsBytes (· < W.heap.size) W V bs ∧ bs.length ≤ 140737488355328 := by
  rcases open_ints Try.underlying31 Try.underlying5 Try.cells5 h with ⟨hcs, _⟩ | ⟨a, len, cap, zs, hcs, _, hl, _, hz, hx, hc, hwf⟩
  · simp at hcs
    exact ⟨[], ⟨none, 0, by rw [hcs]; rfl, Nat.le_refl _, fun j c hj => by simp at hj⟩, by simp⟩
  · simp at hcs hx hz
    obtain ⟨rfl, rfl⟩ := hx
    have hle : cap ≤ reachBytes := by
      have := hw ((lits (H := H) .u8 (zs.take len)).length + (lits (H := H) .u8 (zs.drop len)).length) (by simp [DataW.weights, Try.underlying31, Try.bytes5])
      simp [lits] at this
      omega
    refine ⟨(zs.take len).map fun n => UInt8.ofNat n.toNat, ⟨some a, cap, by rw [hcs]; simp; omega, by simp; omega, fun j c hj => ?_⟩, ?_⟩
    · simp only [List.getElem?_map, Option.map_eq_some_iff] at hj
      obtain ⟨n, hn, rfl⟩ := hj
      have hjl : j < zs.length := by
        have := (List.getElem?_eq_some_iff.1 hn).1
        simp at this
        omega
      have hzn : zs[j]? = some n := by
        rw [List.getElem?_take] at hn
        split at hn
        · exact hn
        · cases hn
      obtain ⟨b, off, rfl⟩ := plain_addr (hc 0 (by omega))
      have hcj := hc j hjl
      rw [Addr.add_mid] at hcj
      refine ⟨b, off, rfl, block_lt_of_cell hcj, ?_⟩
      rw [hcj, byte_of (hwf n (List.mem_of_getElem? hzn))]
      simp [List.getD, hzn]
    · rw [reach_is] at hle
      simp
      omega

/-- A list of texts. -/
theorem open_texts {v : Value} {d : DataW H} {ps : List MemPlace} {a0 : Option Addr} {l0 c0 : Nat} (hv : v = .slice a0 l0 c0) (h : DataW.Trod enc Try.prog W 0 (fun _ => true) true 36 v d ps) :
    ∃ L, IsTexts (· < W.heap.size) W v L := by
  obtain ⟨fuel, hf⟩ := h
  subst hv
  rcases open_strs Try.underlying36 Try.underlying9 Try.cells9 hf with ⟨hcs, _⟩ | ⟨a, len, cap, m, Sx, hcs, _, hl, _, hm, _, hc⟩
  · simp [Value.cells] at hcs
    obtain ⟨rfl, rfl, rfl⟩ := hcs
    exact ⟨[], none, 0, rfl, fun j b hj => by simp at hj⟩
  · simp [Value.cells] at hcs
    obtain ⟨rfl, rfl, rfl⟩ := hcs
    simp only [if_true] at hm
    subst hm
    refine ⟨(List.range l0).map fun i => (Sx i).data.toList, some a, m, by simp, fun j b hj => ?_⟩
    have hj' : j < l0 := by
      have := (List.getElem?_eq_some_iff.1 hj).1
      simpa using this
    have hx : b = (Sx j).data.toList := by
      simp [hj'] at hj
      exact hj.symm
    subst hx
    obtain ⟨b, off, rfl⟩ := plain_addr (hc 0 (by omega)).1
    have hcj := (hc j (by omega)).1
    rw [Addr.add_mid] at hcj
    exact ⟨b, off, rfl, block_lt_of_cell hcj, by rw [hcj, strV]⟩

theorem all_mem {e : TypeId} : ∀ {l : List (DataW H)} {d : DataW H}, d ∈ l → ∀ n ∈ d.weights Try.prog e, n ∈ DataW.weightsAll Try.prog e l
  | x :: r, d, hd, n, hn => by
    simp only [DataW.weightsAll, List.mem_append]
    rcases List.mem_cons.1 hd with rfl | hd
    · exact .inl hn
    · exact .inr (all_mem hd n hn)

/-- What the reading of the pieces bears. -/
structure Sized (l : List (List UInt8)) : Prop where
  len : l.length ≤ 140737488355328
  each : ∀ x ∈ l, x.length ≤ 140737488355328

/-- A list of pieces. -/
theorem open_pieces {v : Value} {d : DataW H} {ps : List MemPlace} {a0 : Option Addr} {l0 c0 : Nat} (hv : v = .slice a0 l0 c0) (h : DataW.Trod enc Try.prog W 0 (fun _ => true) true 22 v d ps) (hw : ∀ n ∈ d.weights Try.prog 22, n ≤ reachBytes) :
    ∃ L, IsPieces (· < W.heap.size) W v L ∧ Sized L := by
  obtain ⟨fuel, hf⟩ := h
  subst hv
  rcases open_slice1 Try.underlying22 Try.cells31 hf with ⟨hcs, _⟩ | ⟨a, len, cap, m, n, V, D, Pl, hcs, _, hl, _, hm, hx, hc⟩
  · simp [Value.cells] at hcs
    obtain ⟨rfl, rfl, rfl⟩ := hcs
    exact ⟨[], ⟨none, 0, rfl, fun j b hj => by simp at hj⟩, ⟨by simp, fun x hx => by cases hx⟩⟩
  · simp [Value.cells] at hcs
    obtain ⟨rfl, rfl, rfl⟩ := hcs
    simp only [Prod.mk.injEq] at hx
    obtain ⟨rfl, rfl⟩ := hx
    simp only [if_true] at hm
    subst hm
    have hlen : l0 ≤ reachBytes := by
      have := hw _ (by simp only [DataW.weights, Try.underlying22]; exact List.mem_cons_self)
      rw [Try.bytes31] at this
      simp at this
      omega
    have each : ∀ i, i < l0 → ∃ x : List UInt8, IsBytes (· < W.heap.size) W (V i) x ∧ x.length ≤ 140737488355328 := by
      intro i hi
      exact open_bytes (hc i (by omega)).2 (fun n hn => hw n (by
        simp only [DataW.weights, Try.underlying22, List.mem_cons, List.mem_append]
        exact .inr (.inl (all_mem (d := D i) (List.mem_map.2 ⟨i, List.mem_range.2 hi, rfl⟩) n hn))))
    obtain ⟨f, hfc⟩ := choose_lt each
    refine ⟨(List.range l0).map f, ⟨some a, m, by simp, fun j x hj => ?_⟩, ⟨by rw [reach_is] at hlen; simp; omega, fun x hx => ?_⟩⟩
    · have hj' : j < l0 := by
        have := (List.getElem?_eq_some_iff.1 hj).1
        simpa using this
      have hx : x = f j := by
        simp [hj'] at hj
        exact hj.symm
      subst hx
      obtain ⟨b, off, rfl⟩ := plain_addr (hc 0 (by omega)).1
      have hcj := (hc j (by omega)).1
      rw [Addr.add_mid] at hcj
      exact ⟨b, off, V j, rfl, block_lt_of_cell hcj, hcj, (hfc j hj').1⟩
    · obtain ⟨i, hi, rfl⟩ := List.mem_map.1 hx
      exact (hfc i (List.mem_range.1 hi)).2

end
end Go.Proofs.Ytgpholcooabbfaa
