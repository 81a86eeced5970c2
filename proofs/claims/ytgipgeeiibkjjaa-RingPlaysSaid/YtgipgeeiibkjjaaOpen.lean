/- The law's arguments, opened: a list of calls in memory. -/
import Derived.Test.YtgipgeeiibkjjaaValues
import Derived.ProofKit
import Derived.SizedLaws
import Derived.Deep.SlicePairs
import Derived.Carry
namespace Go.Proofs.Ytgipgeeiibkjjaa
open Go.ChangeShapes Go.WideShapes Go.ChangeAt Go.RowKit Go.Deep

section
variable {H : Type} {enc : TypeId × Value → H} {W : World}

theorem Try.cells5 : Try.prog.cellsOf 5 = 1 := by kernel_rfl
theorem Try.cells44 : Try.prog.cellsOf 44 = 2 := by kernel_rfl
theorem Try.cells3 : Try.prog.cellsOf 3 = 1 := by kernel_rfl
theorem Try.cells42 : Try.prog.cellsOf 42 = 1 := by kernel_rfl
theorem Try.bytes5 : Try.prog.bytesOf 5 = 1 := by kernel_rfl
theorem Try.bytes44 : Try.prog.bytesOf 44 = 32 := by kernel_rfl
theorem reach_is : reachBytes = 140737488351232 := by decide

theorem byte_of {n : Int} (h : (Lit.int .u8 n).wf = true) : ((UInt8.ofNat n.toNat).toNat : Int) = n := by
  have h2 : 0 ≤ n ∧ n ≤ 255 := by
    have h' : (decide (IntKind.u8.min ≤ n) && decide (n ≤ IntKind.u8.max)) = true := h
    rw [show IntKind.u8.min = 0 by decide, show IntKind.u8.max = 255 by decide] at h'
    simpa using h'
  have h3 : n.toNat < 256 := by omega
  simp [Nat.mod_eq_of_lt h3]
  omega

theorem open_bytes {fuel : Nat} {V : Value} {D : DataW H} {ps : List MemPlace} (h : DataW.trod enc Try.prog W 0 (fun _ => true) true fuel 42 [V] = some (D, ps)) (hw : ∀ n ∈ D.weights Try.prog 42, n ≤ reachBytes) :
    ∃ bs, IsBytes W V bs ∧ bs.length ≤ 140737488355328 := by
  rcases open_ints Try.underlying42 Try.underlying5 Try.cells5 h with ⟨hcs, _⟩ | ⟨a, len, cap, zs, hcs, _, hl, _, hz, hx, hc, hwf⟩
  · simp at hcs
    exact ⟨[], ⟨none, 0, by rw [hcs]; rfl, fun j c hj => by simp at hj⟩, by simp⟩
  · simp at hcs hx hz
    obtain ⟨rfl, rfl⟩ := hx
    have hle : cap ≤ reachBytes := by
      have := hw ((lits (H := H) .u8 (zs.take len)).length + (lits (H := H) .u8 (zs.drop len)).length) (by simp [DataW.weights, Try.underlying42, Try.bytes5])
      simp [lits] at this
      omega
    refine ⟨(zs.take len).map fun n => UInt8.ofNat n.toNat, ⟨some a, cap, by rw [hcs]; simp; omega, fun j c hj => ⟨a, rfl, ?_⟩⟩, ?_⟩
    · simp only [List.getElem?_map, Option.map_eq_some_iff] at hj
      obtain ⟨n, hn, rfl⟩ := hj
      have hjl : j < zs.length := by
        have := (List.getElem?_eq_some_iff.1 hn).1
        simp at this
        omega
      have hzn : zs[j]? = some n := by
        rw [List.getElem?_take] at hn
        split at hn
        · exact hn
        · cases hn
      rw [hc j hjl, byte_of (hwf n (List.mem_of_getElem? hzn))]
      simp [List.getD, hzn]
    · rw [reach_is] at hle
      simp
      omega

theorem open_int64 {fuel : Nat} {V : Value} {D : DataW H} {ps : List MemPlace} (h : DataW.trod enc Try.prog W 0 (fun _ => true) true fuel 3 [V] = some (D, ps)) : ∃ n, V = .int .i64 n := by
  cases fuel with
  | zero => simp [DataW.trod] at h
  | succ fuel =>
    cases V <;> simp [DataW.trod, Try.underlying3] at h
    obtain ⟨⟨rfl, _⟩, _⟩ := h
    exact ⟨_, rfl⟩

theorem all_mem {e : TypeId} : ∀ {l : List (DataW H)} {d : DataW H}, d ∈ l → ∀ n ∈ d.weights Try.prog e, n ∈ DataW.weightsAll Try.prog e l
  | x :: r, d, hd, n, hn => by
    simp only [DataW.weightsAll, List.mem_append]
    rcases List.mem_cons.1 hd with rfl | hd
    · exact .inl hn
    · exact .inr (all_mem hd n hn)

theorem spot_none {a : Addr} {v : Value} (h : W.cell? a = some v) : a.spot = none := by
  unfold World.cell? at h
  split at h
  · split at h
    · cases h
    · rename_i hs
      simpa using hs
  · cases h

/-- THE OPENING. -/
theorem open_calls {v : Value} {d : DataW H} {ps : List MemPlace} {a0 : Option Addr} {l0 c0 : Nat} (hv : v = .slice a0 l0 c0) (h : DataW.Trod enc Try.prog W 0 (fun _ => true) true 22 v d ps) (hw : ∀ n ∈ d.weights Try.prog 22, n ≤ reachBytes) :
    ∃ l, IsCalls W v l ∧ Sized l := by
  obtain ⟨fuel, hf⟩ := h
  subst hv
  rcases open_slice_pairs Try.underlying22 Try.underlying44 Try.cells44 rfl rfl Try.cells3 Try.cells42 hf with ⟨hcs, _⟩ | ⟨a, len, cap, m, n, V0, V1, D0, D1, P0, P1, hcs, _, hl, _, hm, hx, hc⟩
  · simp [Value.cells] at hcs
    obtain ⟨rfl, rfl, rfl⟩ := hcs
    exact ⟨[], .inl ⟨rfl, _, _, rfl⟩, ⟨by simp, fun x hx => by cases hx⟩⟩
  · simp [Value.cells] at hcs
    obtain ⟨rfl, rfl, rfl⟩ := hcs
    simp only [Prod.mk.injEq] at hx
    obtain ⟨rfl, rfl⟩ := hx
    simp only [if_true] at hm
    subst hm
    have hlen : l0 ≤ reachBytes := by
      have := hw _ (by simp only [DataW.weights, Try.underlying22]; exact List.mem_cons_self)
      rw [Try.bytes44] at this
      simp at this
      omega
    have each : ∀ i, i < l0 → ∃ x : Call, (V0 i = .int .i64 x.op ∧ IsBytes W (V1 i) x.bytes) ∧ x.bytes.length ≤ 140737488355328 := by
      intro i hi
      obtain ⟨_, _, h3, h4⟩ := hc i (by omega)
      obtain ⟨q, hq⟩ := open_int64 h3
      obtain ⟨bs, hb, hs⟩ := open_bytes h4 (fun n hn => hw n (by
        simp only [DataW.weights, Try.underlying22, List.mem_cons, List.mem_append]
        refine .inr (.inl (all_mem (d := .agg [D0 i, D1 i]) (List.mem_map.2 ⟨i, List.mem_range.2 hi, rfl⟩) n ?_))
        simp only [DataW.weights, Try.underlying44, DataW.weightsEach, List.map_cons, List.map_nil, List.mem_append]
        exact .inr (.inl hn)))
      exact ⟨⟨q, bs⟩, ⟨hq, hb⟩, hs⟩
    have inh : Inhabited Call := ⟨⟨0, []⟩⟩
    obtain ⟨f, hfc⟩ := choose_lt each
    refine ⟨(List.range l0).map f, ?_, ⟨by rw [reach_is] at hlen; simp; omega, fun x hx => ?_⟩⟩
    · rcases Nat.eq_zero_or_pos l0 with h0 | hpos
      · subst h0
        exact .inl ⟨rfl, _, _, rfl⟩
      · obtain ⟨hc0, _⟩ := hc 0 (by omega)
        obtain ⟨b, off, sp⟩ := a
        have hsp : sp = none := by
          rw [Nat.zero_mul, Addr.add_zero'] at hc0
          exact spot_none hc0
        subst hsp
        refine .inr ⟨b, off, m, by simp, fun j x hj => ?_⟩
        have hj' : j < l0 := by
          have := (List.getElem?_eq_some_iff.1 hj).1
          simpa using this
        have hx : x = f j := by
          simp [hj'] at hj
          exact hj.symm
        subst hx
        obtain ⟨h1, h2, _, _⟩ := hc j (by omega)
        obtain ⟨⟨h5, h6⟩, _⟩ := hfc j hj'
        rw [Addr.add_mid] at h1 h2
        exact ⟨V1 j, by rw [h1, h5], by rw [Nat.add_assoc]; exact h2, h6⟩
    · obtain ⟨i, hi, rfl⟩ := List.mem_map.1 hx
      exact (hfc i (List.mem_range.1 hi)).2

end
end Go.Proofs.Ytgipgeeiibkjjaa
