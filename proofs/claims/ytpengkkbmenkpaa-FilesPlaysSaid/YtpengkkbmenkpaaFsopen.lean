/- The laws' arguments, opened: a script and a list of calls. -/
import Derived.Test.YtpengkkbmenkpaaFscalls
import Derived.ProofKit
import Derived.SizedLaws
import Derived.Carry
import Derived.OpenShut
import Derived.Deep.Slices
import Derived.Deep.Fields
import Derived.ChangeSame
namespace Go.Proofs.Ytpengkkbmenkpaa
open Go.RowKit Go.ChangeShapes Go.WideShapes Go.ChangeAt Go.Deep

theorem Try.cells36 : Try.prog.cellsOf 36 = 5 := by kernel_rfl
theorem Try.cells51 : Try.prog.cellsOf 51 = 2 := by kernel_rfl
theorem Try.cells34 : Try.prog.cellsOf 34 = 1 := by kernel_rfl
theorem Try.cells3 : Try.prog.cellsOf 3 = 1 := by kernel_rfl
theorem Try.cells5 : Try.prog.cellsOf 5 = 1 := by kernel_rfl

section
variable {H : Type} {enc : TypeId × Value → H} {W : World}
theorem byte_of {n : Int} (h : (Lit.int .u8 n).wf = true) : ((UInt8.ofNat n.toNat).toNat : Int) = n := by
  have h2 : 0 ≤ n ∧ n ≤ 255 := by
    have h' : (decide (IntKind.u8.min ≤ n) && decide (n ≤ IntKind.u8.max)) = true := h
    rw [show IntKind.u8.min = 0 by decide, show IntKind.u8.max = 255 by decide] at h'
    simpa using h'
  have h3 : n.toNat < 256 := by omega
  simp [Nat.mod_eq_of_lt h3]
  omega
theorem spot_none {a : Addr} {v : Value} (h : W.cell? a = some v) : a.spot = none := by
  unfold World.cell? at h
  split at h
  · split at h
    · cases h
    · rename_i hs
      simpa using hs
  · cases h
theorem plain_addr {a : Addr} {v : Value} (h : W.cell? (a.add 0) = some v) : ∃ b off, a = ⟨b, off, none⟩ := by
  rw [Addr.add_zero'] at h
  obtain ⟨b, off, sp⟩ := a
  have := spot_none h
  simp only at this
  subst this
  exact ⟨b, off, rfl⟩
theorem some_at {α : Type} {xs : List α} {n j : Nat} (h : xs.length = n) (hj : j < n) : ∃ y, xs[j]? = some y := ⟨xs[j]'(by omega), List.getElem?_eq_getElem (by omega)⟩

theorem open_bytes {fuel : Nat} {V : Value} {x : DataW H × List MemPlace} (h : DataW.trod enc Try.prog W 0 (fun _ => true) true fuel 34 [V] = some x) : ∃ bs, IsBytes (· < W.heap.size) W V bs := by
  obtain ⟨D, ps⟩ := x
  rcases open_ints Try.underlying34 Try.underlying5 Try.cells5 h with ⟨hcs, _⟩ | ⟨a, len, cap, zs, hcs, _, hl, _, hz, hx, hc, hwf⟩
  · simp at hcs
    exact ⟨[], none, 0, by rw [hcs]; rfl, Nat.le_refl _, fun j c hj => by simp at hj⟩
  · simp at hcs hx hz
    obtain ⟨rfl, rfl⟩ := hx
    refine ⟨(zs.take len).map fun n => UInt8.ofNat n.toNat, some a, cap, by rw [hcs]; simp; omega, by simp; omega, fun j c hj => ?_⟩
    simp only [List.getElem?_map, Option.map_eq_some_iff] at hj
    obtain ⟨n, hn, rfl⟩ := hj
    have hjl : j < zs.length := by
      have := (List.getElem?_eq_some_iff.1 hn).1
      simp at this
      omega
    have hzn : zs[j]? = some n := by
      rw [List.getElem?_take] at hn
      split at hn
      · exact hn
      · cases hn
    obtain ⟨b, off, rfl⟩ := plain_addr (hc 0 (by omega))
    have hcj := hc j hjl
    rw [Addr.add_mid] at hcj
    refine ⟨b, off, rfl, block_lt_of_cell hcj, ?_⟩
    rw [hcj, byte_of (hwf n (List.mem_of_getElem? hzn))]
    simp [List.getD, hzn]

set_option maxRecDepth 100000 in
theorem open_fcall {fuel : Nat} {cs : List Value} {x : DataW H × List MemPlace} (h : DataW.trod enc Try.prog W 0 (fun _ => true) true fuel 36 cs = some x) :
    ∃ (c : FCall) (bv : Value), cs = callL c bv ∧ IsBytes (· < W.heap.size) W bv c.b ∧ I64 c.op ∧ I64 c.no ∧ I64 c.at' ∧ I64 c.most := by
  obtain ⟨xs, n, -, -, hl, hxl, hf⟩ := DataW.trod_struct Try.underlying36 h
  rw [Try.cells36] at hl
  match cs, hl with
  | [c0, c1, c2, c3, c4], _ =>
    obtain ⟨y0, hy0⟩ := some_at hxl (j := 0) (by decide)
    obtain ⟨y1, hy1⟩ := some_at hxl (j := 1) (by decide)
    obtain ⟨y2, hy2⟩ := some_at hxl (j := 2) (by decide)
    obtain ⟨y3, hy3⟩ := some_at hxl (j := 3) (by decide)
    obtain ⟨y4, hy4⟩ := some_at hxl (j := 4) (by decide)
    have h0 : DataW.trod enc Try.prog W 0 (fun _ => true) true n 3 (([c0, c1, c2, c3, c4].drop 0).take (Try.prog.cellsOf 3)) = xs[0]? := hf 0 _ rfl
    have h1 : DataW.trod enc Try.prog W 0 (fun _ => true) true n 3 (([c0, c1, c2, c3, c4].drop 1).take (Try.prog.cellsOf 3)) = xs[1]? := hf 1 _ rfl
    have h2 : DataW.trod enc Try.prog W 0 (fun _ => true) true n 3 (([c0, c1, c2, c3, c4].drop 2).take (Try.prog.cellsOf 3)) = xs[2]? := hf 2 _ rfl
    have h3 : DataW.trod enc Try.prog W 0 (fun _ => true) true n 3 (([c0, c1, c2, c3, c4].drop 3).take (Try.prog.cellsOf 3)) = xs[3]? := hf 3 _ rfl
    have h4 : DataW.trod enc Try.prog W 0 (fun _ => true) true n 34 (([c0, c1, c2, c3, c4].drop 4).take (Try.prog.cellsOf 34)) = xs[4]? := hf 4 _ rfl
    rw [hy0, Try.cells3] at h0
    rw [hy1, Try.cells3] at h1
    rw [hy2, Try.cells3] at h2
    rw [hy3, Try.cells3] at h3
    rw [hy4, Try.cells34] at h4
    simp only [List.drop_zero, List.drop_succ_cons, List.take_succ_cons, List.take_zero] at h0 h1 h2 h3 h4
    obtain ⟨i0, e0, -, w0⟩ := DataW.trod_int Try.underlying3 h0
    obtain ⟨i1, e1, -, w1⟩ := DataW.trod_int Try.underlying3 h1
    obtain ⟨i2, e2, -, w2⟩ := DataW.trod_int Try.underlying3 h2
    obtain ⟨i3, e3, -, w3⟩ := DataW.trod_int Try.underlying3 h3
    obtain ⟨bs, hb⟩ := open_bytes (V := c4) h4
    simp at e0 e1 e2 e3
    subst e0 e1 e2 e3
    exact ⟨⟨i0, i1, i2, i3, bs⟩, c4, rfl, hb, of_wf w0, of_wf w1, of_wf w2, of_wf w3⟩
set_option maxRecDepth 100000 in
theorem open_fail {fuel : Nat} {cs : List Value} {x : DataW H × List MemPlace} (h : DataW.trod enc Try.prog W 0 (fun _ => true) true fuel 51 cs = some x) :
    ∃ f : Int × Int, cs = [.int .i64 f.1, .int .i64 f.2] ∧ I64 f.1 ∧ I64 f.2 := by
  obtain ⟨xs, n, -, -, hl, hxl, hf⟩ := DataW.trod_struct Try.underlying51 h
  rw [Try.cells51] at hl
  match cs, hl with
  | [c0, c1], _ =>
    obtain ⟨y0, hy0⟩ := some_at hxl (j := 0) (by decide)
    obtain ⟨y1, hy1⟩ := some_at hxl (j := 1) (by decide)
    have h0 : DataW.trod enc Try.prog W 0 (fun _ => true) true n 3 (([c0, c1].drop 0).take (Try.prog.cellsOf 3)) = xs[0]? := hf 0 _ rfl
    have h1 : DataW.trod enc Try.prog W 0 (fun _ => true) true n 3 (([c0, c1].drop 1).take (Try.prog.cellsOf 3)) = xs[1]? := hf 1 _ rfl
    rw [hy0, Try.cells3] at h0
    rw [hy1, Try.cells3] at h1
    simp only [List.drop_zero, List.drop_succ_cons, List.take_succ_cons, List.take_zero] at h0 h1
    obtain ⟨i0, e0, -, w0⟩ := DataW.trod_int Try.underlying3 h0
    obtain ⟨i1, e1, -, w1⟩ := DataW.trod_int Try.underlying3 h1
    simp at e0 e1
    subst e0 e1
    exact ⟨(i0, i1), rfl, of_wf w0, of_wf w1⟩

set_option maxRecDepth 100000 in
theorem open_fcalls {v : Value} {d : DataW H} {ps : List MemPlace} {a0 : Option Addr} {l0 c0 : Nat} (hv : v = .slice a0 l0 c0) (h : DataW.Trod enc Try.prog W 0 (fun _ => true) true 23 v d ps) : ∃ L, IsFCalls (· < W.heap.size) W v L ∧ Calls64 L := by
  obtain ⟨fuel, hf⟩ := h
  subst hv
  rcases open_slice Try.underlying23 hf with ⟨hcs, _⟩ | ⟨a, len, cap, m, n, D, Pl, hcs, _, hl, _, hm, _, hi⟩
  · simp [Value.cells] at hcs
    obtain ⟨rfl, rfl, rfl⟩ := hcs
    exact ⟨[], ⟨none, 0, rfl, fun j b hj => by simp at hj⟩, fun c hc => by cases hc⟩
  · simp [Value.cells] at hcs
    obtain ⟨rfl, rfl, rfl⟩ := hcs
    simp only [if_true] at hm
    subst hm
    have each : ∀ i, i < l0 → ∃ c : FCall, (∃ bv, (∀ j u, (callL c bv)[j]? = some u → W.cell? ((a.add (i * 5)).add j) = some u) ∧ IsBytes (· < W.heap.size) W bv c.b) ∧ I64 c.op ∧ I64 c.no ∧ I64 c.at' ∧ I64 c.most := by
      intro i hil
      obtain ⟨cs', hc, ht⟩ := hi i (by omega)
      obtain ⟨c, bv, rfl, hb, hw⟩ := open_fcall ht
      rw [Try.cells36] at hc
      obtain ⟨_, _, hat⟩ := World.cells?_some hc
      refine ⟨c, ⟨bv, fun j u hj => ?_, hb⟩, hw⟩
      have : j < 5 := (List.getElem?_eq_some_iff.1 hj).1
      rw [hat j this, hj]
    haveI : Inhabited FCall := ⟨⟨0, 0, 0, 0, []⟩⟩
    obtain ⟨f, hfc⟩ := choose_lt each
    refine ⟨(List.range l0).map f, ⟨some a, m, by simp, fun j x hj => ?_⟩, fun c hc => ?_⟩
    · have hj' : j < l0 := by
        have := (List.getElem?_eq_some_iff.1 hj).1
        simpa using this
      have hx : x = f j := by
        simp [hj'] at hj
        exact hj.symm
      subst hx
      obtain ⟨⟨bv, hcj, hb⟩, -⟩ := hfc j hj'
      obtain ⟨⟨bv0, hc0, -⟩, -⟩ := hfc 0 (by omega)
      have h0 := hc0 0 _ rfl
      rw [Nat.zero_mul, Addr.add_zero'] at h0
      obtain ⟨b, off, rfl⟩ := plain_addr h0
      simp only [Addr.add_mid] at hcj
      exact ⟨b, off, bv, rfl, block_lt_of_cell (hcj 0 _ rfl), hcj 0 _ rfl, hcj 1 _ rfl, hcj 2 _ rfl, hcj 3 _ rfl, hcj 4 _ rfl, hb⟩
    · obtain ⟨i, hi', rfl⟩ := List.mem_map.1 hc
      exact (hfc i (List.mem_range.1 hi')).2

set_option maxRecDepth 100000 in
theorem open_script {v : Value} {d : DataW H} {ps : List MemPlace} {a0 : Option Addr} {l0 c0 : Nat} (hv : v = .slice a0 l0 c0) (h : DataW.Trod enc Try.prog W 0 (fun _ => true) true 22 v d ps) : ∃ S, IsScript (· < W.heap.size) W v S ∧ Script64 S := by
  obtain ⟨fuel, hf⟩ := h
  subst hv
  rcases open_slice Try.underlying22 hf with ⟨hcs, _⟩ | ⟨a, len, cap, m, n, D, Pl, hcs, _, hl, _, hm, _, hi⟩
  · simp [Value.cells] at hcs
    obtain ⟨rfl, rfl, rfl⟩ := hcs
    exact ⟨[], ⟨none, 0, rfl, fun j b hj => by simp at hj⟩, fun c hc => by cases hc⟩
  · simp [Value.cells] at hcs
    obtain ⟨rfl, rfl, rfl⟩ := hcs
    simp only [if_true] at hm
    subst hm
    have each : ∀ i, i < l0 → ∃ c : Int × Int, (∀ j u, ([.int .i64 c.1, .int .i64 c.2] : List Value)[j]? = some u → W.cell? ((a.add (i * 2)).add j) = some u) ∧ I64 c.1 ∧ I64 c.2 := by
      intro i hil
      obtain ⟨cs', hc, ht⟩ := hi i (by omega)
      obtain ⟨c, rfl, hw⟩ := open_fail ht
      rw [Try.cells51] at hc
      obtain ⟨_, _, hat⟩ := World.cells?_some hc
      refine ⟨c, fun j u hj => ?_, hw⟩
      have : j < 2 := (List.getElem?_eq_some_iff.1 hj).1
      rw [hat j this, hj]
    obtain ⟨f, hfc⟩ := choose_lt each
    refine ⟨(List.range l0).map f, ⟨some a, m, by simp, fun j x hj => ?_⟩, fun c hc => ?_⟩
    · have hj' : j < l0 := by
        have := (List.getElem?_eq_some_iff.1 hj).1
        simpa using this
      have hx : x = f j := by
        simp [hj'] at hj
        exact hj.symm
      subst hx
      obtain ⟨hcj, -⟩ := hfc j hj'
      obtain ⟨hc0, -⟩ := hfc 0 (by omega)
      have h0 := hc0 0 _ rfl
      rw [Nat.zero_mul, Addr.add_zero'] at h0
      obtain ⟨b, off, rfl⟩ := plain_addr h0
      simp only [Addr.add_mid] at hcj
      exact ⟨b, off, rfl, block_lt_of_cell (hcj 0 _ rfl), hcj 0 _ rfl, hcj 1 _ rfl⟩
    · obtain ⟨i, hi', rfl⟩ := List.mem_map.1 hc
      exact (hfc i (List.mem_range.1 hi')).2
end
end Go.Proofs.Ytpengkkbmenkpaa
