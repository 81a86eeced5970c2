/- The laws' arguments, opened: streams and numbers. -/
import Derived.Test.YtlflhjgfegflfaaDoorPA
import Derived.Test.YtlflhjgfegflfaaDoorGheavy
import Derived.Deep.Slices
import Derived.Deep.Fields
import Derived.ChangeSame
namespace Go.Proofs.YtlflhjgfegflfaaDoor
open Go.ChangeShapes Go.WideShapes Go.ChangeAt Go.RowKit Go.Deep

theorem Tryd.cells61 : Tryd.prog.cellsOf 61 = 5 := by kernel_rfl
theorem Tryd.cells59 : Tryd.prog.cellsOf 59 = 3 := by kernel_rfl
theorem Tryd.cells22 : Tryd.prog.cellsOf 22 = 1 := by kernel_rfl
theorem Tryd.cells27 : Tryd.prog.cellsOf 27 = 1 := by kernel_rfl
theorem Tryd.cells3 : Tryd.prog.cellsOf 3 = 1 := by kernel_rfl
theorem Tryd.cells4 : Tryd.prog.cellsOf 4 = 1 := by kernel_rfl

section
variable {H : Type} {enc : TypeId × Value → H} {W : World}

theorem some_at {α : Type} {xs : List α} {n j : Nat} (h : xs.length = n) (hj : j < n) : ∃ y, xs[j]? = some y := ⟨xs[j]'(by omega), List.getElem?_eq_getElem (by omega)⟩

/- One stream: five cells. -/
set_option maxRecDepth 100000 in
theorem open_strm {fuel : Nat} {cs : List Value} {x : DataW H × List MemPlace} (h : DataW.trod enc Tryd.prog W 0 (fun _ => true) true fuel 61 cs = some x) :
    ∃ (t : Strm) (bv : Value), cs = [bv, .bool t.ended, .int .i64 t.code, .int .i64 t.stage, .int .i64 t.id] ∧ IsBytes (· < W.heap.size) W bv t.bytes := by
  obtain ⟨xs, n, -, -, hl, hxl, hf⟩ := DataW.trod_struct Tryd.underlying61 h
  rw [Tryd.cells61] at hl
  match cs, hl with
  | [c0, c1, c2, c3, c4], _ =>
    obtain ⟨y0, hy0⟩ := some_at hxl (j := 0) (by decide)
    obtain ⟨y1, hy1⟩ := some_at hxl (j := 1) (by decide)
    obtain ⟨y2, hy2⟩ := some_at hxl (j := 2) (by decide)
    have h0 : DataW.trod enc Tryd.prog W 0 (fun _ => true) true n 22 (([c0, c1, c2, c3, c4].drop 0).take (Tryd.prog.cellsOf 22)) = xs[0]? := hf 0 _ rfl
    have h1 : DataW.trod enc Tryd.prog W 0 (fun _ => true) true n 4 (([c0, c1, c2, c3, c4].drop 1).take (Tryd.prog.cellsOf 4)) = xs[1]? := hf 1 _ rfl
    have h2 : DataW.trod enc Tryd.prog W 0 (fun _ => true) true n 59 (([c0, c1, c2, c3, c4].drop 2).take (Tryd.prog.cellsOf 59)) = xs[2]? := hf 2 _ rfl
    rw [hy0, Tryd.cells22] at h0
    rw [hy1, Tryd.cells4] at h1
    rw [hy2, Tryd.cells59] at h2
    simp only [List.drop_zero, List.drop_succ_cons, List.take_succ_cons, List.take_zero] at h0 h1 h2
    obtain ⟨bs, hb⟩ := Pm.open_bytes (V := c0) h0
    obtain ⟨b, hb1, -⟩ := DataW.trod_bool Tryd.underlying4 h1
    obtain ⟨zs, n2, -, -, -, hzl, hg⟩ := DataW.trod_struct Tryd.underlying59 h2
    obtain ⟨z0, hz0⟩ := some_at hzl (j := 0) (by decide)
    obtain ⟨z1, hz1⟩ := some_at hzl (j := 1) (by decide)
    obtain ⟨z2, hz2⟩ := some_at hzl (j := 2) (by decide)
    have k0 : DataW.trod enc Tryd.prog W 0 (fun _ => true) true n2 27 ((([c2, c3, c4] : List Value).drop 0).take (Tryd.prog.cellsOf 27)) = zs[0]? := hg 0 _ rfl
    have k1 : DataW.trod enc Tryd.prog W 0 (fun _ => true) true n2 3 ((([c2, c3, c4] : List Value).drop 1).take (Tryd.prog.cellsOf 3)) = zs[1]? := hg 1 _ rfl
    have k2 : DataW.trod enc Tryd.prog W 0 (fun _ => true) true n2 3 ((([c2, c3, c4] : List Value).drop 2).take (Tryd.prog.cellsOf 3)) = zs[2]? := hg 2 _ rfl
    rw [hz0, Tryd.cells27] at k0
    rw [hz1, Tryd.cells3] at k1
    rw [hz2, Tryd.cells3] at k2
    simp only [List.drop_zero, List.drop_succ_cons, List.take_succ_cons, List.take_zero] at k0 k1 k2
    obtain ⟨i0, e0, -, -⟩ := DataW.trod_int Tryd.underlying27 k0
    obtain ⟨i1, e1, -, -⟩ := DataW.trod_int Tryd.underlying3 k1
    obtain ⟨i2, e2, -, -⟩ := DataW.trod_int Tryd.underlying3 k2
    simp at hb1 e0 e1 e2
    subst hb1 e0 e1 e2
    exact ⟨⟨bs, b, i0, i1, i2⟩, c0, rfl, hb.toP⟩

set_option maxRecDepth 100000 in
theorem open_strms {v : Value} {d : DataW H} {ps : List MemPlace} {a0 : Option Addr} {l0 c0 : Nat} (hv : v = .slice a0 l0 c0) (h : DataW.Trod enc Tryd.prog W 0 (fun _ => true) true 36 v d ps) : ∃ L, IsStrms (· < W.heap.size) W v L := by
  obtain ⟨fuel, hf⟩ := h
  subst hv
  rcases open_slice Tryd.underlying36 hf with ⟨hcs, _⟩ | ⟨a, len, cap, m, n, D, Pl, hcs, _, hl, _, hm, _, hi⟩
  · simp [Value.cells] at hcs
    obtain ⟨rfl, rfl, rfl⟩ := hcs
    exact ⟨[], none, 0, rfl, fun j b hj => by simp at hj⟩
  · simp [Value.cells] at hcs
    obtain ⟨rfl, rfl, rfl⟩ := hcs
    simp only [if_true] at hm
    subst hm
    have each : ∀ i, i < l0 → ∃ t : Strm, ∃ bv, (∀ j u, ([bv, .bool t.ended, .int .i64 t.code, .int .i64 t.stage, .int .i64 t.id] : List Value)[j]? = some u → W.cell? ((a.add (i * 5)).add j) = some u) ∧ IsBytes (· < W.heap.size) W bv t.bytes := by
      intro i hil
      obtain ⟨cs', hc, ht⟩ := hi i (by omega)
      obtain ⟨t, bv, rfl, hb⟩ := open_strm ht
      rw [Tryd.cells61] at hc
      obtain ⟨_, _, hat⟩ := World.cells?_some hc
      refine ⟨t, bv, fun j u hj => ?_, hb⟩
      have : j < 5 := (List.getElem?_eq_some_iff.1 hj).1
      rw [hat j this, hj]
    haveI : Inhabited Strm := ⟨⟨[], false, 0, 0, 0⟩⟩
    obtain ⟨f, hfc⟩ := choose_lt each
    refine ⟨(List.range l0).map f, some a, m, by simp, fun j x hj => ?_⟩
    have hj' : j < l0 := by
      have := (List.getElem?_eq_some_iff.1 hj).1
      simpa using this
    have hx : x = f j := by
      simp [hj'] at hj
      exact hj.symm
    subst hx
    obtain ⟨bv, hcj, hb⟩ := hfc j hj'
    obtain ⟨bv0, hc0, -⟩ := hfc 0 (by omega)
    have h0 := hc0 0 bv0 rfl
    rw [Nat.zero_mul, Addr.add_zero'] at h0
    obtain ⟨b, off, rfl⟩ := Pm.plain_addr h0
    simp only [Addr.add_mid] at hcj
    exact ⟨b, off, bv, rfl, block_lt_of_cell (hcj 0 bv rfl), hcj 0 _ rfl, hcj 1 _ rfl, hcj 2 _ rfl, hcj 3 _ rfl, hcj 4 _ rfl, hb⟩

set_option maxRecDepth 100000 in
theorem open_nums {v : Value} {d : DataW H} {ps : List MemPlace} {a0 : Option Addr} {l0 c0 : Nat} (hv : v = .slice a0 l0 c0) (h : DataW.Trod enc Tryd.prog W 0 (fun _ => true) true 37 v d ps) : ∃ L, IsInts (· < W.heap.size) W v L := by
  obtain ⟨fuel, hf⟩ := h
  subst hv
  rcases open_slice Tryd.underlying37 hf with ⟨hcs, _⟩ | ⟨a, len, cap, m, n, D, Pl, hcs, _, hl, _, hm, _, hi⟩
  · simp [Value.cells] at hcs
    obtain ⟨rfl, rfl, rfl⟩ := hcs
    exact ⟨[], none, 0, rfl, fun j b hj => by simp at hj⟩
  · simp [Value.cells] at hcs
    obtain ⟨rfl, rfl, rfl⟩ := hcs
    simp only [if_true] at hm
    subst hm
    have each : ∀ i, i < l0 → ∃ z : Int, W.cell? (a.add i) = some (.int .i64 z) := by
      intro i hil
      obtain ⟨cs', hc, ht⟩ := hi i (by omega)
      rw [Tryd.cells3] at hc
      obtain ⟨z, rfl, -, -⟩ := DataW.trod_int Tryd.underlying3 ht
      obtain ⟨_, _, hat⟩ := World.cells?_some hc
      have := hat 0 (by omega)
      rw [Addr.add_zero', Nat.mul_one] at this
      exact ⟨z, this⟩
    obtain ⟨f, hfc⟩ := choose_lt each
    refine ⟨(List.range l0).map f, some a, m, by simp, fun j x hj => ?_⟩
    have hj' : j < l0 := by
      have := (List.getElem?_eq_some_iff.1 hj).1
      simpa using this
    have hx : x = f j := by
      simp [hj'] at hj
      exact hj.symm
    subst hx
    obtain ⟨b, off, rfl⟩ := Pm.plain_addr (W := W) (a := a) (v := .int .i64 (f 0)) (hfc 0 (by omega))
    have hcj := hfc j hj'
    rw [Addr.add_mid] at hcj
    exact ⟨b, off, rfl, block_lt_of_cell hcj, hcj⟩
end
end Go.Proofs.YtlflhjgfegflfaaDoor
