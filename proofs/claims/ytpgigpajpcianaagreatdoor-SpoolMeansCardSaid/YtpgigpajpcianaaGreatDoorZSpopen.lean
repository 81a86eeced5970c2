/- A law's argument, opened: a script of errors. -/
import Derived.Test.YtpgigpajpcianaaGreatDoorZOpen
import Derived.Test.YtpgigpajpcianaaGreatDoorZFsA
namespace Go.Proofs.YtpgigpajpcianaaGreatDoor
open Go.ChangeShapes Go.WideShapes Go.ChangeAt Go.RowKit Go.Deep

theorem Tryz.cells90 : Tryz.prog.cellsOf 90 = 2 := by kernel_rfl
section
variable {H : Type} {enc : TypeId × Value → H} {W : World}
set_option maxRecDepth 100000 in
theorem open_fail {fuel : Nat} {cs : List Value} {x : DataW H × List MemPlace} (h : DataW.trod enc Tryz.prog W 0 (fun _ => true) true fuel 90 cs = some x) :
    ∃ f : Int × Int, cs = [.int .i64 f.1, .int .i64 f.2] ∧ I64 f.1 ∧ I64 f.2 := by
  obtain ⟨xs, n, -, -, hl, hxl, hf⟩ := DataW.trod_struct Tryz.underlying90 h
  rw [Tryz.cells90] at hl
  match cs, hl with
  | [c0, c1], _ =>
    obtain ⟨y0, hy0⟩ := some_at hxl (j := 0) (by decide)
    obtain ⟨y1, hy1⟩ := some_at hxl (j := 1) (by decide)
    have h0 : DataW.trod enc Tryz.prog W 0 (fun _ => true) true n 3 (([c0, c1].drop 0).take (Tryz.prog.cellsOf 3)) = xs[0]? := hf 0 _ rfl
    have h1 : DataW.trod enc Tryz.prog W 0 (fun _ => true) true n 3 (([c0, c1].drop 1).take (Tryz.prog.cellsOf 3)) = xs[1]? := hf 1 _ rfl
    rw [hy0, Tryz.cells3] at h0
    rw [hy1, Tryz.cells3] at h1
    simp only [List.drop_zero, List.drop_succ_cons, List.take_succ_cons, List.take_zero] at h0 h1
    obtain ⟨i0, e0, -, w0⟩ := DataW.trod_int Tryz.underlying3 h0
    obtain ⟨i1, e1, -, w1⟩ := DataW.trod_int Tryz.underlying3 h1
    simp at e0 e1
    subst e0 e1
    exact ⟨(i0, i1), rfl, of_wf w0, of_wf w1⟩
set_option maxRecDepth 100000 in
theorem open_script {v : Value} {d : DataW H} {ps : List MemPlace} {a0 : Option Addr} {l0 c0 : Nat} (hv : v = .slice a0 l0 c0) (h : DataW.Trod enc Tryz.prog W 0 (fun _ => true) true 37 v d ps) : ∃ S, IsScript (· < W.heap.size) W v S ∧ Script64 S := by
  obtain ⟨fuel, hf⟩ := h
  subst hv
  rcases open_slice Tryz.underlying37 hf with ⟨hcs, _⟩ | ⟨a, len, cap, m, n, D, Pl, hcs, _, hl, _, hm, _, hi⟩
  · simp [Value.cells] at hcs
    obtain ⟨rfl, rfl, rfl⟩ := hcs
    exact ⟨[], ⟨none, 0, rfl, fun j b hj => by simp at hj⟩, fun c hc => by cases hc⟩
  · simp [Value.cells] at hcs
    obtain ⟨rfl, rfl, rfl⟩ := hcs
    simp only [if_true] at hm
    subst hm
    have each : ∀ i, i < l0 → ∃ c : Int × Int, (∀ j u, ([.int .i64 c.1, .int .i64 c.2] : List Value)[j]? = some u → W.cell? ((a.add (i * 2)).add j) = some u) ∧ I64 c.1 ∧ I64 c.2 := by
      intro i hil
      obtain ⟨cs', hc, ht⟩ := hi i (by omega)
      obtain ⟨c, rfl, hw⟩ := open_fail ht
      rw [Tryz.cells90] at hc
      obtain ⟨_, _, hat⟩ := World.cells?_some hc
      refine ⟨c, fun j u hj => ?_, hw⟩
      have : j < 2 := (List.getElem?_eq_some_iff.1 hj).1
      rw [hat j this, hj]
    obtain ⟨f, hfc⟩ := choose_lt each
    refine ⟨(List.range l0).map f, ⟨some a, m, by simp, fun j x hj => ?_⟩, fun c hc => ?_⟩
    · have hj' : j < l0 := by
        have := (List.getElem?_eq_some_iff.1 hj).1
        simpa using this
      have hx : x = f j := by
        simp [hj'] at hj
        exact hj.symm
      subst hx
      obtain ⟨hcj, -⟩ := hfc j hj'
      obtain ⟨hc0, -⟩ := hfc 0 (by omega)
      have h0 := hc0 0 _ rfl
      rw [Nat.zero_mul, Addr.add_zero'] at h0
      obtain ⟨b, off, rfl⟩ := Pm.plain_addr h0
      simp only [Addr.add_mid] at hcj
      exact ⟨b, off, rfl, block_lt_of_cell (hcj 0 _ rfl), hcj 0 _ rfl, hcj 1 _ rfl⟩
    · obtain ⟨i, hi', rfl⟩ := List.mem_map.1 hc
      exact (hfc i (List.mem_range.1 hi')).2
end
end Go.Proofs.YtpgigpajpcianaaGreatDoor
