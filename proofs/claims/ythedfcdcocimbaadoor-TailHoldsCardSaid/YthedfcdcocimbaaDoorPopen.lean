/- The laws' arguments and the table, opened. -/
import Derived.Test.YthedfcdcocimbaaDoorPmodel
import Derived.ProofKit
import Derived.SizedLaws
import Derived.Deep.Slices
import Derived.Carry
import Derived.OpenShut
import Derived.Lib.SmallJoins
import Derived.Lib.LaidTab
import Derived.Deep.DeepHandedRow
namespace Go.Proofs.YthedfcdcocimbaaDoor.Pm
open Go.ChangeShapes Go.WideShapes Go.ChangeAt Go.RowKit Go.Deep

theorem Tryd.own : ownKnob Tryd.prog.godebug = none := by kernel_rfl
theorem Tryd.laidOut : laidOutB Tryd.prog = true := by kernel_rfl
theorem Tryd.cells3 : Tryd.prog.cellsOf 3 = 1 := by kernel_rfl
theorem Tryd.cells5 : Tryd.prog.cellsOf 5 = 1 := by kernel_rfl
theorem Tryd.cells22 : Tryd.prog.cellsOf 22 = 1 := by kernel_rfl
theorem Tryd.cells24 : Tryd.prog.cellsOf 24 = 4 := by kernel_rfl
theorem Tryd.cells116 : Tryd.prog.cellsOf 116 = 7 := by kernel_rfl
theorem Tryd.cells117 : Tryd.prog.cellsOf 117 = 119 := by kernel_rfl
theorem gTab : Tryd.prog.globalNamed "penstock/params.rows" = some 0 := by kernel_rfl
theorem gTabType : (Tryd.prog.globals[0]?).map (·.type) = some 117 := by kernel_rfl

section
variable {H : Type} {enc : TypeId × Value → H} {W : World}

/-! The table. -/
def rowD {H : Type} (r : Kind) : DataW H := .agg (r.cells.map fun z => .lit (.int .i64 z))
theorem table_is : (Rows.laid_penstock_params_rows : DataW Unit) = .agg (kinds.map rowD) := rfl

theorem row_cells {base : Nat} {sp : Nat → Bool} {held : Bool} {fuel : Nat} {cs : List Value} {r : Kind} {p : List MemPlace} (h : DataW.trod enc Tryd.prog W base sp held fuel 116 cs = some (rowD r, p)) :
    ∀ (j : Nat) (z : Int), r.cells[j]? = some z → cs[j]? = some (Value.int .i64 z) := by
  obtain ⟨xs, n, -, hx, -, hlen, hf⟩ := DataW.trod_struct Tryd.underlying116 h
  simp only [rowD, Prod.mk.injEq, DataW.agg.injEq] at hx
  have hxs : xs.map (·.1) = r.cells.map fun z => .lit (.int .i64 z) := hx.1.symm
  have each : ∀ (j o : Nat), ((cs.drop o).take (Tryd.prog.cellsOf 3)).length ≤ 1 → DataW.trod enc Tryd.prog W base sp held n 3 ((cs.drop o).take (Tryd.prog.cellsOf 3)) = xs[j]? → ∀ z : Int, r.cells[j]? = some z → cs[o]? = some (Value.int .i64 z) := by
    intro j o _ h1 z hz
    have hj : (xs.map (·.1))[j]? = some (.lit (.int .i64 z)) := by rw [hxs, List.getElem?_map, hz]; rfl
    rw [List.getElem?_map] at hj
    cases hq : xs[j]? with
    | none => rw [hq] at hj; cases hj
    | some y =>
      rw [hq] at hj h1
      obtain ⟨m, hm, hy, -⟩ := DataW.trod_int Tryd.underlying3 h1
      rw [hy] at hj
      simp only [Option.map_some, Option.some.injEq, DataW.lit.injEq, Lit.int.injEq, true_and] at hj
      subst hj
      rw [Tryd.cells3] at hm
      have := congrArg (·[0]?) hm
      simpa [List.getElem?_take, List.getElem?_drop] using this
  intro j z hz
  have hj : j < 7 := (List.getElem?_eq_some_iff.1 hz).1
  have hle : ∀ o, ((cs.drop o).take (Tryd.prog.cellsOf 3)).length ≤ 1 := fun o => by rw [Tryd.cells3]; simp; omega
  obtain rfl | rfl | rfl | rfl | rfl | rfl | rfl : j = 0 ∨ j = 1 ∨ j = 2 ∨ j = 3 ∨ j = 4 ∨ j = 5 ∨ j = 6 := by omega
  · have hq := hf 0 _ rfl
    exact each 0 0 (hle _) hq z hz
  · have hq := hf 1 _ rfl
    exact each 1 1 (hle _) hq z hz
  · have hq := hf 2 _ rfl
    exact each 2 2 (hle _) hq z hz
  · have hq := hf 3 _ rfl
    exact each 3 3 (hle _) hq z hz
  · have hq := hf 4 _ rfl
    exact each 4 4 (hle _) hq z hz
  · have hq := hf 5 _ rfl
    exact each 5 5 (hle _) hq z hz
  · have hq := hf 6 _ rfl
    exact each 6 6 (hle _) hq z hz

theorem tab_of_laid (h : laidMetH Tryd.prog [("penstock/params.rows", Rows.laid_penstock_params_rows)] W) : Tab W := by
  have h' : laidMet Tryd.prog [("penstock/params.rows", Rows.laid_penstock_params_rows)] W := h
  obtain ⟨ps, ⟨g', t', cs, fuel, p, q, hg', ht', hvar, hd, _, _⟩, _⟩ := h'
  obtain rfl := Option.some.inj (gTab.symm.trans hg')
  obtain rfl := Option.some.inj (gTabType.symm.trans ht')
  rw [table_is] at hd
  obtain ⟨xs, m, -, hx, hl, hlen, hf⟩ := DataW.trod_array Tryd.underlying117 hd
  simp only [Prod.mk.injEq, DataW.agg.injEq] at hx
  have hxs : xs.map (·.1) = kinds.map rowD := hx.1.symm
  intro j z hj
  rw [World.var?_cell gTab hvar j]
  have hj119 : j < 119 := by have := (List.getElem?_eq_some_iff.1 hj).1; rwa [length_tabL] at this
  have hi : j / 7 < 17 := by omega
  have hj2 : 7 * (j / 7) + j % 7 = j := by omega
  have hz : (kindOf (j / 7)).cells[j % 7]? = some z := by rw [← tabL_at (j / 7) (by omega) (j % 7) (by omega), hj2, hj]
  have h1 := hf (j / 7) hi
  have hk : (xs.map (·.1))[j / 7]? = some (rowD (kindOf (j / 7))) := by
    rw [hxs, List.getElem?_map]
    have : kinds[j / 7]? = some (kindOf (j / 7)) := by
      have hl : kinds.length = 17 := rfl
      rw [kindOf, List.getD_eq_getElem?_getD, List.getElem?_eq_getElem (by omega)]
      rfl
    rw [this]
    rfl
  rw [List.getElem?_map] at hk
  cases hq : xs[j / 7]? with
  | none => rw [hq] at hk; cases hk
  | some y =>
    rw [hq] at hk h1
    obtain ⟨d, pp⟩ := y
    simp only [Option.map_some, Option.some.injEq] at hk
    subst hk
    have := row_cells h1 (j % 7) z hz
    rw [Tryd.cells116, List.getElem?_take, if_pos (by omega), List.getElem?_drop] at this
    rw [show j / 7 * 7 + j % 7 = j by omega] at this
    simpa [iv] using this

/-! Bytes, and parameters. -/
theorem byte_of {n : Int} (h : (Lit.int .u8 n).wf = true) : ((UInt8.ofNat n.toNat).toNat : Int) = n := by
  have h2 : 0 ≤ n ∧ n ≤ 255 := by
    have h' : (decide (IntKind.u8.min ≤ n) && decide (n ≤ IntKind.u8.max)) = true := h
    rw [show IntKind.u8.min = 0 by decide, show IntKind.u8.max = 255 by decide] at h'
    simpa using h'
  have h3 : n.toNat < 256 := by omega
  simp [Nat.mod_eq_of_lt h3]
  omega
theorem fits_of {n : Int} (h : (Lit.int .i64 n).wf = true) : Fits n := by
  have h' : (decide (IntKind.i64.min ≤ n) && decide (n ≤ IntKind.i64.max)) = true := h
  rw [show IntKind.i64.min = -9223372036854775808 by decide, show IntKind.i64.max = 9223372036854775807 by decide] at h'
  simpa [Fits] using h'
theorem spot_none {a : Addr} {v : Value} (h : W.cell? a = some v) : a.spot = none := by
  unfold World.cell? at h
  split at h
  · split at h
    · cases h
    · rename_i hs
      simpa using hs
  · cases h
theorem plain_addr {a : Addr} {v : Value} (h : W.cell? (a.add 0) = some v) : ∃ b off, a = ⟨b, off, none⟩ := by
  rw [Addr.add_zero'] at h
  obtain ⟨b, off, sp⟩ := a
  have := spot_none h
  simp only at this
  subst this
  exact ⟨b, off, rfl⟩

theorem open_bytes {fuel : Nat} {V : Value} {x : DataW H × List MemPlace} (h : DataW.trod enc Tryd.prog W 0 (fun _ => true) true fuel 22 [V] = some x) : ∃ bs, IsBytes W V bs := by
  obtain ⟨D, ps⟩ := x
  rcases open_ints Tryd.underlying22 Tryd.underlying5 Tryd.cells5 h with ⟨hcs, _⟩ | ⟨a, len, cap, zs, hcs, _, hl, _, hz, hx, hc, hwf⟩
  · simp at hcs
    exact ⟨[], none, 0, by rw [hcs]; rfl, Nat.le_refl _, fun j c hj => by simp at hj⟩
  · simp at hcs hx hz
    obtain ⟨rfl, rfl⟩ := hx
    refine ⟨(zs.take len).map fun n => UInt8.ofNat n.toNat, some a, cap, by rw [hcs]; simp; omega, by simp; omega, fun j c hj => ?_⟩
    simp only [List.getElem?_map, Option.map_eq_some_iff] at hj
    obtain ⟨n, hn, rfl⟩ := hj
    have hjl : j < zs.length := by
      have := (List.getElem?_eq_some_iff.1 hn).1
      simp at this
      omega
    have hzn : zs[j]? = some n := by
      rw [List.getElem?_take] at hn
      split at hn
      · exact hn
      · cases hn
    obtain ⟨b, off, rfl⟩ := plain_addr (hc 0 (by omega))
    have hcj := hc j hjl
    rw [Addr.add_mid] at hcj
    refine ⟨b, off, rfl, ?_⟩
    rw [hcj, byte_of (hwf n (List.mem_of_getElem? hzn))]
    simp [List.getD, hzn]

set_option maxRecDepth 100000 in
theorem open_par {base : Nat} {v : Value} {d : DataW H} {ps : List MemPlace} (hv : Value.okWide Tryd.prog W .any base 24 v) (h : DataW.Trod enc Tryd.prog W 0 (fun _ => true) true 24 v d ps) :
    ∃ k n va vb A B, v = parV k n va vb ∧ Fits k ∧ Fits n ∧ IsBytes W va A ∧ IsBytes W vb B := by
  obtain ⟨v0, v1, v2, v3, y0, y1, y2, y3, m, rfl, -, -, h0, h1, h2, h3⟩ := Joins.open_agg4 Tryd.underlying24 (by kernel_rfl) Tryd.cells24 hv h
  obtain ⟨k, hk, -, wk⟩ := DataW.trod_int Tryd.underlying3 h0
  obtain ⟨n, hn, -, wn⟩ := DataW.trod_int Tryd.underlying3 h1
  obtain ⟨A, hA⟩ := open_bytes h2
  obtain ⟨B, hB⟩ := open_bytes h3
  simp only [List.cons.injEq, and_true] at hk hn
  subst hk
  subst hn
  exact ⟨k, n, v2, v3, A, B, rfl, fits_of wk, fits_of wn, hA, hB⟩

end
end Go.Proofs.YthedfcdcocimbaaDoor.Pm
