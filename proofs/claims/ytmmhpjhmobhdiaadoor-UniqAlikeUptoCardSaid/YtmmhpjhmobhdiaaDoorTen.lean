/- The library's table of the powers of ten, which strconv reads. -/
import Derived.Lib.ItoaLen
import Derived.Shelf.Strconv.Itoa3
import Derived.Test.YtmmhpjhmobhdiaaDoorRows
import Derived.LaidSub
import Derived.Test.YtmmhpjhmobhdiaaDoorDdefs
import Derived.Test.YtmmhpjhmobhdiaaDoorGheavy
namespace Go.Proofs.YtmmhpjhmobhdiaaDoor
open Go.Shelf Go.RowKit

/-- The library's table of the powers of ten. -/
def TenAt (w : World) : Prop := Lib.TabIs Tryd.prog w "internal/strconv.uint64pow10" .u64 Lib.pow10Tab
theorem ten_named : Tryd.prog.globalNamed "internal/strconv.uint64pow10" = some 1 := by kernel_rfl
theorem ten_iff {w : World} : TenAt w ↔ ∃ t m, w.heap[1]? = some (.cells (Lib.pow10Tab.map fun z => Value.int .u64 z).toArray t m) := by
  unfold TenAt Lib.TabIs World.var?
  rw [ten_named]
  simp only [Option.bind_some]
  constructor
  · intro h
    split at h
    · rename_i cs t m e
      cases h
      exact ⟨t, m, e⟩
    · cases h
  · rintro ⟨t, m, e⟩
    rw [e]
theorem TenAt.frame {p : Nat → Prop} {w w' : World} (h : TenAt w) (hf : Frame p w w') (hp : ¬ p 1) : TenAt w' := by
  obtain ⟨t, m, e⟩ := ten_iff.1 h
  exact ten_iff.2 ⟨t, m, hf.heap e hp⟩
theorem TenAt.lt {w : World} (h : TenAt w) : 1 < w.heap.size := by
  obtain ⟨t, m, e⟩ := ten_iff.1 h
  exact (Array.getElem?_eq_some_iff.1 e).1
theorem TenAt.below {w w' : World} (h : TenAt w) (hb : Below w.heap.size w w') : TenAt w' := h.frame (Below.toFrame hb fun _ => False) (fun h => h)
/-- What the machines ask of the world: the table of kinds, and that of the powers of ten. -/
def TenTab (w : World) : Prop := Pm.Tab w ∧ TenAt w
theorem TenTab.below {w w' : World} (h : TenTab w) (hb : Below w.heap.size w w') : TenTab w' := ⟨h.1.below hb, h.2.below hb⟩
set_option maxRecDepth 100000 in
theorem ten_laid : Rows.laid_internal_strconv_uint64pow10 (H := Unit) = Lib.tabData .u64 Lib.pow10Tab := rfl
theorem tenTab_of {l : List (String × DataW Unit)} {w : World} (hL : laidMetH Tryd.prog l w) (h1 : l.filter (fun x => x.1 == "penstock/params.rows") = [("penstock/params.rows", Rows.laid_penstock_params_rows)])
    (h2 : l.filter (fun x => x.1 == "internal/strconv.uint64pow10") = [("internal/strconv.uint64pow10", Rows.laid_internal_strconv_uint64pow10)]) : TenTab w := by
  have k1 := laidMetH.filter (fun x => x.1 == "penstock/params.rows") hL
  have k2 := laidMetH.filter (fun x => x.1 == "internal/strconv.uint64pow10") hL
  rw [h1] at k1
  rw [h2, ten_laid] at k2
  refine ⟨Pm.tab_of_laid k1, ?_⟩
  have k3 : laidMet Tryd.prog [("internal/strconv.uint64pow10", Lib.tabData .u64 Lib.pow10Tab)] w := k2
  exact Lib.tabIs_of_head (t := 127) (e := 120) (n := 20) ten_named (by kernel_rfl) Tryd.underlying127 Tryd.underlying120 (by kernel_rfl) (by kernel_rfl) k3

end Go.Proofs.YtmmhpjhmobhdiaaDoor
