/- What strconv.Itoa does: the shelf's contract, laid at this cut. -/
import Derived.Test.YtmmhpjhmobhdiaaDoorItoalays
import Derived.Test.YtmmhpjhmobhdiaaDoorTen
namespace Go.Proofs.YtmmhpjhmobhdiaaDoor
open Go.Shelf Go.RowKit

theorem itoa_any (n : Int) (h0 : -9223372036854775808 ≤ n) (h1 : n ≤ 9223372036854775807) (w : World) (hT : TenAt w) :
    Calls Tryd.prog 49 #[.int .i64 n] w fun e w' => e = .returned (strV (Lib.itoa n)) ∧ Below w.heap.size w w' :=
  (Go.Proofs.Any.strconv_Itoa laysM171 n h0 h1 w hT).mono fun e w' h => by
    obtain ⟨he, k, os, rfl⟩ := h
    refine ⟨he, ⟨rfl, rfl, rfl, ?_, fun i hi => ?_⟩⟩
    · show w.heap.size ≤ (w.heap ++ os).size
      simp
    · show (w.heap ++ os)[i]? = w.heap[i]?
      rw [Array.getElem?_append_left hi]

end Go.Proofs.YtmmhpjhmobhdiaaDoor
