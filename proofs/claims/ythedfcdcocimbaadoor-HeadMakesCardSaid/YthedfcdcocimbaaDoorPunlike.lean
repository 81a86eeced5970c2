/- What unlike does, both of them. -/
import Derived.Test.YthedfcdcocimbaaDoorPloops
namespace Go.Proofs.YthedfcdcocimbaaDoor.Pm
open Go.RowKit

/-- Which bytes were seen. -/
def seenA (L : List UInt8) : Array Value := ((List.range 256).map fun j => Value.bool (decide (UInt8.ofNat j ∈ L))).toArray
theorem seenA_at (L : List UInt8) (c : UInt8) : (seenA L)[c.toNat]? = some (.bool (decide (c ∈ L))) := by
  have h : c.toNat < 256 := c.toNat_lt
  simp [seenA, h]
theorem seenA_put (L : List UInt8) (c : UInt8) : (seenA L).setIfInBounds c.toNat (.bool true) = seenA (L ++ [c]) := by
  apply Array.ext
  · simp [seenA]
  · intro i h1 h2
    have hi : i < 256 := by simpa [seenA] using h2
    simp only [seenA, List.setIfInBounds_toArray, List.getElem_toArray, List.getElem_set, List.getElem_map, List.getElem_range]
    by_cases hc : c.toNat = i
    · have : UInt8.ofNat i = c := by rw [← hc]; simp
      simp [hc, this]
    · have : UInt8.ofNat i ≠ c := by
        intro e
        apply hc
        rw [← e]
        simp [Nat.mod_eq_of_lt hi]
      simp [hc, this]
theorem Tryd.info123 : (Tryd.prog.info? 123).map (fun i => (i.zero, i.size)) = some (some (.agg (seenA [])), 256) := by kernel_rfl
theorem Tryd.zero123 (w : World) : (zeroValue 123).run Tryd.prog w = .ok (.agg (seenA [])) w := (zero_of_info Tryd.info123).1 w
theorem setCell_row {w : World} {g : Nat} {cs : Array Value} {t : TypeId} {fr : Nat × Nat} (hg : w.heap[g]? = some (.cells cs t fr)) (o : Nat) (v : Value) : (w.setCell ⟨g, o, none⟩ v).heap[g]? = some (.cells (cs.setIfInBounds o v) t fr) := by
  simp only [World.setCell, Array.getElem?_modify, if_true, hg, Option.map_some]
  rfl
theorem Below.setNew {B : Nat} {a b : World} (h : Below B a b) (x : Addr) (v : Value) (hx : B ≤ x.block) : Below B a (b.setCell x v) :=
  h.trans ⟨rfl, rfl, rfl, by simp [World.setCell], fun k hk => Below.heap_setCell b x v k (by omega)⟩
theorem nodup_step {A : List UInt8} {k : Nat} {c : UInt8} (hk : A[k]? = some c) (h : (A.take k).Nodup) (hc : c ∉ A.take k) : (A.take (k + 1)).Nodup ∧ A.take (k + 1) = A.take k ++ [c] := by
  obtain ⟨hl, e⟩ := List.getElem?_eq_some_iff.1 hk
  have e2 : A.take (k + 1) = A.take k ++ [c] := by rw [List.take_succ_eq_append_getElem hl, e]
  refine ⟨?_, e2⟩
  rw [e2, List.nodup_append]
  refine ⟨h, by simp, ?_⟩
  intro a ha b hb
  rw [List.mem_singleton] at hb
  subst hb
  intro e
  exact hc (e ▸ ha)
theorem not_nodup {A : List UInt8} {k : Nat} {c : UInt8} (hk : A[k]? = some c) (hc : c ∈ A.take k) : ¬ A.Nodup := by
  intro h
  obtain ⟨hl, e⟩ := List.getElem?_eq_some_iff.1 hk
  have : A = A.take k ++ A.drop k := (List.take_append_drop k A).symm
  rw [this, List.nodup_append] at h
  refine h.2.2 c hc c ?_ rfl
  rw [List.drop_eq_getElem_cons hl, e]
  exact List.mem_cons_self

set_option maxRecDepth 100000 in
set_option maxHeartbeats 400000 in
theorem unlike_any (v : Value) (A : List UInt8) (w : World) (hA : IsBytes w v A) (hs : A.length ≤ 2000) :
    Calls Tryd.prog 69 #[v] w (Gives w (.bool (decide A.Nodup))) := by
  obtain ⟨a, cap, rfl, hle, hc⟩ := hA
  have HC := Lib.hid hc
  clear hc
  have hz := Tryd.zero123
  have hb0 : Below w.heap.size w (w.alloc (.cells (seenA []) 123)) := (Below.refl _ _).alloc (Nat.le_refl _) _
  have hh0 : (w.alloc (.cells (seenA []) 123)).heap[w.heap.size]? = some (.cells (seenA []) 123 (0, 0)) := heap_alloc_last w _
  have HB := Lib.hid hb0
  have HH := Lib.hid hh0
  clear hb0 hh0
  go_enter Tryd.func69, Tryd.ntmps69
  go_wp2
  go_loopw [8] (fun i wr => ∃ k : Nat, k ≤ A.length ∧ i = .int .i64 k ∧ (A.take k).Nodup ∧ wr.heap[w.heap.size]? = some (.cells (seenA (A.take k)) 123 (0, 0)) ∧ Below w.heap.size w wr) (fun i _ => A.length - (intOf i).toNat)
  case atStart => exact ⟨0, Nat.zero_le _, rfl, by simp, HH.out, HB.out⟩
  case round =>
    obtain ⟨k, hk, rfl, hn, hh, hb⟩ := hrel
    clear HB HH hz
    by_cases hlt : k < A.length
    · obtain ⟨c, hcx⟩ : ∃ c, A[k]? = some c := ⟨A[k], by simp⟩
      obtain ⟨gb, off, rfl, hx⟩ := HC.out k c hcx
      have hx' := Below.cell hb hx
      have g1 : (0 : Int) ≤ (k : Int) := by omega
      have g2 : (k : Int) < (A.length : Int) := by omega
      have g4 : (c.toNat : Int) < 256 := by have := c.toNat_lt; omega
      have hcell : wr.cell? ⟨w.heap.size, c.toNat, none⟩ = some (.bool (decide (c ∈ A.take k))) := by rw [cell_of_row _ _ _ _ _ _ hh]; exact seenA_at _ c
      have hfz : wr.frozen? ⟨w.heap.size, c.toNat, none⟩ = false := by simp [World.frozen?, hh]
      have HN := Lib.hid hn
      have HX := Lib.hid hcx
      have HH := Lib.hid hh
      have HB := Lib.hid hb
      clear hn hcx hx hh hb
      by_cases he : c ∈ A.take k
      · rw [decide_eq_true he] at hcell
        go_wp2
        go_ret
        refine ⟨?_, HB.out⟩
        rw [decide_eq_false (not_nodup HX.out he)]
        rfl
      · rw [decide_eq_false he] at hcell
        go_wp2
        go_roundw
        case rel =>
          obtain ⟨e1, e2⟩ := nodup_step HX.out HN.out he
          refine ⟨k + 1, by omega, by go_num, e1, ?_, Below.setNew HB.out _ _ (Nat.le_refl _)⟩
          rw [setCell_row HH.out, seenA_put, e2]
        case measure => simp [intOf]; omega
    · have g2 : ¬ (k : Int) < (A.length : Int) := by omega
      obtain rfl : k = A.length := by omega
      rw [List.take_length] at hn
      have HN := Lib.hid hn
      have HB := Lib.hid hb
      clear hn hh hb
      go_wp2
      go_ret
      refine ⟨?_, HB.out⟩
      rw [decide_eq_true HN.out]
      rfl

end Go.Proofs.YthedfcdcocimbaaDoor.Pm
