/- What heavy does. -/
import Derived.Test.YtfdgkjmdbcehiaaDoorDdefs
import Derived.Test.YtfdgkjmdbcehiaaDoorPmodel
namespace Go.Proofs.YtfdgkjmdbcehiaaDoor
open Go.RowKit

/-- The value is a list of lists of numbers. -/
def IsIntss (p : Nat → Prop) (w : World) (v : Value) (L : List (List Int)) : Prop :=
  ∃ a cap, v = .slice a L.length cap ∧ ∀ j c, L[j]? = some c → ∃ gb off cv, a = some ⟨gb, off, none⟩ ∧ p gb ∧ w.cell? ⟨gb, off + j, none⟩ = some cv ∧ IsInts p w cv c
theorem IsIntss.frame {p q : Nat → Prop} {w w' : World} {v : Value} {L : List (List Int)} (h : IsIntss p w v L) (hf : Frame q w w') (hpq : ∀ k, p k → ¬ q k) : IsIntss p w' v L := by
  obtain ⟨a, cap, rfl, hc⟩ := h
  refine ⟨a, cap, rfl, fun j t hj => ?_⟩
  obtain ⟨gb, off, bv, rfl, hp, h1, hb⟩ := hc j t hj
  exact ⟨gb, off, bv, rfl, hp, hf.cell? h1 (hpq _ hp), hb.frame hf hpq⟩
theorem IsIntss.below {p : Nat → Prop} {w w' : World} {v : Value} {L : List (List Int)} (h : IsIntss p w v L) (hb : Below w.heap.size w w') : IsIntss p w' v L := h.frame (Below.toFrame hb fun _ => False) (fun _ _ h => h)

theorem IsBytes.toPm {p : Nat → Prop} {w : World} {v : Value} {bs : List UInt8} (h : IsBytes p w v bs) : Pm.IsBytes w v bs := by
  obtain ⟨a, cap, rfl, hle, hc⟩ := h
  refine ⟨a, cap, rfl, hle, fun j c hj => ?_⟩
  obtain ⟨gb, off, e, _, hx⟩ := hc j c hj
  exact ⟨gb, off, e, hx⟩
theorem Pm.IsBytes.toP {w : World} {v : Value} {bs : List UInt8} (h : Pm.IsBytes w v bs) : Go.Proofs.YtfdgkjmdbcehiaaDoor.IsBytes (· < w.heap.size) w v bs := by
  obtain ⟨a, cap, rfl, hle, hc⟩ := h
  refine ⟨a, cap, rfl, hle, fun j c hj => ?_⟩
  obtain ⟨gb, off, e, hx⟩ := hc j c hj
  exact ⟨gb, off, e, block_lt_of_cell hx, hx⟩

def heavyB (A B : List UInt8) (ins : List Strm) (cc : List (List Int)) : Bool :=
  decide (1000 < A.length) || decide (1000 < B.length) || decide (8 < ins.length) || ins.any (fun t => decide (2000 < t.bytes.length)) || cc.any (fun c => decide (3000 < c.length))
theorem heavy_no {A B : List UInt8} {ins : List Strm} {cc : List (List Int)} (h : heavyB A B ins cc = false) : A.length ≤ 1000 ∧ B.length ≤ 1000 ∧ ins.length ≤ 8 ∧ (∀ t ∈ ins, t.bytes.length ≤ 2000) ∧ ∀ c ∈ cc, c.length ≤ 3000 := by
  simp [heavyB] at h
  obtain ⟨⟨⟨⟨h1, h2⟩, h3⟩, h4⟩, h5⟩ := h
  exact ⟨h1, h2, h3, h4, h5⟩
theorem any_take {α : Type} (f : α → Bool) {L : List α} {k : Nat} {t : α} (h : L[k]? = some t) (h1 : (L.take k).any f = false) (h2 : f t = false) : (L.take (k + 1)).any f = false := by
  rw [take_snoc h, List.any_append, h1]
  simp [h2]
theorem any_at {α : Type} (f : α → Bool) {L : List α} {k : Nat} {t : α} (h : L[k]? = some t) (h2 : f t = true) : L.any f = true := List.any_eq_true.2 ⟨t, List.mem_of_getElem? h, h2⟩

set_option maxRecDepth 100000 in
set_option maxHeartbeats 4000000 in
theorem heavy_any {p q : Nat → Prop} (k n : Int) (va vb iv cv : Value) (A B : List UInt8) (ins : List Strm) (cc : List (List Int)) (w : World) (hA : Pm.IsBytes w va A) (hB : Pm.IsBytes w vb B) (hI : IsStrms p w iv ins) (hC : IsIntss q w cv cc) (hcl : cc.length ≤ 1000000) :
    Calls Tryd.prog 9 #[Pm.parV k n va vb, iv, cv] w (Pm.Gives w (.bool (heavyB A B ins cc))) := by
  obtain ⟨a, ca, rfl, -, -⟩ := hA
  obtain ⟨b, cb, rfl, -, -⟩ := hB
  obtain ⟨E, hE⟩ : ∃ E, E = heavyB A B ins cc := ⟨_, rfl⟩
  rw [← hE]
  have HE := Lib.hid hE
  clear hE
  have hb0 : Below w.heap.size w (w.alloc (.cells #[.int .i64 k, .int .i64 n, .slice a A.length ca, .slice b B.length cb] 24)) := (Below.refl _ _).alloc (Nat.le_refl _) _
  have HB0 := Lib.hid hb0
  have HI := Lib.hid (hI.below hb0)
  have HC := Lib.hid (hC.below hb0)
  obtain ⟨ai, ci, rfl, -⟩ := hI
  obtain ⟨ac, cc', rfl, -⟩ := hC
  unfold Pm.parV
  clear hb0
  by_cases h1 : (1000 : Int) < (A.length : Int)
  · obtain rfl : E = true := by rw [HE.out, heavyB, decide_eq_true (show 1000 < A.length by omega)]; rfl
    go_enter Tryd.func9, Tryd.ntmps9
    go_wp2
    go_ret
    exact ⟨rfl, HB0.out⟩
  · by_cases h2 : (1000 : Int) < (B.length : Int)
    · obtain rfl : E = true := by rw [HE.out, heavyB, decide_eq_true (show 1000 < B.length by omega)]; simp
      go_enter Tryd.func9, Tryd.ntmps9
      go_wp2
      go_ret
      exact ⟨rfl, HB0.out⟩
    · by_cases h3 : (8 : Int) < (ins.length : Int)
      · obtain rfl : E = true := by rw [HE.out, heavyB, decide_eq_true (show 8 < ins.length by omega)]; simp
        go_enter Tryd.func9, Tryd.ntmps9
        go_wp2
        go_ret
        exact ⟨rfl, HB0.out⟩
      · have HE2 := Lib.hid (show E = (ins.any (fun t => decide (2000 < t.bytes.length)) || cc.any (fun c => decide (3000 < c.length))) by
          rw [HE.out, heavyB, decide_eq_false (show ¬ 1000 < A.length by omega), decide_eq_false (show ¬ 1000 < B.length by omega), decide_eq_false (show ¬ 8 < ins.length by omega)]
          simp)
        clear HE
        go_enter Tryd.func9, Tryd.ntmps9
        go_wp2
        have HB1 := HB0.out
        have HI1 := HI.out
        have HC1 := HC.out
        clear HB0 HI HC
        generalize w.alloc (.cells #[.int .i64 k, .int .i64 n, .slice a A.length ca, .slice b B.length cb] 24) = W at HB1 HI1 HC1 ⊢
        have HB0 := Lib.hid HB1
        have HI := Lib.hid HI1
        have HC := Lib.hid HC1
        clear HB1 HI1 HC1
        go_loop [7] (fun i => ∃ j : Nat, i = .int .i64 j ∧ j ≤ ins.length ∧ (ins.take j).any (fun t => decide (2000 < t.bytes.length)) = false) (fun i => ins.length - (intOf i).toNat)
        case atStart => exact ⟨0, rfl, Nat.zero_le _, by simp⟩
        case round =>
          obtain ⟨j, rfl, hj, hn⟩ := hrel
          have HN := Lib.hid hn
          clear hn
          by_cases hlt : j < ins.length
          · obtain ⟨t, ht⟩ : ∃ t, ins[j]? = some t := ⟨ins[j], by simp⟩
            obtain ⟨_, _, e, hc⟩ := HI.out
            cases e
            obtain ⟨gb, off, bv, rfl, _, c0, _, _, _, _, hbv⟩ := hc j t ht
            obtain ⟨ab, cb2, rfl, -, -⟩ := hbv
            have HT := Lib.hid ht
            have g1 : (0 : Int) ≤ (j : Int) := by omega
            have g2 : (j : Int) < (ins.length : Int) := by omega
            clear ht hc
            by_cases hh : (2000 : Int) < (t.bytes.length : Int)
            · obtain rfl : E = true := by rw [HE2.out, any_at (fun t : Strm => decide (2000 < t.bytes.length)) HT.out (by simp; omega)]; rfl
              go_wp2
              go_ret
              exact ⟨rfl, HB0.out⟩
            · go_wp2
              go_round
              case rel => exact ⟨j + 1, by go_num, by omega, any_take _ HT.out HN.out (by simp; omega)⟩
              case measure => simp [intOf]; omega
          · obtain rfl : j = ins.length := by omega
            have g2 : ¬ (ins.length : Int) < (ins.length : Int) := by omega
            have HE3 := Lib.hid (show E = cc.any (fun c => decide (3000 < c.length)) by
              have := HN.out
              rw [List.take_length] at this
              rw [HE2.out, this]
              rfl)
            clear HN HE2 hlt
            go_wp2
            go_loop [8] (fun i => ∃ j : Nat, i = .int .i64 j ∧ j ≤ cc.length ∧ (cc.take j).any (fun c => decide (3000 < c.length)) = false) (fun i => cc.length - (intOf i).toNat)
            case atStart => exact ⟨0, rfl, Nat.zero_le _, by simp⟩
            case round =>
              obtain ⟨j, rfl, hj, hn⟩ := hrel
              have HN := Lib.hid hn
              clear hn
              by_cases hlt : j < cc.length
              · obtain ⟨t, ht⟩ : ∃ t, cc[j]? = some t := ⟨cc[j], by simp⟩
                obtain ⟨_, _, e, hc⟩ := HC.out
                cases e
                obtain ⟨gb, off, bv, rfl, _, c0, hbv⟩ := hc j t ht
                obtain ⟨ab, cb2, rfl, -⟩ := hbv
                have HT := Lib.hid ht
                have g1 : (0 : Int) ≤ (j : Int) := by omega
                have g3 : (j : Int) < (cc.length : Int) := by omega
                clear ht hc
                by_cases hh : (3000 : Int) < (t.length : Int)
                · obtain rfl : E = true := by rw [HE3.out, any_at (fun c : List Int => decide (3000 < c.length)) HT.out (by simp; omega)]
                  go_wp2
                  go_ret
                  exact ⟨rfl, HB0.out⟩
                · go_wp2
                  go_round
                  case rel => exact ⟨j + 1, by go_num, by omega, any_take _ HT.out HN.out (by simp; omega)⟩
                  case measure => simp [intOf]; omega
              · obtain rfl : j = cc.length := by omega
                have g3 : ¬ (cc.length : Int) < (cc.length : Int) := by omega
                have HE4 := Lib.hid (show E = false by
                  have := HN.out
                  rw [List.take_length] at this
                  rw [HE3.out, this])
                clear HN HE3 hlt
                go_wp2
                go_ret
                exact ⟨by rw [HE4.out]; rfl, HB0.out⟩

end Go.Proofs.YtfdgkjmdbcehiaaDoor
