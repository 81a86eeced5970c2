/- What heavy does. -/
import Derived.Test.YtlflhjgfegflfaaDoorGheavy
namespace Go.Proofs.YtlflhjgfegflfaaDoor
open Go.RowKit

set_option maxRecDepth 100000 in
set_option maxHeartbeats 4000000 in
theorem heavy_any {p q : Nat → Prop} (k n : Int) (va vb iv cv : Value) (A B : List UInt8) (ins : List Strm) (cc : List (List Int)) (w : World) (hA : Pm.IsBytes w va A) (hB : Pm.IsBytes w vb B) (hI : IsStrms p w iv ins) (hC : IsIntss q w cv cc) (hcl : cc.length ≤ 1000000) :
    Calls Tryd.prog 10 #[Pm.parV k n va vb, iv, cv] w (Pm.Gives w (.bool (heavyB A B ins cc))) := by
  obtain ⟨a, ca, rfl, -, -⟩ := hA
  obtain ⟨b, cb, rfl, -, -⟩ := hB
  obtain ⟨E, hE⟩ : ∃ E, E = heavyB A B ins cc := ⟨_, rfl⟩
  rw [← hE]
  have HE := Lib.hid hE
  clear hE
  have hb0 : Below w.heap.size w (w.alloc (.cells #[.int .i64 k, .int .i64 n, .slice a A.length ca, .slice b B.length cb] 24)) := (Below.refl _ _).alloc (Nat.le_refl _) _
  have HB0 := Lib.hid hb0
  have HI := Lib.hid (hI.below hb0)
  have HC := Lib.hid (hC.below hb0)
  obtain ⟨ai, ci, rfl, -⟩ := hI
  obtain ⟨ac, cc', rfl, -⟩ := hC
  unfold Pm.parV
  clear hb0
  by_cases h1 : (1000 : Int) < (A.length : Int)
  · obtain rfl : E = true := by rw [HE.out, heavyB, decide_eq_true (show 1000 < A.length by omega)]; rfl
    go_enter Tryd.func10, Tryd.ntmps10
    go_wp2
    go_ret
    exact ⟨rfl, HB0.out⟩
  · by_cases h2 : (1000 : Int) < (B.length : Int)
    · obtain rfl : E = true := by rw [HE.out, heavyB, decide_eq_true (show 1000 < B.length by omega)]; simp
      go_enter Tryd.func10, Tryd.ntmps10
      go_wp2
      go_ret
      exact ⟨rfl, HB0.out⟩
    · by_cases h3 : (8 : Int) < (ins.length : Int)
      · obtain rfl : E = true := by rw [HE.out, heavyB, decide_eq_true (show 8 < ins.length by omega)]; simp
        go_enter Tryd.func10, Tryd.ntmps10
        go_wp2
        go_ret
        exact ⟨rfl, HB0.out⟩
      · have HE2 := Lib.hid (show E = (ins.any (fun t => decide (2000 < t.bytes.length)) || cc.any (fun c => decide (3000 < c.length))) by
          rw [HE.out, heavyB, decide_eq_false (show ¬ 1000 < A.length by omega), decide_eq_false (show ¬ 1000 < B.length by omega), decide_eq_false (show ¬ 8 < ins.length by omega)]
          simp)
        clear HE
        go_enter Tryd.func10, Tryd.ntmps10
        go_wp2
        have HB1 := HB0.out
        have HI1 := HI.out
        have HC1 := HC.out
        clear HB0 HI HC
        generalize w.alloc (.cells #[.int .i64 k, .int .i64 n, .slice a A.length ca, .slice b B.length cb] 24) = W at HB1 HI1 HC1 ⊢
        have HB0 := Lib.hid HB1
        have HI := Lib.hid HI1
        have HC := Lib.hid HC1
        clear HB1 HI1 HC1
        go_loop [7] (fun i => ∃ j : Nat, i = .int .i64 j ∧ j ≤ ins.length ∧ (ins.take j).any (fun t => decide (2000 < t.bytes.length)) = false) (fun i => ins.length - (intOf i).toNat)
        case atStart => exact ⟨0, rfl, Nat.zero_le _, by simp⟩
        case round =>
          obtain ⟨j, rfl, hj, hn⟩ := hrel
          have HN := Lib.hid hn
          clear hn
          by_cases hlt : j < ins.length
          · obtain ⟨t, ht⟩ : ∃ t, ins[j]? = some t := ⟨ins[j], by simp⟩
            obtain ⟨_, _, e, hc⟩ := HI.out
            cases e
            obtain ⟨gb, off, bv, rfl, _, c0, _, _, _, _, hbv⟩ := hc j t ht
            obtain ⟨ab, cb2, rfl, -, -⟩ := hbv
            have HT := Lib.hid ht
            have g1 : (0 : Int) ≤ (j : Int) := by omega
            have g2 : (j : Int) < (ins.length : Int) := by omega
            clear ht hc
            by_cases hh : (2000 : Int) < (t.bytes.length : Int)
            · obtain rfl : E = true := by rw [HE2.out, any_at (fun t : Strm => decide (2000 < t.bytes.length)) HT.out (by simp; omega)]; rfl
              go_wp2
              go_ret
              exact ⟨rfl, HB0.out⟩
            · go_wp2
              go_round
              case rel => exact ⟨j + 1, by go_num, by omega, any_take _ HT.out HN.out (by simp; omega)⟩
              case measure => simp [intOf]; omega
          · obtain rfl : j = ins.length := by omega
            have g2 : ¬ (ins.length : Int) < (ins.length : Int) := by omega
            have HE3 := Lib.hid (show E = cc.any (fun c => decide (3000 < c.length)) by
              have := HN.out
              rw [List.take_length] at this
              rw [HE2.out, this]
              rfl)
            clear HN HE2 hlt
            go_wp2
            go_loop [8] (fun i => ∃ j : Nat, i = .int .i64 j ∧ j ≤ cc.length ∧ (cc.take j).any (fun c => decide (3000 < c.length)) = false) (fun i => cc.length - (intOf i).toNat)
            case atStart => exact ⟨0, rfl, Nat.zero_le _, by simp⟩
            case round =>
              obtain ⟨j, rfl, hj, hn⟩ := hrel
              have HN := Lib.hid hn
              clear hn
              by_cases hlt : j < cc.length
              · obtain ⟨t, ht⟩ : ∃ t, cc[j]? = some t := ⟨cc[j], by simp⟩
                obtain ⟨_, _, e, hc⟩ := HC.out
                cases e
                obtain ⟨gb, off, bv, rfl, _, c0, hbv⟩ := hc j t ht
                obtain ⟨ab, cb2, rfl, -⟩ := hbv
                have HT := Lib.hid ht
                have g1 : (0 : Int) ≤ (j : Int) := by omega
                have g3 : (j : Int) < (cc.length : Int) := by omega
                clear ht hc
                by_cases hh : (3000 : Int) < (t.length : Int)
                · obtain rfl : E = true := by rw [HE3.out, any_at (fun c : List Int => decide (3000 < c.length)) HT.out (by simp; omega)]
                  go_wp2
                  go_ret
                  exact ⟨rfl, HB0.out⟩
                · go_wp2
                  go_round
                  case rel => exact ⟨j + 1, by go_num, by omega, any_take _ HT.out HN.out (by simp; omega)⟩
                  case measure => simp [intOf]; omega
              · obtain rfl : j = cc.length := by omega
                have g3 : ¬ (cc.length : Int) < (cc.length : Int) := by omega
                have HE4 := Lib.hid (show E = false by
                  have := HN.out
                  rw [List.take_length] at this
                  rw [HE3.out, this])
                clear HN HE3 hlt
                go_wp2
                go_ret
                exact ⟨by rw [HE4.out]; rfl, HB0.out⟩

end Go.Proofs.YtlflhjgfegflfaaDoor
