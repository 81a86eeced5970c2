/- What long does: whether pieces are more than are cut. -/
import Derived.Test.YtgpholcooabbfaaRefcut
namespace Go.Proofs.Ytgpholcooabbfaa
open Go.RowKit

def LongEnd (w : World) (ps : List (List UInt8)) (e : Ending) (w' : World) : Prop := ∃ b, e = .returned (.bool b) ∧ (b = false → ps.length ≤ 300 ∧ ps.flatten.length ≤ 8192) ∧ w = w'

set_option maxRecDepth 100000 in
set_option maxHeartbeats 1000000 in
theorem long_any {p : Nat → Prop} (v : Value) (ps : List (List UInt8)) (w : World) (hP : IsPieces p w v ps) (sP : Sized ps) : Calls Try.prog 8 #[v] w (LongEnd w ps) := by
  obtain ⟨a, cap, rfl, hc⟩ := hP
  have HC := Lib.hid hc
  have HE := Lib.hid sP.each
  have h63 := sP.len
  clear hc sP
  by_cases h3 : (300 : Int) < (ps.length : Int)
  · go_enter Try.func8, Try.ntmps8
    go_wp2
    go_ret
    exact ⟨true, rfl, (fun h => by cases h), rfl⟩
  go_enter Try.func8, Try.ntmps8
  go_wp2
  go_loop [3, 4] (fun t i => ∃ k : Nat, k ≤ ps.length ∧ i = .int .i64 k ∧ t = .int .i64 (ps.take k).flatten.length ∧ (ps.take k).flatten.length ≤ 8192) (fun _ i => ps.length - (intOf i).toNat)
  case atStart => exact ⟨0, Nat.zero_le _, rfl, by simp, by simp⟩
  case round =>
    obtain ⟨k, hk, rfl, rfl, ht⟩ := hrel
    by_cases hlt : k < ps.length
    · obtain ⟨x, hx⟩ : ∃ x, ps[k]? = some x := ⟨ps[k], by simp⟩
      obtain ⟨gb, off, bv, rfl, _, h2, h3⟩ := HC.out k x hx
      obtain ⟨a3, c3, rfl, _⟩ := h3
      have hxl := HE.out x (List.mem_of_getElem? hx)
      have hs : (ps.take (k + 1)).flatten.length = (ps.take k).flatten.length + x.length := by rw [take_flat hx, List.length_append]
      obtain ⟨T, hT⟩ : ∃ T, T = (ps.take k).flatten.length := ⟨_, rfl⟩
      rw [← hT] at ht hs ⊢
      have HS := Lib.hid hs
      have HT := Lib.hid hT
      clear hs hT hx
      have g1 : (0 : Int) ≤ (k : Int) := by omega
      have g2 : (k : Int) < (ps.length : Int) := by omega
      by_cases hbig : 8192 < T + x.length
      · have hb' : (8192 : Int) < (T : Int) + (x.length : Int) := by omega
        go_wp2
        go_ret
        exact ⟨true, rfl, (fun h => by cases h), rfl⟩
      · have hb' : ¬ (8192 : Int) < (T : Int) + (x.length : Int) := by omega
        go_wp2
        go_round
        case rel => exact ⟨k + 1, by omega, by go_num, by rw [HS.out]; go_num, by rw [HS.out]; omega⟩
        case measure => simp [intOf]; omega
    · obtain rfl : k = ps.length := by omega
      go_wp2
      go_ret
      refine ⟨false, rfl, fun _ => ⟨by omega, ?_⟩, rfl⟩
      rwa [List.take_length] at ht

end Go.Proofs.Ytgpholcooabbfaa
